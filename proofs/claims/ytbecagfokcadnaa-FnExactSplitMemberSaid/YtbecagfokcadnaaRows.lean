/-
  No cell of these rows narrows 'for every input' (looked for: loops, veiled, ifaces, maps, wideKeys, modest, calm, conditions, laid).
  DERIVED. THE GIVEN ROWS OF THIS SEAT. 8 by the template 'for every input the law returns true; each argument reads behind the call as it read before'; 0 by the template 'total and deterministic' (their statements: YtbecagfokcadnaaTotals.lean).
  GIVEN WITH THE SEED: the statements are not yours to turn. If you find one false, say at which input.
  Laid BY PROGRAM, IN A SANDBOX (cutbox-rows.mjs): the forced cells as the released guide's own fill.sh prints them over the translation 9d7c10b201e7811b… (all of the seat's roots in one cut). By AI agents, Wed Nov 11 2026. No macro, syntax, notation, axiom, sorry.
-/
import Derived.Test.YtbecagfokcadnaaChecked
import GoSem.Claim
import GoSem.ClaimJoined
import GoSem.ClaimMapViews
import Derived.JoinedTies
import Derived.KernelRfl
namespace Go.Proofs.Ytbecagfokcadnaa
/- THE CELL 'sum', in the pinned program and in every row, IS THE sha256 OF THE DUMP (.gsa) THAT YtbecagfokcadnaaProg.lean LOADS. Nothing in Lean hashes anything: it is a label: what it is worth is what the hold of that sum in a sandbox is worth. -/
noncomputable def Try.pinned : Pinned := { name := "ytbecagfokcadnaa", sum := "9d7c10b201e7811baa340229876923f14727c793df3d5126ca7faf9cd7f51aec", checked := Try.checked }
namespace Rows
def none {H : Type} : Left H := { results := [], args := [] }

/-- 'laws.FnExactSplitMember': WHATEVER THE INPUT: true; the input reads as it did. -/
def fnExactSplitMemberSpec : ChangeSpec := { name := "fnExactSplitMember", fn := fun _ => fun
  | [d1, d2, d3] => { results := [.lit (.bool true)], args := [d1, d2, d3] }
  | _ => none }
def fnExactSplitMemberRow : OpenClaim := { program := "ytbecagfokcadnaa", sum := "9d7c10b201e7811baa340229876923f14727c793df3d5126ca7faf9cd7f51aec", func := "loop.example/g01275/laws.FnExactSplitMember", spec := "fnExactSplitMember", apart := false }
def FnExactSplitMemberSaid : Prop := fnExactSplitMemberRow.holds Try.pinned (OpenSpec.ofChange fnExactSplitMemberSpec)

/-- ITS FALSE NEIGHBOUR: 'it returns false'. Refute it at one input. -/
def fnExactSplitMemberWrong : ChangeSpec := { name := "fnExactSplitMember", fn := fun _ => fun
  | [d1, d2, d3] => { results := [.lit (.bool false)], args := [d1, d2, d3] }
  | _ => none }
def FnExactSplitMemberWrongFalsely : Prop := fnExactSplitMemberRow.holds Try.pinned (OpenSpec.ofChange fnExactSplitMemberWrong)

/-- 'laws.FnExactSplitGain': WHATEVER THE INPUT: true; the input reads as it did. -/
def fnExactSplitGainSpec : ChangeSpec := { name := "fnExactSplitGain", fn := fun _ => fun
  | [d1, d2, d3] => { results := [.lit (.bool true)], args := [d1, d2, d3] }
  | _ => none }
def fnExactSplitGainRow : OpenClaim := { program := "ytbecagfokcadnaa", sum := "9d7c10b201e7811baa340229876923f14727c793df3d5126ca7faf9cd7f51aec", func := "loop.example/g01275/laws.FnExactSplitGain", spec := "fnExactSplitGain", unfollowed := true, recurses := true, apart := false }
def FnExactSplitGainSaid : Prop := fnExactSplitGainRow.holds Try.pinned (OpenSpec.ofChange fnExactSplitGainSpec)

/-- ITS FALSE NEIGHBOUR: 'it returns false'. Refute it at one input. -/
def fnExactSplitGainWrong : ChangeSpec := { name := "fnExactSplitGain", fn := fun _ => fun
  | [d1, d2, d3] => { results := [.lit (.bool false)], args := [d1, d2, d3] }
  | _ => none }
def FnExactSplitGainWrongFalsely : Prop := fnExactSplitGainRow.holds Try.pinned (OpenSpec.ofChange fnExactSplitGainWrong)

/-- 'laws.FnExactAddMember': WHATEVER THE INPUT: true; the input reads as it did. -/
def fnExactAddMemberSpec : ChangeSpec := { name := "fnExactAddMember", fn := fun _ => fun
  | [d1, d2] => { results := [.lit (.bool true)], args := [d1, d2] }
  | _ => none }
def fnExactAddMemberRow : OpenClaim := { program := "ytbecagfokcadnaa", sum := "9d7c10b201e7811baa340229876923f14727c793df3d5126ca7faf9cd7f51aec", func := "loop.example/g01275/laws.FnExactAddMember", spec := "fnExactAddMember", apart := false }
def FnExactAddMemberSaid : Prop := fnExactAddMemberRow.holds Try.pinned (OpenSpec.ofChange fnExactAddMemberSpec)

/-- ITS FALSE NEIGHBOUR: 'it returns false'. Refute it at one input. -/
def fnExactAddMemberWrong : ChangeSpec := { name := "fnExactAddMember", fn := fun _ => fun
  | [d1, d2] => { results := [.lit (.bool false)], args := [d1, d2] }
  | _ => none }
def FnExactAddMemberWrongFalsely : Prop := fnExactAddMemberRow.holds Try.pinned (OpenSpec.ofChange fnExactAddMemberWrong)

/-- 'laws.FnExactGiveWeight': WHATEVER THE INPUT: true; the input reads as it did. -/
def fnExactGiveWeightSpec : ChangeSpec := { name := "fnExactGiveWeight", fn := fun _ => fun
  | [d1, d2, d3, d4] => { results := [.lit (.bool true)], args := [d1, d2, d3, d4] }
  | _ => none }
def fnExactGiveWeightRow : OpenClaim := { program := "ytbecagfokcadnaa", sum := "9d7c10b201e7811baa340229876923f14727c793df3d5126ca7faf9cd7f51aec", func := "loop.example/g01275/laws.FnExactGiveWeight", spec := "fnExactGiveWeight", apart := false }
def FnExactGiveWeightSaid : Prop := fnExactGiveWeightRow.holds Try.pinned (OpenSpec.ofChange fnExactGiveWeightSpec)

/-- ITS FALSE NEIGHBOUR: 'it returns false'. Refute it at one input. -/
def fnExactGiveWeightWrong : ChangeSpec := { name := "fnExactGiveWeight", fn := fun _ => fun
  | [d1, d2, d3, d4] => { results := [.lit (.bool false)], args := [d1, d2, d3, d4] }
  | _ => none }
def FnExactGiveWeightWrongFalsely : Prop := fnExactGiveWeightRow.holds Try.pinned (OpenSpec.ofChange fnExactGiveWeightWrong)

/-- 'laws.FnExactGiverGains': WHATEVER THE INPUT: true; the input reads as it did. -/
def fnExactGiverGainsSpec : ChangeSpec := { name := "fnExactGiverGains", fn := fun _ => fun
  | [d1, d2, d3, d4] => { results := [.lit (.bool true)], args := [d1, d2, d3, d4] }
  | _ => none }
def fnExactGiverGainsRow : OpenClaim := { program := "ytbecagfokcadnaa", sum := "9d7c10b201e7811baa340229876923f14727c793df3d5126ca7faf9cd7f51aec", func := "loop.example/g01275/laws.FnExactGiverGains", spec := "fnExactGiverGains", unfollowed := true, recurses := true, apart := false }
def FnExactGiverGainsSaid : Prop := fnExactGiverGainsRow.holds Try.pinned (OpenSpec.ofChange fnExactGiverGainsSpec)

/-- ITS FALSE NEIGHBOUR: 'it returns false'. Refute it at one input. -/
def fnExactGiverGainsWrong : ChangeSpec := { name := "fnExactGiverGains", fn := fun _ => fun
  | [d1, d2, d3, d4] => { results := [.lit (.bool false)], args := [d1, d2, d3, d4] }
  | _ => none }
def FnExactGiverGainsWrongFalsely : Prop := fnExactGiverGainsRow.holds Try.pinned (OpenSpec.ofChange fnExactGiverGainsWrong)

/-- 'laws.FnExactCountQuarrelWins': WHATEVER THE INPUT: true; the input reads as it did. -/
def fnExactCountQuarrelWinsSpec : ChangeSpec := { name := "fnExactCountQuarrelWins", fn := fun _ => fun
  | [d1, d2, d3] => { results := [.lit (.bool true)], args := [d1, d2, d3] }
  | _ => none }
def fnExactCountQuarrelWinsRow : OpenClaim := { program := "ytbecagfokcadnaa", sum := "9d7c10b201e7811baa340229876923f14727c793df3d5126ca7faf9cd7f51aec", func := "loop.example/g01275/laws.FnExactCountQuarrelWins", spec := "fnExactCountQuarrelWins", unfollowed := true, recurses := true, apart := false }
def FnExactCountQuarrelWinsSaid : Prop := fnExactCountQuarrelWinsRow.holds Try.pinned (OpenSpec.ofChange fnExactCountQuarrelWinsSpec)

/-- ITS FALSE NEIGHBOUR: 'it returns false'. Refute it at one input. -/
def fnExactCountQuarrelWinsWrong : ChangeSpec := { name := "fnExactCountQuarrelWins", fn := fun _ => fun
  | [d1, d2, d3] => { results := [.lit (.bool false)], args := [d1, d2, d3] }
  | _ => none }
def FnExactCountQuarrelWinsWrongFalsely : Prop := fnExactCountQuarrelWinsRow.holds Try.pinned (OpenSpec.ofChange fnExactCountQuarrelWinsWrong)

/-- 'laws.FnExactQuarrelSwings': WHATEVER THE INPUT: true; the input reads as it did. -/
def fnExactQuarrelSwingsSpec : ChangeSpec := { name := "fnExactQuarrelSwings", fn := fun _ => fun
  | [d1, d2, d3] => { results := [.lit (.bool true)], args := [d1, d2, d3] }
  | _ => none }
def fnExactQuarrelSwingsRow : OpenClaim := { program := "ytbecagfokcadnaa", sum := "9d7c10b201e7811baa340229876923f14727c793df3d5126ca7faf9cd7f51aec", func := "loop.example/g01275/laws.FnExactQuarrelSwings", spec := "fnExactQuarrelSwings", unfollowed := true, recurses := true, apart := false }
def FnExactQuarrelSwingsSaid : Prop := fnExactQuarrelSwingsRow.holds Try.pinned (OpenSpec.ofChange fnExactQuarrelSwingsSpec)

/-- ITS FALSE NEIGHBOUR: 'it returns false'. Refute it at one input. -/
def fnExactQuarrelSwingsWrong : ChangeSpec := { name := "fnExactQuarrelSwings", fn := fun _ => fun
  | [d1, d2, d3] => { results := [.lit (.bool false)], args := [d1, d2, d3] }
  | _ => none }
def FnExactQuarrelSwingsWrongFalsely : Prop := fnExactQuarrelSwingsRow.holds Try.pinned (OpenSpec.ofChange fnExactQuarrelSwingsWrong)

/-- 'laws.FnExactQuarrelHelps': WHATEVER THE INPUT: true; the input reads as it did. -/
def fnExactQuarrelHelpsSpec : ChangeSpec := { name := "fnExactQuarrelHelps", fn := fun _ => fun
  | [d1, d2, d3] => { results := [.lit (.bool true)], args := [d1, d2, d3] }
  | _ => none }
def fnExactQuarrelHelpsRow : OpenClaim := { program := "ytbecagfokcadnaa", sum := "9d7c10b201e7811baa340229876923f14727c793df3d5126ca7faf9cd7f51aec", func := "loop.example/g01275/laws.FnExactQuarrelHelps", spec := "fnExactQuarrelHelps", unfollowed := true, recurses := true, apart := false }
def FnExactQuarrelHelpsSaid : Prop := fnExactQuarrelHelpsRow.holds Try.pinned (OpenSpec.ofChange fnExactQuarrelHelpsSpec)

/-- ITS FALSE NEIGHBOUR: 'it returns false'. Refute it at one input. -/
def fnExactQuarrelHelpsWrong : ChangeSpec := { name := "fnExactQuarrelHelps", fn := fun _ => fun
  | [d1, d2, d3] => { results := [.lit (.bool false)], args := [d1, d2, d3] }
  | _ => none }
def FnExactQuarrelHelpsWrongFalsely : Prop := fnExactQuarrelHelpsRow.holds Try.pinned (OpenSpec.ofChange fnExactQuarrelHelpsWrong)

/- THE SECOND FORM. 'bulk': how many values and letters a reading holds, each counted each time it is reached (what is shared counts as often as it is met; a slice's spare places count too). A statement '..UptoSaid' is the law's where the arguments, and the package variables that the reading takes, are together of bulk at most 1048576: NARROWER than '..Said'. Prove '..Said' where nothing that the law and all that it calls make is longer than what came in: it says more and counts as full. Else prove '..UptoSaid'. A law counts once. -/
mutual
def uptoBulk {H : Type} : DataW H → Nat
  | .lit (.string bytes) => bytes.length + 1
  | .lit _ => 1
  | .nil => 1
  | .ptr d => uptoBulk d + 1
  | .slice elems spare => uptoBulkAll elems + uptoBulkAll spare + 1
  | .agg parts => uptoBulkAll parts + 1
  | .iface _ d => uptoBulk d + 1
  | .map entries => uptoBulkEntries entries + 1
  | .held _ => 1
def uptoBulkAll {H : Type} : List (DataW H) → Nat
  | [] => 0
  | d :: r => uptoBulk d + uptoBulkAll r
def uptoBulkEntries {H : Type} : List (Lit × DataW H) → Nat
  | [] => 0
  | x :: r => uptoBulkEntry x + uptoBulkEntries r
def uptoBulkEntry {H : Type} : Lit × DataW H → Nat
  | (.string bytes, d) => bytes.length + uptoBulk d + 1
  | (_, d) => uptoBulk d + 1
 end
def uptoSmall : (H : Type) → List (DataW H) → Bool := fun _ ds => decide (uptoBulkAll ds ≤ 1048576)
def OpenSpec.upto (s : _root_.Go.ChangeSpec) : _root_.Go.OpenSpec := { _root_.Go.OpenSpec.ofChange s with cond := some uptoSmall }

/-- 'laws.FnExactSplitMember', WHERE WHAT IT READS IS OF BULK AT MOST 1048576: true; the input reads as it did. -/
def fnExactSplitMemberUptoRow : OpenClaim := { program := "ytbecagfokcadnaa", sum := "9d7c10b201e7811baa340229876923f14727c793df3d5126ca7faf9cd7f51aec", func := "loop.example/g01275/laws.FnExactSplitMember", spec := "fnExactSplitMember", apart := false, narrowed := true }
def FnExactSplitMemberUptoSaid : Prop := fnExactSplitMemberUptoRow.holds Try.pinned (OpenSpec.upto fnExactSplitMemberSpec)

/-- 'laws.FnExactSplitGain', WHERE WHAT IT READS IS OF BULK AT MOST 1048576: true; the input reads as it did. -/
def fnExactSplitGainUptoRow : OpenClaim := { program := "ytbecagfokcadnaa", sum := "9d7c10b201e7811baa340229876923f14727c793df3d5126ca7faf9cd7f51aec", func := "loop.example/g01275/laws.FnExactSplitGain", spec := "fnExactSplitGain", unfollowed := true, recurses := true, apart := false, narrowed := true }
def FnExactSplitGainUptoSaid : Prop := fnExactSplitGainUptoRow.holds Try.pinned (OpenSpec.upto fnExactSplitGainSpec)

/-- 'laws.FnExactAddMember', WHERE WHAT IT READS IS OF BULK AT MOST 1048576: true; the input reads as it did. -/
def fnExactAddMemberUptoRow : OpenClaim := { program := "ytbecagfokcadnaa", sum := "9d7c10b201e7811baa340229876923f14727c793df3d5126ca7faf9cd7f51aec", func := "loop.example/g01275/laws.FnExactAddMember", spec := "fnExactAddMember", apart := false, narrowed := true }
def FnExactAddMemberUptoSaid : Prop := fnExactAddMemberUptoRow.holds Try.pinned (OpenSpec.upto fnExactAddMemberSpec)

/-- 'laws.FnExactGiveWeight', WHERE WHAT IT READS IS OF BULK AT MOST 1048576: true; the input reads as it did. -/
def fnExactGiveWeightUptoRow : OpenClaim := { program := "ytbecagfokcadnaa", sum := "9d7c10b201e7811baa340229876923f14727c793df3d5126ca7faf9cd7f51aec", func := "loop.example/g01275/laws.FnExactGiveWeight", spec := "fnExactGiveWeight", apart := false, narrowed := true }
def FnExactGiveWeightUptoSaid : Prop := fnExactGiveWeightUptoRow.holds Try.pinned (OpenSpec.upto fnExactGiveWeightSpec)

/-- 'laws.FnExactGiverGains', WHERE WHAT IT READS IS OF BULK AT MOST 1048576: true; the input reads as it did. -/
def fnExactGiverGainsUptoRow : OpenClaim := { program := "ytbecagfokcadnaa", sum := "9d7c10b201e7811baa340229876923f14727c793df3d5126ca7faf9cd7f51aec", func := "loop.example/g01275/laws.FnExactGiverGains", spec := "fnExactGiverGains", unfollowed := true, recurses := true, apart := false, narrowed := true }
def FnExactGiverGainsUptoSaid : Prop := fnExactGiverGainsUptoRow.holds Try.pinned (OpenSpec.upto fnExactGiverGainsSpec)

/-- 'laws.FnExactCountQuarrelWins', WHERE WHAT IT READS IS OF BULK AT MOST 1048576: true; the input reads as it did. -/
def fnExactCountQuarrelWinsUptoRow : OpenClaim := { program := "ytbecagfokcadnaa", sum := "9d7c10b201e7811baa340229876923f14727c793df3d5126ca7faf9cd7f51aec", func := "loop.example/g01275/laws.FnExactCountQuarrelWins", spec := "fnExactCountQuarrelWins", unfollowed := true, recurses := true, apart := false, narrowed := true }
def FnExactCountQuarrelWinsUptoSaid : Prop := fnExactCountQuarrelWinsUptoRow.holds Try.pinned (OpenSpec.upto fnExactCountQuarrelWinsSpec)

/-- 'laws.FnExactQuarrelSwings', WHERE WHAT IT READS IS OF BULK AT MOST 1048576: true; the input reads as it did. -/
def fnExactQuarrelSwingsUptoRow : OpenClaim := { program := "ytbecagfokcadnaa", sum := "9d7c10b201e7811baa340229876923f14727c793df3d5126ca7faf9cd7f51aec", func := "loop.example/g01275/laws.FnExactQuarrelSwings", spec := "fnExactQuarrelSwings", unfollowed := true, recurses := true, apart := false, narrowed := true }
def FnExactQuarrelSwingsUptoSaid : Prop := fnExactQuarrelSwingsUptoRow.holds Try.pinned (OpenSpec.upto fnExactQuarrelSwingsSpec)

/-- 'laws.FnExactQuarrelHelps', WHERE WHAT IT READS IS OF BULK AT MOST 1048576: true; the input reads as it did. -/
def fnExactQuarrelHelpsUptoRow : OpenClaim := { program := "ytbecagfokcadnaa", sum := "9d7c10b201e7811baa340229876923f14727c793df3d5126ca7faf9cd7f51aec", func := "loop.example/g01275/laws.FnExactQuarrelHelps", spec := "fnExactQuarrelHelps", unfollowed := true, recurses := true, apart := false, narrowed := true }
def FnExactQuarrelHelpsUptoSaid : Prop := fnExactQuarrelHelpsUptoRow.holds Try.pinned (OpenSpec.upto fnExactQuarrelHelpsSpec)

end Rows
end Go.Proofs.Ytbecagfokcadnaa
