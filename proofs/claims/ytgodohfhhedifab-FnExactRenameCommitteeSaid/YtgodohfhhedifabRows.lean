/-
  No cell of these rows narrows 'for every input' (looked for: loops, veiled, ifaces, maps, wideKeys, modest, calm, conditions, laid).
  DERIVED. THE GIVEN ROWS OF THIS SEAT. 11 by the template 'for every input the law returns true; each argument reads behind the call as it read before'; 0 by the template 'total and deterministic' (their statements: YtgodohfhhedifabTotals.lean).
  GIVEN WITH THE SEED: the statements are not yours to turn. If you find one false, say at which input.
  Laid BY PROGRAM, IN A SANDBOX (cutbox-rows.mjs): the forced cells as the released guide's own fill.sh prints them over the translation a9fed608e02aac8c… (all of the seat's roots in one cut). By AI agents, Wed Nov 11 2026. No macro, syntax, notation, axiom, sorry.
-/
import Derived.Test.YtgodohfhhedifabChecked
import GoSem.Claim
import GoSem.ClaimJoined
import GoSem.ClaimMapViews
import Derived.JoinedTies
import Derived.KernelRfl
namespace Go.Proofs.Ytgodohfhhedifab
/- THE CELL 'sum', in the pinned program and in every row, IS THE sha256 OF THE DUMP (.gsa) THAT YtgodohfhhedifabProg.lean LOADS. Nothing in Lean hashes anything: it is a label: what it is worth is what the hold of that sum in a sandbox is worth. -/
noncomputable def Try.pinned : Pinned := { name := "ytgodohfhhedifab", sum := "a9fed608e02aac8cf1903051f9141dd0cd3814659bb3b9a6fac5c04f6036a882", checked := Try.checked }
namespace Rows
def none {H : Type} : Left H := { results := [], args := [] }

/-- 'laws.FnExactDummiesOf': WHATEVER THE INPUT: true; the input reads as it did. -/
def fnExactDummiesOfSpec : ChangeSpec := { name := "fnExactDummiesOf", fn := fun _ => fun
  | [d] => { results := [.lit (.bool true)], args := [d] }
  | _ => none }
def fnExactDummiesOfRow : OpenClaim := { program := "ytgodohfhhedifab", sum := "a9fed608e02aac8cf1903051f9141dd0cd3814659bb3b9a6fac5c04f6036a882", func := "loop.example/g01275/laws.FnExactDummiesOf", spec := "fnExactDummiesOf", unfollowed := true, recurses := true, apart := false }
def FnExactDummiesOfSaid : Prop := fnExactDummiesOfRow.holds Try.pinned (OpenSpec.ofChange fnExactDummiesOfSpec)

/-- ITS FALSE NEIGHBOUR: 'it returns false'. Refute it at one input. -/
def fnExactDummiesOfWrong : ChangeSpec := { name := "fnExactDummiesOf", fn := fun _ => fun
  | [d] => { results := [.lit (.bool false)], args := [d] }
  | _ => none }
def FnExactDummiesOfWrongFalsely : Prop := fnExactDummiesOfRow.holds Try.pinned (OpenSpec.ofChange fnExactDummiesOfWrong)

/-- 'laws.FnExactLeastWinning': WHATEVER THE INPUT: true; the input reads as it did. -/
def fnExactLeastWinningSpec : ChangeSpec := { name := "fnExactLeastWinning", fn := fun _ => fun
  | [d] => { results := [.lit (.bool true)], args := [d] }
  | _ => none }
def fnExactLeastWinningRow : OpenClaim := { program := "ytgodohfhhedifab", sum := "a9fed608e02aac8cf1903051f9141dd0cd3814659bb3b9a6fac5c04f6036a882", func := "loop.example/g01275/laws.FnExactLeastWinning", spec := "fnExactLeastWinning", unfollowed := true, recurses := true, apart := false }
def FnExactLeastWinningSaid : Prop := fnExactLeastWinningRow.holds Try.pinned (OpenSpec.ofChange fnExactLeastWinningSpec)

/-- ITS FALSE NEIGHBOUR: 'it returns false'. Refute it at one input. -/
def fnExactLeastWinningWrong : ChangeSpec := { name := "fnExactLeastWinning", fn := fun _ => fun
  | [d] => { results := [.lit (.bool false)], args := [d] }
  | _ => none }
def FnExactLeastWinningWrongFalsely : Prop := fnExactLeastWinningRow.holds Try.pinned (OpenSpec.ofChange fnExactLeastWinningWrong)

/-- 'laws.FnExactGreatestLosing': WHATEVER THE INPUT: true; the input reads as it did. -/
def fnExactGreatestLosingSpec : ChangeSpec := { name := "fnExactGreatestLosing", fn := fun _ => fun
  | [d] => { results := [.lit (.bool true)], args := [d] }
  | _ => none }
def fnExactGreatestLosingRow : OpenClaim := { program := "ytgodohfhhedifab", sum := "a9fed608e02aac8cf1903051f9141dd0cd3814659bb3b9a6fac5c04f6036a882", func := "loop.example/g01275/laws.FnExactGreatestLosing", spec := "fnExactGreatestLosing", unfollowed := true, recurses := true, apart := false }
def FnExactGreatestLosingSaid : Prop := fnExactGreatestLosingRow.holds Try.pinned (OpenSpec.ofChange fnExactGreatestLosingSpec)

/-- ITS FALSE NEIGHBOUR: 'it returns false'. Refute it at one input. -/
def fnExactGreatestLosingWrong : ChangeSpec := { name := "fnExactGreatestLosing", fn := fun _ => fun
  | [d] => { results := [.lit (.bool false)], args := [d] }
  | _ => none }
def FnExactGreatestLosingWrongFalsely : Prop := fnExactGreatestLosingRow.holds Try.pinned (OpenSpec.ofChange fnExactGreatestLosingWrong)

/-- 'laws.FnExactLeastBlocking': WHATEVER THE INPUT: true; the input reads as it did. -/
def fnExactLeastBlockingSpec : ChangeSpec := { name := "fnExactLeastBlocking", fn := fun _ => fun
  | [d] => { results := [.lit (.bool true)], args := [d] }
  | _ => none }
def fnExactLeastBlockingRow : OpenClaim := { program := "ytgodohfhhedifab", sum := "a9fed608e02aac8cf1903051f9141dd0cd3814659bb3b9a6fac5c04f6036a882", func := "loop.example/g01275/laws.FnExactLeastBlocking", spec := "fnExactLeastBlocking", unfollowed := true, recurses := true, apart := false }
def FnExactLeastBlockingSaid : Prop := fnExactLeastBlockingRow.holds Try.pinned (OpenSpec.ofChange fnExactLeastBlockingSpec)

/-- ITS FALSE NEIGHBOUR: 'it returns false'. Refute it at one input. -/
def fnExactLeastBlockingWrong : ChangeSpec := { name := "fnExactLeastBlocking", fn := fun _ => fun
  | [d] => { results := [.lit (.bool false)], args := [d] }
  | _ => none }
def FnExactLeastBlockingWrongFalsely : Prop := fnExactLeastBlockingRow.holds Try.pinned (OpenSpec.ofChange fnExactLeastBlockingWrong)

/-- 'laws.FnExactRenameCommittee': WHATEVER THE INPUT: true; the input reads as it did. -/
def fnExactRenameCommitteeSpec : ChangeSpec := { name := "fnExactRenameCommittee", fn := fun _ => fun
  | [d1, d2] => { results := [.lit (.bool true)], args := [d1, d2] }
  | _ => none }
def fnExactRenameCommitteeRow : OpenClaim := { program := "ytgodohfhhedifab", sum := "a9fed608e02aac8cf1903051f9141dd0cd3814659bb3b9a6fac5c04f6036a882", func := "loop.example/g01275/laws.FnExactRenameCommittee", spec := "fnExactRenameCommittee", apart := false }
def FnExactRenameCommitteeSaid : Prop := fnExactRenameCommitteeRow.holds Try.pinned (OpenSpec.ofChange fnExactRenameCommitteeSpec)

/-- ITS FALSE NEIGHBOUR: 'it returns false'. Refute it at one input. -/
def fnExactRenameCommitteeWrong : ChangeSpec := { name := "fnExactRenameCommittee", fn := fun _ => fun
  | [d1, d2] => { results := [.lit (.bool false)], args := [d1, d2] }
  | _ => none }
def FnExactRenameCommitteeWrongFalsely : Prop := fnExactRenameCommitteeRow.holds Try.pinned (OpenSpec.ofChange fnExactRenameCommitteeWrong)

/-- 'laws.FnExactDropMember': WHATEVER THE INPUT: true; the input reads as it did. -/
def fnExactDropMemberSpec : ChangeSpec := { name := "fnExactDropMember", fn := fun _ => fun
  | [d1, d2] => { results := [.lit (.bool true)], args := [d1, d2] }
  | _ => none }
def fnExactDropMemberRow : OpenClaim := { program := "ytgodohfhhedifab", sum := "a9fed608e02aac8cf1903051f9141dd0cd3814659bb3b9a6fac5c04f6036a882", func := "loop.example/g01275/laws.FnExactDropMember", spec := "fnExactDropMember", apart := false }
def FnExactDropMemberSaid : Prop := fnExactDropMemberRow.holds Try.pinned (OpenSpec.ofChange fnExactDropMemberSpec)

/-- ITS FALSE NEIGHBOUR: 'it returns false'. Refute it at one input. -/
def fnExactDropMemberWrong : ChangeSpec := { name := "fnExactDropMember", fn := fun _ => fun
  | [d1, d2] => { results := [.lit (.bool false)], args := [d1, d2] }
  | _ => none }
def FnExactDropMemberWrongFalsely : Prop := fnExactDropMemberRow.holds Try.pinned (OpenSpec.ofChange fnExactDropMemberWrong)

/-- 'laws.FnExactParseCommittee': WHATEVER THE INPUT: true; the input reads as it did. -/
def fnExactParseCommitteeSpec : ChangeSpec := { name := "fnExactParseCommittee", fn := fun _ => fun
  | [d] => { results := [.lit (.bool true)], args := [d] }
  | _ => none }
def fnExactParseCommitteeRow : OpenClaim := { program := "ytgodohfhhedifab", sum := "a9fed608e02aac8cf1903051f9141dd0cd3814659bb3b9a6fac5c04f6036a882", func := "loop.example/g01275/laws.FnExactParseCommittee", spec := "fnExactParseCommittee", recurses := true, apart := false }
def FnExactParseCommitteeSaid : Prop := fnExactParseCommitteeRow.holds Try.pinned (OpenSpec.ofChange fnExactParseCommitteeSpec)

/-- ITS FALSE NEIGHBOUR: 'it returns false'. Refute it at one input. -/
def fnExactParseCommitteeWrong : ChangeSpec := { name := "fnExactParseCommittee", fn := fun _ => fun
  | [d] => { results := [.lit (.bool false)], args := [d] }
  | _ => none }
def FnExactParseCommitteeWrongFalsely : Prop := fnExactParseCommitteeRow.holds Try.pinned (OpenSpec.ofChange fnExactParseCommitteeWrong)

/-- 'laws.FnExactSwingSets': WHATEVER THE INPUT: true; the input reads as it did. -/
def fnExactSwingSetsSpec : ChangeSpec := { name := "fnExactSwingSets", fn := fun _ => fun
  | [d1, d2] => { results := [.lit (.bool true)], args := [d1, d2] }
  | _ => none }
def fnExactSwingSetsRow : OpenClaim := { program := "ytgodohfhhedifab", sum := "a9fed608e02aac8cf1903051f9141dd0cd3814659bb3b9a6fac5c04f6036a882", func := "loop.example/g01275/laws.FnExactSwingSets", spec := "fnExactSwingSets", recurses := true, apart := false }
def FnExactSwingSetsSaid : Prop := fnExactSwingSetsRow.holds Try.pinned (OpenSpec.ofChange fnExactSwingSetsSpec)

/-- ITS FALSE NEIGHBOUR: 'it returns false'. Refute it at one input. -/
def fnExactSwingSetsWrong : ChangeSpec := { name := "fnExactSwingSets", fn := fun _ => fun
  | [d1, d2] => { results := [.lit (.bool false)], args := [d1, d2] }
  | _ => none }
def FnExactSwingSetsWrongFalsely : Prop := fnExactSwingSetsRow.holds Try.pinned (OpenSpec.ofChange fnExactSwingSetsWrong)

/-- 'laws.FnExactPivotOf': WHATEVER THE INPUT: true; the input reads as it did. -/
def fnExactPivotOfSpec : ChangeSpec := { name := "fnExactPivotOf", fn := fun _ => fun
  | [d1, d2] => { results := [.lit (.bool true)], args := [d1, d2] }
  | _ => none }
def fnExactPivotOfRow : OpenClaim := { program := "ytgodohfhhedifab", sum := "a9fed608e02aac8cf1903051f9141dd0cd3814659bb3b9a6fac5c04f6036a882", func := "loop.example/g01275/laws.FnExactPivotOf", spec := "fnExactPivotOf", apart := false }
def FnExactPivotOfSaid : Prop := fnExactPivotOfRow.holds Try.pinned (OpenSpec.ofChange fnExactPivotOfSpec)

/-- ITS FALSE NEIGHBOUR: 'it returns false'. Refute it at one input. -/
def fnExactPivotOfWrong : ChangeSpec := { name := "fnExactPivotOf", fn := fun _ => fun
  | [d1, d2] => { results := [.lit (.bool false)], args := [d1, d2] }
  | _ => none }
def FnExactPivotOfWrongFalsely : Prop := fnExactPivotOfRow.holds Try.pinned (OpenSpec.ofChange fnExactPivotOfWrong)

/-- 'laws.FnExactCompareShares': WHATEVER THE INPUT: true; the input reads as it did. -/
def fnExactCompareSharesSpec : ChangeSpec := { name := "fnExactCompareShares", fn := fun _ => fun
  | [d1, d2] => { results := [.lit (.bool true)], args := [d1, d2] }
  | _ => none }
def fnExactCompareSharesRow : OpenClaim := { program := "ytgodohfhhedifab", sum := "a9fed608e02aac8cf1903051f9141dd0cd3814659bb3b9a6fac5c04f6036a882", func := "loop.example/g01275/laws.FnExactCompareShares", spec := "fnExactCompareShares", apart := false }
def FnExactCompareSharesSaid : Prop := fnExactCompareSharesRow.holds Try.pinned (OpenSpec.ofChange fnExactCompareSharesSpec)

/-- ITS FALSE NEIGHBOUR: 'it returns false'. Refute it at one input. -/
def fnExactCompareSharesWrong : ChangeSpec := { name := "fnExactCompareShares", fn := fun _ => fun
  | [d1, d2] => { results := [.lit (.bool false)], args := [d1, d2] }
  | _ => none }
def FnExactCompareSharesWrongFalsely : Prop := fnExactCompareSharesRow.holds Try.pinned (OpenSpec.ofChange fnExactCompareSharesWrong)

/-- 'laws.FnExactAddShares': WHATEVER THE INPUT: true; the input reads as it did. -/
def fnExactAddSharesSpec : ChangeSpec := { name := "fnExactAddShares", fn := fun _ => fun
  | [d1, d2] => { results := [.lit (.bool true)], args := [d1, d2] }
  | _ => none }
def fnExactAddSharesRow : OpenClaim := { program := "ytgodohfhhedifab", sum := "a9fed608e02aac8cf1903051f9141dd0cd3814659bb3b9a6fac5c04f6036a882", func := "loop.example/g01275/laws.FnExactAddShares", spec := "fnExactAddShares", unfollowed := true, recurses := true, apart := false }
def FnExactAddSharesSaid : Prop := fnExactAddSharesRow.holds Try.pinned (OpenSpec.ofChange fnExactAddSharesSpec)

/-- ITS FALSE NEIGHBOUR: 'it returns false'. Refute it at one input. -/
def fnExactAddSharesWrong : ChangeSpec := { name := "fnExactAddShares", fn := fun _ => fun
  | [d1, d2] => { results := [.lit (.bool false)], args := [d1, d2] }
  | _ => none }
def FnExactAddSharesWrongFalsely : Prop := fnExactAddSharesRow.holds Try.pinned (OpenSpec.ofChange fnExactAddSharesWrong)

/- THE SECOND FORM. 'bulk': how many values and letters a reading holds, each counted each time it is reached (what is shared counts as often as it is met; a slice's spare places count too). A statement '..UptoSaid' is the law's where the arguments, and the package variables that the reading takes, are together of bulk at most 1048576: NARROWER than '..Said'. Prove '..Said' where nothing that the law and all that it calls make is longer than what came in: it says more and counts as full. Else prove '..UptoSaid'. A law counts once. -/
mutual
def uptoBulk {H : Type} : DataW H → Nat
  | .lit (.string bytes) => bytes.length + 1
  | .lit _ => 1
  | .nil => 1
  | .ptr d => uptoBulk d + 1
  | .slice elems spare => uptoBulkAll elems + uptoBulkAll spare + 1
  | .agg parts => uptoBulkAll parts + 1
  | .iface _ d => uptoBulk d + 1
  | .map entries => uptoBulkEntries entries + 1
  | .held _ => 1
def uptoBulkAll {H : Type} : List (DataW H) → Nat
  | [] => 0
  | d :: r => uptoBulk d + uptoBulkAll r
def uptoBulkEntries {H : Type} : List (Lit × DataW H) → Nat
  | [] => 0
  | x :: r => uptoBulkEntry x + uptoBulkEntries r
def uptoBulkEntry {H : Type} : Lit × DataW H → Nat
  | (.string bytes, d) => bytes.length + uptoBulk d + 1
  | (_, d) => uptoBulk d + 1
 end
def uptoSmall : (H : Type) → List (DataW H) → Bool := fun _ ds => decide (uptoBulkAll ds ≤ 1048576)
def OpenSpec.upto (s : _root_.Go.ChangeSpec) : _root_.Go.OpenSpec := { _root_.Go.OpenSpec.ofChange s with cond := some uptoSmall }

/-- 'laws.FnExactDummiesOf', WHERE WHAT IT READS IS OF BULK AT MOST 1048576: true; the input reads as it did. -/
def fnExactDummiesOfUptoRow : OpenClaim := { program := "ytgodohfhhedifab", sum := "a9fed608e02aac8cf1903051f9141dd0cd3814659bb3b9a6fac5c04f6036a882", func := "loop.example/g01275/laws.FnExactDummiesOf", spec := "fnExactDummiesOf", unfollowed := true, recurses := true, apart := false, narrowed := true }
def FnExactDummiesOfUptoSaid : Prop := fnExactDummiesOfUptoRow.holds Try.pinned (OpenSpec.upto fnExactDummiesOfSpec)

/-- 'laws.FnExactLeastWinning', WHERE WHAT IT READS IS OF BULK AT MOST 1048576: true; the input reads as it did. -/
def fnExactLeastWinningUptoRow : OpenClaim := { program := "ytgodohfhhedifab", sum := "a9fed608e02aac8cf1903051f9141dd0cd3814659bb3b9a6fac5c04f6036a882", func := "loop.example/g01275/laws.FnExactLeastWinning", spec := "fnExactLeastWinning", unfollowed := true, recurses := true, apart := false, narrowed := true }
def FnExactLeastWinningUptoSaid : Prop := fnExactLeastWinningUptoRow.holds Try.pinned (OpenSpec.upto fnExactLeastWinningSpec)

/-- 'laws.FnExactGreatestLosing', WHERE WHAT IT READS IS OF BULK AT MOST 1048576: true; the input reads as it did. -/
def fnExactGreatestLosingUptoRow : OpenClaim := { program := "ytgodohfhhedifab", sum := "a9fed608e02aac8cf1903051f9141dd0cd3814659bb3b9a6fac5c04f6036a882", func := "loop.example/g01275/laws.FnExactGreatestLosing", spec := "fnExactGreatestLosing", unfollowed := true, recurses := true, apart := false, narrowed := true }
def FnExactGreatestLosingUptoSaid : Prop := fnExactGreatestLosingUptoRow.holds Try.pinned (OpenSpec.upto fnExactGreatestLosingSpec)

/-- 'laws.FnExactLeastBlocking', WHERE WHAT IT READS IS OF BULK AT MOST 1048576: true; the input reads as it did. -/
def fnExactLeastBlockingUptoRow : OpenClaim := { program := "ytgodohfhhedifab", sum := "a9fed608e02aac8cf1903051f9141dd0cd3814659bb3b9a6fac5c04f6036a882", func := "loop.example/g01275/laws.FnExactLeastBlocking", spec := "fnExactLeastBlocking", unfollowed := true, recurses := true, apart := false, narrowed := true }
def FnExactLeastBlockingUptoSaid : Prop := fnExactLeastBlockingUptoRow.holds Try.pinned (OpenSpec.upto fnExactLeastBlockingSpec)

/-- 'laws.FnExactRenameCommittee', WHERE WHAT IT READS IS OF BULK AT MOST 1048576: true; the input reads as it did. -/
def fnExactRenameCommitteeUptoRow : OpenClaim := { program := "ytgodohfhhedifab", sum := "a9fed608e02aac8cf1903051f9141dd0cd3814659bb3b9a6fac5c04f6036a882", func := "loop.example/g01275/laws.FnExactRenameCommittee", spec := "fnExactRenameCommittee", apart := false, narrowed := true }
def FnExactRenameCommitteeUptoSaid : Prop := fnExactRenameCommitteeUptoRow.holds Try.pinned (OpenSpec.upto fnExactRenameCommitteeSpec)

/-- 'laws.FnExactDropMember', WHERE WHAT IT READS IS OF BULK AT MOST 1048576: true; the input reads as it did. -/
def fnExactDropMemberUptoRow : OpenClaim := { program := "ytgodohfhhedifab", sum := "a9fed608e02aac8cf1903051f9141dd0cd3814659bb3b9a6fac5c04f6036a882", func := "loop.example/g01275/laws.FnExactDropMember", spec := "fnExactDropMember", apart := false, narrowed := true }
def FnExactDropMemberUptoSaid : Prop := fnExactDropMemberUptoRow.holds Try.pinned (OpenSpec.upto fnExactDropMemberSpec)

/-- 'laws.FnExactParseCommittee', WHERE WHAT IT READS IS OF BULK AT MOST 1048576: true; the input reads as it did. -/
def fnExactParseCommitteeUptoRow : OpenClaim := { program := "ytgodohfhhedifab", sum := "a9fed608e02aac8cf1903051f9141dd0cd3814659bb3b9a6fac5c04f6036a882", func := "loop.example/g01275/laws.FnExactParseCommittee", spec := "fnExactParseCommittee", recurses := true, apart := false, narrowed := true }
def FnExactParseCommitteeUptoSaid : Prop := fnExactParseCommitteeUptoRow.holds Try.pinned (OpenSpec.upto fnExactParseCommitteeSpec)

/-- 'laws.FnExactSwingSets', WHERE WHAT IT READS IS OF BULK AT MOST 1048576: true; the input reads as it did. -/
def fnExactSwingSetsUptoRow : OpenClaim := { program := "ytgodohfhhedifab", sum := "a9fed608e02aac8cf1903051f9141dd0cd3814659bb3b9a6fac5c04f6036a882", func := "loop.example/g01275/laws.FnExactSwingSets", spec := "fnExactSwingSets", recurses := true, apart := false, narrowed := true }
def FnExactSwingSetsUptoSaid : Prop := fnExactSwingSetsUptoRow.holds Try.pinned (OpenSpec.upto fnExactSwingSetsSpec)

/-- 'laws.FnExactPivotOf', WHERE WHAT IT READS IS OF BULK AT MOST 1048576: true; the input reads as it did. -/
def fnExactPivotOfUptoRow : OpenClaim := { program := "ytgodohfhhedifab", sum := "a9fed608e02aac8cf1903051f9141dd0cd3814659bb3b9a6fac5c04f6036a882", func := "loop.example/g01275/laws.FnExactPivotOf", spec := "fnExactPivotOf", apart := false, narrowed := true }
def FnExactPivotOfUptoSaid : Prop := fnExactPivotOfUptoRow.holds Try.pinned (OpenSpec.upto fnExactPivotOfSpec)

/-- 'laws.FnExactCompareShares', WHERE WHAT IT READS IS OF BULK AT MOST 1048576: true; the input reads as it did. -/
def fnExactCompareSharesUptoRow : OpenClaim := { program := "ytgodohfhhedifab", sum := "a9fed608e02aac8cf1903051f9141dd0cd3814659bb3b9a6fac5c04f6036a882", func := "loop.example/g01275/laws.FnExactCompareShares", spec := "fnExactCompareShares", apart := false, narrowed := true }
def FnExactCompareSharesUptoSaid : Prop := fnExactCompareSharesUptoRow.holds Try.pinned (OpenSpec.upto fnExactCompareSharesSpec)

/-- 'laws.FnExactAddShares', WHERE WHAT IT READS IS OF BULK AT MOST 1048576: true; the input reads as it did. -/
def fnExactAddSharesUptoRow : OpenClaim := { program := "ytgodohfhhedifab", sum := "a9fed608e02aac8cf1903051f9141dd0cd3814659bb3b9a6fac5c04f6036a882", func := "loop.example/g01275/laws.FnExactAddShares", spec := "fnExactAddShares", unfollowed := true, recurses := true, apart := false, narrowed := true }
def FnExactAddSharesUptoSaid : Prop := fnExactAddSharesUptoRow.holds Try.pinned (OpenSpec.upto fnExactAddSharesSpec)

end Rows
end Go.Proofs.Ytgodohfhhedifab
