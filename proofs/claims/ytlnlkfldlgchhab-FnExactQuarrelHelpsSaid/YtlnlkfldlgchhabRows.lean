/-
  No cell of these rows narrows 'for every input' (looked for: loops, veiled, ifaces, maps, wideKeys, modest, calm, conditions, laid).
  DERIVED. THE GIVEN ROWS OF THIS SEAT. 12 by the template 'for every input the law returns true; each argument reads behind the call as it read before'; 0 by the template 'total and deterministic' (their statements: YtlnlkfldlgchhabTotals.lean).
  GIVEN WITH THE SEED: the statements are not yours to turn. If you find one false, say at which input.
  Laid BY PROGRAM, IN A SANDBOX (cutbox-rows.mjs): the forced cells as the released guide's own fill.sh prints them over the translation 035c2e5fe4c55a82… (all of the seat's roots in one cut). By AI agents, Wed Nov 11 2026. No macro, syntax, notation, axiom, sorry.
-/
import Derived.Test.YtlnlkfldlgchhabChecked
import GoSem.Claim
import GoSem.ClaimJoined
import GoSem.ClaimMapViews
import Derived.JoinedTies
import Derived.KernelRfl
namespace Go.Proofs.Ytlnlkfldlgchhab
/- THE CELL 'sum', in the pinned program and in every row, IS THE sha256 OF THE DUMP (.gsa) THAT YtlnlkfldlgchhabProg.lean LOADS. Nothing in Lean hashes anything: it is a label: what it is worth is what the hold of that sum in a sandbox is worth. -/
noncomputable def Try.pinned : Pinned := { name := "ytlnlkfldlgchhab", sum := "035c2e5fe4c55a82d670263a5841145c5d9fe8bad7d433ae0db962352abe195f", checked := Try.checked }
namespace Rows
def none {H : Type} : Left H := { results := [], args := [] }

/-- 'laws.FnExactLeastSetShares': WHATEVER THE INPUT: true; the input reads as it did. -/
def fnExactLeastSetSharesSpec : ChangeSpec := { name := "fnExactLeastSetShares", fn := fun _ => fun
  | [d] => { results := [.lit (.bool true)], args := [d] }
  | _ => none }
def fnExactLeastSetSharesRow : OpenClaim := { program := "ytlnlkfldlgchhab", sum := "035c2e5fe4c55a82d670263a5841145c5d9fe8bad7d433ae0db962352abe195f", func := "loop.example/g01275/laws.FnExactLeastSetShares", spec := "fnExactLeastSetShares", unfollowed := true, recurses := true, apart := false }
def FnExactLeastSetSharesSaid : Prop := fnExactLeastSetSharesRow.holds Try.pinned (OpenSpec.ofChange fnExactLeastSetSharesSpec)

/-- ITS FALSE NEIGHBOUR: 'it returns false'. Refute it at one input. -/
def fnExactLeastSetSharesWrong : ChangeSpec := { name := "fnExactLeastSetShares", fn := fun _ => fun
  | [d] => { results := [.lit (.bool false)], args := [d] }
  | _ => none }
def FnExactLeastSetSharesWrongFalsely : Prop := fnExactLeastSetSharesRow.holds Try.pinned (OpenSpec.ofChange fnExactLeastSetSharesWrong)

/-- 'laws.FnExactEvenSetPowers': WHATEVER THE INPUT: true; the input reads as it did. -/
def fnExactEvenSetPowersSpec : ChangeSpec := { name := "fnExactEvenSetPowers", fn := fun _ => fun
  | [d] => { results := [.lit (.bool true)], args := [d] }
  | _ => none }
def fnExactEvenSetPowersRow : OpenClaim := { program := "ytlnlkfldlgchhab", sum := "035c2e5fe4c55a82d670263a5841145c5d9fe8bad7d433ae0db962352abe195f", func := "loop.example/g01275/laws.FnExactEvenSetPowers", spec := "fnExactEvenSetPowers", unfollowed := true, recurses := true, apart := false }
def FnExactEvenSetPowersSaid : Prop := fnExactEvenSetPowersRow.holds Try.pinned (OpenSpec.ofChange fnExactEvenSetPowersSpec)

/-- ITS FALSE NEIGHBOUR: 'it returns false'. Refute it at one input. -/
def fnExactEvenSetPowersWrong : ChangeSpec := { name := "fnExactEvenSetPowers", fn := fun _ => fun
  | [d] => { results := [.lit (.bool false)], args := [d] }
  | _ => none }
def FnExactEvenSetPowersWrongFalsely : Prop := fnExactEvenSetPowersRow.holds Try.pinned (OpenSpec.ofChange fnExactEvenSetPowersWrong)

/-- 'laws.FnExactWeightShares': WHATEVER THE INPUT: true; the input reads as it did. -/
def fnExactWeightSharesSpec : ChangeSpec := { name := "fnExactWeightShares", fn := fun _ => fun
  | [d] => { results := [.lit (.bool true)], args := [d] }
  | _ => none }
def fnExactWeightSharesRow : OpenClaim := { program := "ytlnlkfldlgchhab", sum := "035c2e5fe4c55a82d670263a5841145c5d9fe8bad7d433ae0db962352abe195f", func := "loop.example/g01275/laws.FnExactWeightShares", spec := "fnExactWeightShares", unfollowed := true, recurses := true, apart := false }
def FnExactWeightSharesSaid : Prop := fnExactWeightSharesRow.holds Try.pinned (OpenSpec.ofChange fnExactWeightSharesSpec)

/-- ITS FALSE NEIGHBOUR: 'it returns false'. Refute it at one input. -/
def fnExactWeightSharesWrong : ChangeSpec := { name := "fnExactWeightShares", fn := fun _ => fun
  | [d] => { results := [.lit (.bool false)], args := [d] }
  | _ => none }
def FnExactWeightSharesWrongFalsely : Prop := fnExactWeightSharesRow.holds Try.pinned (OpenSpec.ofChange fnExactWeightSharesWrong)

/-- 'laws.FnExactQuotaSteps': WHATEVER THE INPUT: true; the input reads as it did. -/
def fnExactQuotaStepsSpec : ChangeSpec := { name := "fnExactQuotaSteps", fn := fun _ => fun
  | [d] => { results := [.lit (.bool true)], args := [d] }
  | _ => none }
def fnExactQuotaStepsRow : OpenClaim := { program := "ytlnlkfldlgchhab", sum := "035c2e5fe4c55a82d670263a5841145c5d9fe8bad7d433ae0db962352abe195f", func := "loop.example/g01275/laws.FnExactQuotaSteps", spec := "fnExactQuotaSteps", recurses := true, apart := false }
def FnExactQuotaStepsSaid : Prop := fnExactQuotaStepsRow.holds Try.pinned (OpenSpec.ofChange fnExactQuotaStepsSpec)

/-- ITS FALSE NEIGHBOUR: 'it returns false'. Refute it at one input. -/
def fnExactQuotaStepsWrong : ChangeSpec := { name := "fnExactQuotaSteps", fn := fun _ => fun
  | [d] => { results := [.lit (.bool false)], args := [d] }
  | _ => none }
def FnExactQuotaStepsWrongFalsely : Prop := fnExactQuotaStepsRow.holds Try.pinned (OpenSpec.ofChange fnExactQuotaStepsWrong)

/-- 'laws.FnExactCountVotings': WHATEVER THE INPUT: true; the input reads as it did. -/
def fnExactCountVotingsSpec : ChangeSpec := { name := "fnExactCountVotings", fn := fun _ => fun
  | [d] => { results := [.lit (.bool true)], args := [d] }
  | _ => none }
def fnExactCountVotingsRow : OpenClaim := { program := "ytlnlkfldlgchhab", sum := "035c2e5fe4c55a82d670263a5841145c5d9fe8bad7d433ae0db962352abe195f", func := "loop.example/g01275/laws.FnExactCountVotings", spec := "fnExactCountVotings", recurses := true, apart := false }
def FnExactCountVotingsSaid : Prop := fnExactCountVotingsRow.holds Try.pinned (OpenSpec.ofChange fnExactCountVotingsSpec)

/-- ITS FALSE NEIGHBOUR: 'it returns false'. Refute it at one input. -/
def fnExactCountVotingsWrong : ChangeSpec := { name := "fnExactCountVotings", fn := fun _ => fun
  | [d] => { results := [.lit (.bool false)], args := [d] }
  | _ => none }
def FnExactCountVotingsWrongFalsely : Prop := fnExactCountVotingsRow.holds Try.pinned (OpenSpec.ofChange fnExactCountVotingsWrong)

/-- 'laws.FnExactQuotaRange': WHATEVER THE INPUT: true; the input reads as it did. -/
def fnExactQuotaRangeSpec : ChangeSpec := { name := "fnExactQuotaRange", fn := fun _ => fun
  | [d] => { results := [.lit (.bool true)], args := [d] }
  | _ => none }
def fnExactQuotaRangeRow : OpenClaim := { program := "ytlnlkfldlgchhab", sum := "035c2e5fe4c55a82d670263a5841145c5d9fe8bad7d433ae0db962352abe195f", func := "loop.example/g01275/laws.FnExactQuotaRange", spec := "fnExactQuotaRange", recurses := true, apart := false }
def FnExactQuotaRangeSaid : Prop := fnExactQuotaRangeRow.holds Try.pinned (OpenSpec.ofChange fnExactQuotaRangeSpec)

/-- ITS FALSE NEIGHBOUR: 'it returns false'. Refute it at one input. -/
def fnExactQuotaRangeWrong : ChangeSpec := { name := "fnExactQuotaRange", fn := fun _ => fun
  | [d] => { results := [.lit (.bool false)], args := [d] }
  | _ => none }
def FnExactQuotaRangeWrongFalsely : Prop := fnExactQuotaRangeRow.holds Try.pinned (OpenSpec.ofChange fnExactQuotaRangeWrong)

/-- 'laws.FnExactFarthestOff': WHATEVER THE INPUT: true; the input reads as it did. -/
def fnExactFarthestOffSpec : ChangeSpec := { name := "fnExactFarthestOff", fn := fun _ => fun
  | [d] => { results := [.lit (.bool true)], args := [d] }
  | _ => none }
def fnExactFarthestOffRow : OpenClaim := { program := "ytlnlkfldlgchhab", sum := "035c2e5fe4c55a82d670263a5841145c5d9fe8bad7d433ae0db962352abe195f", func := "loop.example/g01275/laws.FnExactFarthestOff", spec := "fnExactFarthestOff", unfollowed := true, recurses := true, apart := false }
def FnExactFarthestOffSaid : Prop := fnExactFarthestOffRow.holds Try.pinned (OpenSpec.ofChange fnExactFarthestOffSpec)

/-- ITS FALSE NEIGHBOUR: 'it returns false'. Refute it at one input. -/
def fnExactFarthestOffWrong : ChangeSpec := { name := "fnExactFarthestOff", fn := fun _ => fun
  | [d] => { results := [.lit (.bool false)], args := [d] }
  | _ => none }
def FnExactFarthestOffWrongFalsely : Prop := fnExactFarthestOffRow.holds Try.pinned (OpenSpec.ofChange fnExactFarthestOffWrong)

/-- 'laws.FnExactQuarrelSwings': WHATEVER THE INPUT: true; the input reads as it did. -/
def fnExactQuarrelSwingsSpec : ChangeSpec := { name := "fnExactQuarrelSwings", fn := fun _ => fun
  | [d1, d2, d3] => { results := [.lit (.bool true)], args := [d1, d2, d3] }
  | _ => none }
def fnExactQuarrelSwingsRow : OpenClaim := { program := "ytlnlkfldlgchhab", sum := "035c2e5fe4c55a82d670263a5841145c5d9fe8bad7d433ae0db962352abe195f", func := "loop.example/g01275/laws.FnExactQuarrelSwings", spec := "fnExactQuarrelSwings", unfollowed := true, recurses := true, apart := false }
def FnExactQuarrelSwingsSaid : Prop := fnExactQuarrelSwingsRow.holds Try.pinned (OpenSpec.ofChange fnExactQuarrelSwingsSpec)

/-- ITS FALSE NEIGHBOUR: 'it returns false'. Refute it at one input. -/
def fnExactQuarrelSwingsWrong : ChangeSpec := { name := "fnExactQuarrelSwings", fn := fun _ => fun
  | [d1, d2, d3] => { results := [.lit (.bool false)], args := [d1, d2, d3] }
  | _ => none }
def FnExactQuarrelSwingsWrongFalsely : Prop := fnExactQuarrelSwingsRow.holds Try.pinned (OpenSpec.ofChange fnExactQuarrelSwingsWrong)

/-- 'laws.FnExactQuarrelHelps': WHATEVER THE INPUT: true; the input reads as it did. -/
def fnExactQuarrelHelpsSpec : ChangeSpec := { name := "fnExactQuarrelHelps", fn := fun _ => fun
  | [d1, d2, d3] => { results := [.lit (.bool true)], args := [d1, d2, d3] }
  | _ => none }
def fnExactQuarrelHelpsRow : OpenClaim := { program := "ytlnlkfldlgchhab", sum := "035c2e5fe4c55a82d670263a5841145c5d9fe8bad7d433ae0db962352abe195f", func := "loop.example/g01275/laws.FnExactQuarrelHelps", spec := "fnExactQuarrelHelps", unfollowed := true, recurses := true, apart := false }
def FnExactQuarrelHelpsSaid : Prop := fnExactQuarrelHelpsRow.holds Try.pinned (OpenSpec.ofChange fnExactQuarrelHelpsSpec)

/-- ITS FALSE NEIGHBOUR: 'it returns false'. Refute it at one input. -/
def fnExactQuarrelHelpsWrong : ChangeSpec := { name := "fnExactQuarrelHelps", fn := fun _ => fun
  | [d1, d2, d3] => { results := [.lit (.bool false)], args := [d1, d2, d3] }
  | _ => none }
def FnExactQuarrelHelpsWrongFalsely : Prop := fnExactQuarrelHelpsRow.holds Try.pinned (OpenSpec.ofChange fnExactQuarrelHelpsWrong)

/-- 'laws.FnExactGiverGains': WHATEVER THE INPUT: true; the input reads as it did. -/
def fnExactGiverGainsSpec : ChangeSpec := { name := "fnExactGiverGains", fn := fun _ => fun
  | [d1, d2, d3, d4] => { results := [.lit (.bool true)], args := [d1, d2, d3, d4] }
  | _ => none }
def fnExactGiverGainsRow : OpenClaim := { program := "ytlnlkfldlgchhab", sum := "035c2e5fe4c55a82d670263a5841145c5d9fe8bad7d433ae0db962352abe195f", func := "loop.example/g01275/laws.FnExactGiverGains", spec := "fnExactGiverGains", unfollowed := true, recurses := true, apart := false }
def FnExactGiverGainsSaid : Prop := fnExactGiverGainsRow.holds Try.pinned (OpenSpec.ofChange fnExactGiverGainsSpec)

/-- ITS FALSE NEIGHBOUR: 'it returns false'. Refute it at one input. -/
def fnExactGiverGainsWrong : ChangeSpec := { name := "fnExactGiverGains", fn := fun _ => fun
  | [d1, d2, d3, d4] => { results := [.lit (.bool false)], args := [d1, d2, d3, d4] }
  | _ => none }
def FnExactGiverGainsWrongFalsely : Prop := fnExactGiverGainsRow.holds Try.pinned (OpenSpec.ofChange fnExactGiverGainsWrong)

/-- 'laws.FnExactQuotasOfPower': WHATEVER THE INPUT: true; the input reads as it did. -/
def fnExactQuotasOfPowerSpec : ChangeSpec := { name := "fnExactQuotasOfPower", fn := fun _ => fun
  | [d1, d2] => { results := [.lit (.bool true)], args := [d1, d2] }
  | _ => none }
def fnExactQuotasOfPowerRow : OpenClaim := { program := "ytlnlkfldlgchhab", sum := "035c2e5fe4c55a82d670263a5841145c5d9fe8bad7d433ae0db962352abe195f", func := "loop.example/g01275/laws.FnExactQuotasOfPower", spec := "fnExactQuotasOfPower", unfollowed := true, recurses := true, apart := false }
def FnExactQuotasOfPowerSaid : Prop := fnExactQuotasOfPowerRow.holds Try.pinned (OpenSpec.ofChange fnExactQuotasOfPowerSpec)

/-- ITS FALSE NEIGHBOUR: 'it returns false'. Refute it at one input. -/
def fnExactQuotasOfPowerWrong : ChangeSpec := { name := "fnExactQuotasOfPower", fn := fun _ => fun
  | [d1, d2] => { results := [.lit (.bool false)], args := [d1, d2] }
  | _ => none }
def FnExactQuotasOfPowerWrongFalsely : Prop := fnExactQuotasOfPowerRow.holds Try.pinned (OpenSpec.ofChange fnExactQuotasOfPowerWrong)

/-- 'laws.FnExactSplitGain': WHATEVER THE INPUT: true; the input reads as it did. -/
def fnExactSplitGainSpec : ChangeSpec := { name := "fnExactSplitGain", fn := fun _ => fun
  | [d1, d2, d3] => { results := [.lit (.bool true)], args := [d1, d2, d3] }
  | _ => none }
def fnExactSplitGainRow : OpenClaim := { program := "ytlnlkfldlgchhab", sum := "035c2e5fe4c55a82d670263a5841145c5d9fe8bad7d433ae0db962352abe195f", func := "loop.example/g01275/laws.FnExactSplitGain", spec := "fnExactSplitGain", unfollowed := true, recurses := true, apart := false }
def FnExactSplitGainSaid : Prop := fnExactSplitGainRow.holds Try.pinned (OpenSpec.ofChange fnExactSplitGainSpec)

/-- ITS FALSE NEIGHBOUR: 'it returns false'. Refute it at one input. -/
def fnExactSplitGainWrong : ChangeSpec := { name := "fnExactSplitGain", fn := fun _ => fun
  | [d1, d2, d3] => { results := [.lit (.bool false)], args := [d1, d2, d3] }
  | _ => none }
def FnExactSplitGainWrongFalsely : Prop := fnExactSplitGainRow.holds Try.pinned (OpenSpec.ofChange fnExactSplitGainWrong)

/- THE SECOND FORM. 'bulk': how many values and letters a reading holds, each counted each time it is reached (what is shared counts as often as it is met; a slice's spare places count too). A statement '..UptoSaid' is the law's where the arguments, and the package variables that the reading takes, are together of bulk at most 1048576: NARROWER than '..Said'. Prove '..Said' where nothing that the law and all that it calls make is longer than what came in: it says more and counts as full. Else prove '..UptoSaid'. A law counts once. -/
mutual
def uptoBulk {H : Type} : DataW H → Nat
  | .lit (.string bytes) => bytes.length + 1
  | .lit _ => 1
  | .nil => 1
  | .ptr d => uptoBulk d + 1
  | .slice elems spare => uptoBulkAll elems + uptoBulkAll spare + 1
  | .agg parts => uptoBulkAll parts + 1
  | .iface _ d => uptoBulk d + 1
  | .map entries => uptoBulkEntries entries + 1
  | .held _ => 1
def uptoBulkAll {H : Type} : List (DataW H) → Nat
  | [] => 0
  | d :: r => uptoBulk d + uptoBulkAll r
def uptoBulkEntries {H : Type} : List (Lit × DataW H) → Nat
  | [] => 0
  | x :: r => uptoBulkEntry x + uptoBulkEntries r
def uptoBulkEntry {H : Type} : Lit × DataW H → Nat
  | (.string bytes, d) => bytes.length + uptoBulk d + 1
  | (_, d) => uptoBulk d + 1
 end
def uptoSmall : (H : Type) → List (DataW H) → Bool := fun _ ds => decide (uptoBulkAll ds ≤ 1048576)
def OpenSpec.upto (s : _root_.Go.ChangeSpec) : _root_.Go.OpenSpec := { _root_.Go.OpenSpec.ofChange s with cond := some uptoSmall }

/-- 'laws.FnExactLeastSetShares', WHERE WHAT IT READS IS OF BULK AT MOST 1048576: true; the input reads as it did. -/
def fnExactLeastSetSharesUptoRow : OpenClaim := { program := "ytlnlkfldlgchhab", sum := "035c2e5fe4c55a82d670263a5841145c5d9fe8bad7d433ae0db962352abe195f", func := "loop.example/g01275/laws.FnExactLeastSetShares", spec := "fnExactLeastSetShares", unfollowed := true, recurses := true, apart := false, narrowed := true }
def FnExactLeastSetSharesUptoSaid : Prop := fnExactLeastSetSharesUptoRow.holds Try.pinned (OpenSpec.upto fnExactLeastSetSharesSpec)

/-- 'laws.FnExactEvenSetPowers', WHERE WHAT IT READS IS OF BULK AT MOST 1048576: true; the input reads as it did. -/
def fnExactEvenSetPowersUptoRow : OpenClaim := { program := "ytlnlkfldlgchhab", sum := "035c2e5fe4c55a82d670263a5841145c5d9fe8bad7d433ae0db962352abe195f", func := "loop.example/g01275/laws.FnExactEvenSetPowers", spec := "fnExactEvenSetPowers", unfollowed := true, recurses := true, apart := false, narrowed := true }
def FnExactEvenSetPowersUptoSaid : Prop := fnExactEvenSetPowersUptoRow.holds Try.pinned (OpenSpec.upto fnExactEvenSetPowersSpec)

/-- 'laws.FnExactWeightShares', WHERE WHAT IT READS IS OF BULK AT MOST 1048576: true; the input reads as it did. -/
def fnExactWeightSharesUptoRow : OpenClaim := { program := "ytlnlkfldlgchhab", sum := "035c2e5fe4c55a82d670263a5841145c5d9fe8bad7d433ae0db962352abe195f", func := "loop.example/g01275/laws.FnExactWeightShares", spec := "fnExactWeightShares", unfollowed := true, recurses := true, apart := false, narrowed := true }
def FnExactWeightSharesUptoSaid : Prop := fnExactWeightSharesUptoRow.holds Try.pinned (OpenSpec.upto fnExactWeightSharesSpec)

/-- 'laws.FnExactQuotaSteps', WHERE WHAT IT READS IS OF BULK AT MOST 1048576: true; the input reads as it did. -/
def fnExactQuotaStepsUptoRow : OpenClaim := { program := "ytlnlkfldlgchhab", sum := "035c2e5fe4c55a82d670263a5841145c5d9fe8bad7d433ae0db962352abe195f", func := "loop.example/g01275/laws.FnExactQuotaSteps", spec := "fnExactQuotaSteps", recurses := true, apart := false, narrowed := true }
def FnExactQuotaStepsUptoSaid : Prop := fnExactQuotaStepsUptoRow.holds Try.pinned (OpenSpec.upto fnExactQuotaStepsSpec)

/-- 'laws.FnExactCountVotings', WHERE WHAT IT READS IS OF BULK AT MOST 1048576: true; the input reads as it did. -/
def fnExactCountVotingsUptoRow : OpenClaim := { program := "ytlnlkfldlgchhab", sum := "035c2e5fe4c55a82d670263a5841145c5d9fe8bad7d433ae0db962352abe195f", func := "loop.example/g01275/laws.FnExactCountVotings", spec := "fnExactCountVotings", recurses := true, apart := false, narrowed := true }
def FnExactCountVotingsUptoSaid : Prop := fnExactCountVotingsUptoRow.holds Try.pinned (OpenSpec.upto fnExactCountVotingsSpec)

/-- 'laws.FnExactQuotaRange', WHERE WHAT IT READS IS OF BULK AT MOST 1048576: true; the input reads as it did. -/
def fnExactQuotaRangeUptoRow : OpenClaim := { program := "ytlnlkfldlgchhab", sum := "035c2e5fe4c55a82d670263a5841145c5d9fe8bad7d433ae0db962352abe195f", func := "loop.example/g01275/laws.FnExactQuotaRange", spec := "fnExactQuotaRange", recurses := true, apart := false, narrowed := true }
def FnExactQuotaRangeUptoSaid : Prop := fnExactQuotaRangeUptoRow.holds Try.pinned (OpenSpec.upto fnExactQuotaRangeSpec)

/-- 'laws.FnExactFarthestOff', WHERE WHAT IT READS IS OF BULK AT MOST 1048576: true; the input reads as it did. -/
def fnExactFarthestOffUptoRow : OpenClaim := { program := "ytlnlkfldlgchhab", sum := "035c2e5fe4c55a82d670263a5841145c5d9fe8bad7d433ae0db962352abe195f", func := "loop.example/g01275/laws.FnExactFarthestOff", spec := "fnExactFarthestOff", unfollowed := true, recurses := true, apart := false, narrowed := true }
def FnExactFarthestOffUptoSaid : Prop := fnExactFarthestOffUptoRow.holds Try.pinned (OpenSpec.upto fnExactFarthestOffSpec)

/-- 'laws.FnExactQuarrelSwings', WHERE WHAT IT READS IS OF BULK AT MOST 1048576: true; the input reads as it did. -/
def fnExactQuarrelSwingsUptoRow : OpenClaim := { program := "ytlnlkfldlgchhab", sum := "035c2e5fe4c55a82d670263a5841145c5d9fe8bad7d433ae0db962352abe195f", func := "loop.example/g01275/laws.FnExactQuarrelSwings", spec := "fnExactQuarrelSwings", unfollowed := true, recurses := true, apart := false, narrowed := true }
def FnExactQuarrelSwingsUptoSaid : Prop := fnExactQuarrelSwingsUptoRow.holds Try.pinned (OpenSpec.upto fnExactQuarrelSwingsSpec)

/-- 'laws.FnExactQuarrelHelps', WHERE WHAT IT READS IS OF BULK AT MOST 1048576: true; the input reads as it did. -/
def fnExactQuarrelHelpsUptoRow : OpenClaim := { program := "ytlnlkfldlgchhab", sum := "035c2e5fe4c55a82d670263a5841145c5d9fe8bad7d433ae0db962352abe195f", func := "loop.example/g01275/laws.FnExactQuarrelHelps", spec := "fnExactQuarrelHelps", unfollowed := true, recurses := true, apart := false, narrowed := true }
def FnExactQuarrelHelpsUptoSaid : Prop := fnExactQuarrelHelpsUptoRow.holds Try.pinned (OpenSpec.upto fnExactQuarrelHelpsSpec)

/-- 'laws.FnExactGiverGains', WHERE WHAT IT READS IS OF BULK AT MOST 1048576: true; the input reads as it did. -/
def fnExactGiverGainsUptoRow : OpenClaim := { program := "ytlnlkfldlgchhab", sum := "035c2e5fe4c55a82d670263a5841145c5d9fe8bad7d433ae0db962352abe195f", func := "loop.example/g01275/laws.FnExactGiverGains", spec := "fnExactGiverGains", unfollowed := true, recurses := true, apart := false, narrowed := true }
def FnExactGiverGainsUptoSaid : Prop := fnExactGiverGainsUptoRow.holds Try.pinned (OpenSpec.upto fnExactGiverGainsSpec)

/-- 'laws.FnExactQuotasOfPower', WHERE WHAT IT READS IS OF BULK AT MOST 1048576: true; the input reads as it did. -/
def fnExactQuotasOfPowerUptoRow : OpenClaim := { program := "ytlnlkfldlgchhab", sum := "035c2e5fe4c55a82d670263a5841145c5d9fe8bad7d433ae0db962352abe195f", func := "loop.example/g01275/laws.FnExactQuotasOfPower", spec := "fnExactQuotasOfPower", unfollowed := true, recurses := true, apart := false, narrowed := true }
def FnExactQuotasOfPowerUptoSaid : Prop := fnExactQuotasOfPowerUptoRow.holds Try.pinned (OpenSpec.upto fnExactQuotasOfPowerSpec)

/-- 'laws.FnExactSplitGain', WHERE WHAT IT READS IS OF BULK AT MOST 1048576: true; the input reads as it did. -/
def fnExactSplitGainUptoRow : OpenClaim := { program := "ytlnlkfldlgchhab", sum := "035c2e5fe4c55a82d670263a5841145c5d9fe8bad7d433ae0db962352abe195f", func := "loop.example/g01275/laws.FnExactSplitGain", spec := "fnExactSplitGain", unfollowed := true, recurses := true, apart := false, narrowed := true }
def FnExactSplitGainUptoSaid : Prop := fnExactSplitGainUptoRow.holds Try.pinned (OpenSpec.upto fnExactSplitGainSpec)

end Rows
end Go.Proofs.Ytlnlkfldlgchhab
