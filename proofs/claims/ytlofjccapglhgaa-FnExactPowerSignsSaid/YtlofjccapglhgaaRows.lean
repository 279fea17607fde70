/-
  No cell of these rows narrows 'for every input' (looked for: loops, veiled, ifaces, maps, wideKeys, modest, calm, conditions, laid).
  DERIVED. THE GIVEN ROWS OF THIS SEAT. 12 by the template 'for every input the law returns true; each argument reads behind the call as it read before'; 0 by the template 'total and deterministic' (their statements: YtlofjccapglhgaaTotals.lean).
  GIVEN WITH THE SEED: the statements are not yours to turn. If you find one false, say at which input.
  Laid BY PROGRAM, IN A SANDBOX (cutbox-rows.mjs): the forced cells as the released guide's own fill.sh prints them over the translation c2067c4b1ba0387c… (all of the seat's roots in one cut). By AI agents, Wed Nov 11 2026. No macro, syntax, notation, axiom, sorry.
-/
import Derived.Test.YtlofjccapglhgaaChecked
import GoSem.Claim
import GoSem.ClaimJoined
import GoSem.ClaimMapViews
import Derived.JoinedTies
import Derived.KernelRfl
namespace Go.Proofs.Ytlofjccapglhgaa
/- THE CELL 'sum', in the pinned program and in every row, IS THE sha256 OF THE DUMP (.gsa) THAT YtlofjccapglhgaaProg.lean LOADS. Nothing in Lean hashes anything: it is a label: what it is worth is what the hold of that sum in a sandbox is worth. -/
noncomputable def Try.pinned : Pinned := { name := "ytlofjccapglhgaa", sum := "c2067c4b1ba0387cec9f65ea5917f7322bccad620c0e08a3754a3d4b4f9248ba", checked := Try.checked }
namespace Rows
def none {H : Type} : Left H := { results := [], args := [] }

/-- 'laws.FnExactLeastSetCounts': WHATEVER THE INPUT: true; the input reads as it did. -/
def fnExactLeastSetCountsSpec : ChangeSpec := { name := "fnExactLeastSetCounts", fn := fun _ => fun
  | [d] => { results := [.lit (.bool true)], args := [d] }
  | _ => none }
def fnExactLeastSetCountsRow : OpenClaim := { program := "ytlofjccapglhgaa", sum := "c2067c4b1ba0387cec9f65ea5917f7322bccad620c0e08a3754a3d4b4f9248ba", func := "loop.example/g01275/laws.FnExactLeastSetCounts", spec := "fnExactLeastSetCounts", unfollowed := true, recurses := true, apart := false }
def FnExactLeastSetCountsSaid : Prop := fnExactLeastSetCountsRow.holds Try.pinned (OpenSpec.ofChange fnExactLeastSetCountsSpec)

/-- ITS FALSE NEIGHBOUR: 'it returns false'. Refute it at one input. -/
def fnExactLeastSetCountsWrong : ChangeSpec := { name := "fnExactLeastSetCounts", fn := fun _ => fun
  | [d] => { results := [.lit (.bool false)], args := [d] }
  | _ => none }
def FnExactLeastSetCountsWrongFalsely : Prop := fnExactLeastSetCountsRow.holds Try.pinned (OpenSpec.ofChange fnExactLeastSetCountsWrong)

/-- 'laws.FnExactLeastSetShares': WHATEVER THE INPUT: true; the input reads as it did. -/
def fnExactLeastSetSharesSpec : ChangeSpec := { name := "fnExactLeastSetShares", fn := fun _ => fun
  | [d] => { results := [.lit (.bool true)], args := [d] }
  | _ => none }
def fnExactLeastSetSharesRow : OpenClaim := { program := "ytlofjccapglhgaa", sum := "c2067c4b1ba0387cec9f65ea5917f7322bccad620c0e08a3754a3d4b4f9248ba", func := "loop.example/g01275/laws.FnExactLeastSetShares", spec := "fnExactLeastSetShares", unfollowed := true, recurses := true, apart := false }
def FnExactLeastSetSharesSaid : Prop := fnExactLeastSetSharesRow.holds Try.pinned (OpenSpec.ofChange fnExactLeastSetSharesSpec)

/-- ITS FALSE NEIGHBOUR: 'it returns false'. Refute it at one input. -/
def fnExactLeastSetSharesWrong : ChangeSpec := { name := "fnExactLeastSetShares", fn := fun _ => fun
  | [d] => { results := [.lit (.bool false)], args := [d] }
  | _ => none }
def FnExactLeastSetSharesWrongFalsely : Prop := fnExactLeastSetSharesRow.holds Try.pinned (OpenSpec.ofChange fnExactLeastSetSharesWrong)

/-- 'laws.FnExactEvenSetPowers': WHATEVER THE INPUT: true; the input reads as it did. -/
def fnExactEvenSetPowersSpec : ChangeSpec := { name := "fnExactEvenSetPowers", fn := fun _ => fun
  | [d] => { results := [.lit (.bool true)], args := [d] }
  | _ => none }
def fnExactEvenSetPowersRow : OpenClaim := { program := "ytlofjccapglhgaa", sum := "c2067c4b1ba0387cec9f65ea5917f7322bccad620c0e08a3754a3d4b4f9248ba", func := "loop.example/g01275/laws.FnExactEvenSetPowers", spec := "fnExactEvenSetPowers", unfollowed := true, recurses := true, apart := false }
def FnExactEvenSetPowersSaid : Prop := fnExactEvenSetPowersRow.holds Try.pinned (OpenSpec.ofChange fnExactEvenSetPowersSpec)

/-- ITS FALSE NEIGHBOUR: 'it returns false'. Refute it at one input. -/
def fnExactEvenSetPowersWrong : ChangeSpec := { name := "fnExactEvenSetPowers", fn := fun _ => fun
  | [d] => { results := [.lit (.bool false)], args := [d] }
  | _ => none }
def FnExactEvenSetPowersWrongFalsely : Prop := fnExactEvenSetPowersRow.holds Try.pinned (OpenSpec.ofChange fnExactEvenSetPowersWrong)

/-- 'laws.FnExactSizesOfLeast': WHATEVER THE INPUT: true; the input reads as it did. -/
def fnExactSizesOfLeastSpec : ChangeSpec := { name := "fnExactSizesOfLeast", fn := fun _ => fun
  | [d] => { results := [.lit (.bool true)], args := [d] }
  | _ => none }
def fnExactSizesOfLeastRow : OpenClaim := { program := "ytlofjccapglhgaa", sum := "c2067c4b1ba0387cec9f65ea5917f7322bccad620c0e08a3754a3d4b4f9248ba", func := "loop.example/g01275/laws.FnExactSizesOfLeast", spec := "fnExactSizesOfLeast", unfollowed := true, recurses := true, apart := false }
def FnExactSizesOfLeastSaid : Prop := fnExactSizesOfLeastRow.holds Try.pinned (OpenSpec.ofChange fnExactSizesOfLeastSpec)

/-- ITS FALSE NEIGHBOUR: 'it returns false'. Refute it at one input. -/
def fnExactSizesOfLeastWrong : ChangeSpec := { name := "fnExactSizesOfLeast", fn := fun _ => fun
  | [d] => { results := [.lit (.bool false)], args := [d] }
  | _ => none }
def FnExactSizesOfLeastWrongFalsely : Prop := fnExactSizesOfLeastRow.holds Try.pinned (OpenSpec.ofChange fnExactSizesOfLeastWrong)

/-- 'laws.FnExactSmallestWin': WHATEVER THE INPUT: true; the input reads as it did. -/
def fnExactSmallestWinSpec : ChangeSpec := { name := "fnExactSmallestWin", fn := fun _ => fun
  | [d] => { results := [.lit (.bool true)], args := [d] }
  | _ => none }
def fnExactSmallestWinRow : OpenClaim := { program := "ytlofjccapglhgaa", sum := "c2067c4b1ba0387cec9f65ea5917f7322bccad620c0e08a3754a3d4b4f9248ba", func := "loop.example/g01275/laws.FnExactSmallestWin", spec := "fnExactSmallestWin", unfollowed := true, recurses := true, apart := false }
def FnExactSmallestWinSaid : Prop := fnExactSmallestWinRow.holds Try.pinned (OpenSpec.ofChange fnExactSmallestWinSpec)

/-- ITS FALSE NEIGHBOUR: 'it returns false'. Refute it at one input. -/
def fnExactSmallestWinWrong : ChangeSpec := { name := "fnExactSmallestWin", fn := fun _ => fun
  | [d] => { results := [.lit (.bool false)], args := [d] }
  | _ => none }
def FnExactSmallestWinWrongFalsely : Prop := fnExactSmallestWinRow.holds Try.pinned (OpenSpec.ofChange fnExactSmallestWinWrong)

/-- 'laws.FnExactLargestLoss': WHATEVER THE INPUT: true; the input reads as it did. -/
def fnExactLargestLossSpec : ChangeSpec := { name := "fnExactLargestLoss", fn := fun _ => fun
  | [d] => { results := [.lit (.bool true)], args := [d] }
  | _ => none }
def fnExactLargestLossRow : OpenClaim := { program := "ytlofjccapglhgaa", sum := "c2067c4b1ba0387cec9f65ea5917f7322bccad620c0e08a3754a3d4b4f9248ba", func := "loop.example/g01275/laws.FnExactLargestLoss", spec := "fnExactLargestLoss", unfollowed := true, recurses := true, apart := false }
def FnExactLargestLossSaid : Prop := fnExactLargestLossRow.holds Try.pinned (OpenSpec.ofChange fnExactLargestLossSpec)

/-- ITS FALSE NEIGHBOUR: 'it returns false'. Refute it at one input. -/
def fnExactLargestLossWrong : ChangeSpec := { name := "fnExactLargestLoss", fn := fun _ => fun
  | [d] => { results := [.lit (.bool false)], args := [d] }
  | _ => none }
def FnExactLargestLossWrongFalsely : Prop := fnExactLargestLossRow.holds Try.pinned (OpenSpec.ofChange fnExactLargestLossWrong)

/-- 'laws.FnExactWeightShares': WHATEVER THE INPUT: true; the input reads as it did. -/
def fnExactWeightSharesSpec : ChangeSpec := { name := "fnExactWeightShares", fn := fun _ => fun
  | [d] => { results := [.lit (.bool true)], args := [d] }
  | _ => none }
def fnExactWeightSharesRow : OpenClaim := { program := "ytlofjccapglhgaa", sum := "c2067c4b1ba0387cec9f65ea5917f7322bccad620c0e08a3754a3d4b4f9248ba", func := "loop.example/g01275/laws.FnExactWeightShares", spec := "fnExactWeightShares", unfollowed := true, recurses := true, apart := false }
def FnExactWeightSharesSaid : Prop := fnExactWeightSharesRow.holds Try.pinned (OpenSpec.ofChange fnExactWeightSharesSpec)

/-- ITS FALSE NEIGHBOUR: 'it returns false'. Refute it at one input. -/
def fnExactWeightSharesWrong : ChangeSpec := { name := "fnExactWeightShares", fn := fun _ => fun
  | [d] => { results := [.lit (.bool false)], args := [d] }
  | _ => none }
def FnExactWeightSharesWrongFalsely : Prop := fnExactWeightSharesRow.holds Try.pinned (OpenSpec.ofChange fnExactWeightSharesWrong)

/-- 'laws.FnExactPowerSigns': WHATEVER THE INPUT: true; the input reads as it did. -/
def fnExactPowerSignsSpec : ChangeSpec := { name := "fnExactPowerSigns", fn := fun _ => fun
  | [d] => { results := [.lit (.bool true)], args := [d] }
  | _ => none }
def fnExactPowerSignsRow : OpenClaim := { program := "ytlofjccapglhgaa", sum := "c2067c4b1ba0387cec9f65ea5917f7322bccad620c0e08a3754a3d4b4f9248ba", func := "loop.example/g01275/laws.FnExactPowerSigns", spec := "fnExactPowerSigns", unfollowed := true, recurses := true, apart := false }
def FnExactPowerSignsSaid : Prop := fnExactPowerSignsRow.holds Try.pinned (OpenSpec.ofChange fnExactPowerSignsSpec)

/-- ITS FALSE NEIGHBOUR: 'it returns false'. Refute it at one input. -/
def fnExactPowerSignsWrong : ChangeSpec := { name := "fnExactPowerSigns", fn := fun _ => fun
  | [d] => { results := [.lit (.bool false)], args := [d] }
  | _ => none }
def FnExactPowerSignsWrongFalsely : Prop := fnExactPowerSignsRow.holds Try.pinned (OpenSpec.ofChange fnExactPowerSignsWrong)

/-- 'laws.FnExactQuotaSteps': WHATEVER THE INPUT: true; the input reads as it did. -/
def fnExactQuotaStepsSpec : ChangeSpec := { name := "fnExactQuotaSteps", fn := fun _ => fun
  | [d] => { results := [.lit (.bool true)], args := [d] }
  | _ => none }
def fnExactQuotaStepsRow : OpenClaim := { program := "ytlofjccapglhgaa", sum := "c2067c4b1ba0387cec9f65ea5917f7322bccad620c0e08a3754a3d4b4f9248ba", func := "loop.example/g01275/laws.FnExactQuotaSteps", spec := "fnExactQuotaSteps", recurses := true, apart := false }
def FnExactQuotaStepsSaid : Prop := fnExactQuotaStepsRow.holds Try.pinned (OpenSpec.ofChange fnExactQuotaStepsSpec)

/-- ITS FALSE NEIGHBOUR: 'it returns false'. Refute it at one input. -/
def fnExactQuotaStepsWrong : ChangeSpec := { name := "fnExactQuotaSteps", fn := fun _ => fun
  | [d] => { results := [.lit (.bool false)], args := [d] }
  | _ => none }
def FnExactQuotaStepsWrongFalsely : Prop := fnExactQuotaStepsRow.holds Try.pinned (OpenSpec.ofChange fnExactQuotaStepsWrong)

/-- 'laws.FnExactCountVotings': WHATEVER THE INPUT: true; the input reads as it did. -/
def fnExactCountVotingsSpec : ChangeSpec := { name := "fnExactCountVotings", fn := fun _ => fun
  | [d] => { results := [.lit (.bool true)], args := [d] }
  | _ => none }
def fnExactCountVotingsRow : OpenClaim := { program := "ytlofjccapglhgaa", sum := "c2067c4b1ba0387cec9f65ea5917f7322bccad620c0e08a3754a3d4b4f9248ba", func := "loop.example/g01275/laws.FnExactCountVotings", spec := "fnExactCountVotings", recurses := true, apart := false }
def FnExactCountVotingsSaid : Prop := fnExactCountVotingsRow.holds Try.pinned (OpenSpec.ofChange fnExactCountVotingsSpec)

/-- ITS FALSE NEIGHBOUR: 'it returns false'. Refute it at one input. -/
def fnExactCountVotingsWrong : ChangeSpec := { name := "fnExactCountVotings", fn := fun _ => fun
  | [d] => { results := [.lit (.bool false)], args := [d] }
  | _ => none }
def FnExactCountVotingsWrongFalsely : Prop := fnExactCountVotingsRow.holds Try.pinned (OpenSpec.ofChange fnExactCountVotingsWrong)

/-- 'laws.FnExactQuotaRange': WHATEVER THE INPUT: true; the input reads as it did. -/
def fnExactQuotaRangeSpec : ChangeSpec := { name := "fnExactQuotaRange", fn := fun _ => fun
  | [d] => { results := [.lit (.bool true)], args := [d] }
  | _ => none }
def fnExactQuotaRangeRow : OpenClaim := { program := "ytlofjccapglhgaa", sum := "c2067c4b1ba0387cec9f65ea5917f7322bccad620c0e08a3754a3d4b4f9248ba", func := "loop.example/g01275/laws.FnExactQuotaRange", spec := "fnExactQuotaRange", recurses := true, apart := false }
def FnExactQuotaRangeSaid : Prop := fnExactQuotaRangeRow.holds Try.pinned (OpenSpec.ofChange fnExactQuotaRangeSpec)

/-- ITS FALSE NEIGHBOUR: 'it returns false'. Refute it at one input. -/
def fnExactQuotaRangeWrong : ChangeSpec := { name := "fnExactQuotaRange", fn := fun _ => fun
  | [d] => { results := [.lit (.bool false)], args := [d] }
  | _ => none }
def FnExactQuotaRangeWrongFalsely : Prop := fnExactQuotaRangeRow.holds Try.pinned (OpenSpec.ofChange fnExactQuotaRangeWrong)

/-- 'laws.FnExactSamePower': WHATEVER THE INPUT: true; the input reads as it did. -/
def fnExactSamePowerSpec : ChangeSpec := { name := "fnExactSamePower", fn := fun _ => fun
  | [d] => { results := [.lit (.bool true)], args := [d] }
  | _ => none }
def fnExactSamePowerRow : OpenClaim := { program := "ytlofjccapglhgaa", sum := "c2067c4b1ba0387cec9f65ea5917f7322bccad620c0e08a3754a3d4b4f9248ba", func := "loop.example/g01275/laws.FnExactSamePower", spec := "fnExactSamePower", unfollowed := true, recurses := true, apart := false }
def FnExactSamePowerSaid : Prop := fnExactSamePowerRow.holds Try.pinned (OpenSpec.ofChange fnExactSamePowerSpec)

/-- ITS FALSE NEIGHBOUR: 'it returns false'. Refute it at one input. -/
def fnExactSamePowerWrong : ChangeSpec := { name := "fnExactSamePower", fn := fun _ => fun
  | [d] => { results := [.lit (.bool false)], args := [d] }
  | _ => none }
def FnExactSamePowerWrongFalsely : Prop := fnExactSamePowerRow.holds Try.pinned (OpenSpec.ofChange fnExactSamePowerWrong)

/- THE SECOND FORM. 'bulk': how many values and letters a reading holds, each counted each time it is reached (what is shared counts as often as it is met; a slice's spare places count too). A statement '..UptoSaid' is the law's where the arguments, and the package variables that the reading takes, are together of bulk at most 1048576: NARROWER than '..Said'. Prove '..Said' where nothing that the law and all that it calls make is longer than what came in: it says more and counts as full. Else prove '..UptoSaid'. A law counts once. -/
mutual
def uptoBulk {H : Type} : DataW H → Nat
  | .lit (.string bytes) => bytes.length + 1
  | .lit _ => 1
  | .nil => 1
  | .ptr d => uptoBulk d + 1
  | .slice elems spare => uptoBulkAll elems + uptoBulkAll spare + 1
  | .agg parts => uptoBulkAll parts + 1
  | .iface _ d => uptoBulk d + 1
  | .map entries => uptoBulkEntries entries + 1
  | .held _ => 1
def uptoBulkAll {H : Type} : List (DataW H) → Nat
  | [] => 0
  | d :: r => uptoBulk d + uptoBulkAll r
def uptoBulkEntries {H : Type} : List (Lit × DataW H) → Nat
  | [] => 0
  | x :: r => uptoBulkEntry x + uptoBulkEntries r
def uptoBulkEntry {H : Type} : Lit × DataW H → Nat
  | (.string bytes, d) => bytes.length + uptoBulk d + 1
  | (_, d) => uptoBulk d + 1
 end
def uptoSmall : (H : Type) → List (DataW H) → Bool := fun _ ds => decide (uptoBulkAll ds ≤ 1048576)
def OpenSpec.upto (s : _root_.Go.ChangeSpec) : _root_.Go.OpenSpec := { _root_.Go.OpenSpec.ofChange s with cond := some uptoSmall }

/-- 'laws.FnExactLeastSetCounts', WHERE WHAT IT READS IS OF BULK AT MOST 1048576: true; the input reads as it did. -/
def fnExactLeastSetCountsUptoRow : OpenClaim := { program := "ytlofjccapglhgaa", sum := "c2067c4b1ba0387cec9f65ea5917f7322bccad620c0e08a3754a3d4b4f9248ba", func := "loop.example/g01275/laws.FnExactLeastSetCounts", spec := "fnExactLeastSetCounts", unfollowed := true, recurses := true, apart := false, narrowed := true }
def FnExactLeastSetCountsUptoSaid : Prop := fnExactLeastSetCountsUptoRow.holds Try.pinned (OpenSpec.upto fnExactLeastSetCountsSpec)

/-- 'laws.FnExactLeastSetShares', WHERE WHAT IT READS IS OF BULK AT MOST 1048576: true; the input reads as it did. -/
def fnExactLeastSetSharesUptoRow : OpenClaim := { program := "ytlofjccapglhgaa", sum := "c2067c4b1ba0387cec9f65ea5917f7322bccad620c0e08a3754a3d4b4f9248ba", func := "loop.example/g01275/laws.FnExactLeastSetShares", spec := "fnExactLeastSetShares", unfollowed := true, recurses := true, apart := false, narrowed := true }
def FnExactLeastSetSharesUptoSaid : Prop := fnExactLeastSetSharesUptoRow.holds Try.pinned (OpenSpec.upto fnExactLeastSetSharesSpec)

/-- 'laws.FnExactEvenSetPowers', WHERE WHAT IT READS IS OF BULK AT MOST 1048576: true; the input reads as it did. -/
def fnExactEvenSetPowersUptoRow : OpenClaim := { program := "ytlofjccapglhgaa", sum := "c2067c4b1ba0387cec9f65ea5917f7322bccad620c0e08a3754a3d4b4f9248ba", func := "loop.example/g01275/laws.FnExactEvenSetPowers", spec := "fnExactEvenSetPowers", unfollowed := true, recurses := true, apart := false, narrowed := true }
def FnExactEvenSetPowersUptoSaid : Prop := fnExactEvenSetPowersUptoRow.holds Try.pinned (OpenSpec.upto fnExactEvenSetPowersSpec)

/-- 'laws.FnExactSizesOfLeast', WHERE WHAT IT READS IS OF BULK AT MOST 1048576: true; the input reads as it did. -/
def fnExactSizesOfLeastUptoRow : OpenClaim := { program := "ytlofjccapglhgaa", sum := "c2067c4b1ba0387cec9f65ea5917f7322bccad620c0e08a3754a3d4b4f9248ba", func := "loop.example/g01275/laws.FnExactSizesOfLeast", spec := "fnExactSizesOfLeast", unfollowed := true, recurses := true, apart := false, narrowed := true }
def FnExactSizesOfLeastUptoSaid : Prop := fnExactSizesOfLeastUptoRow.holds Try.pinned (OpenSpec.upto fnExactSizesOfLeastSpec)

/-- 'laws.FnExactSmallestWin', WHERE WHAT IT READS IS OF BULK AT MOST 1048576: true; the input reads as it did. -/
def fnExactSmallestWinUptoRow : OpenClaim := { program := "ytlofjccapglhgaa", sum := "c2067c4b1ba0387cec9f65ea5917f7322bccad620c0e08a3754a3d4b4f9248ba", func := "loop.example/g01275/laws.FnExactSmallestWin", spec := "fnExactSmallestWin", unfollowed := true, recurses := true, apart := false, narrowed := true }
def FnExactSmallestWinUptoSaid : Prop := fnExactSmallestWinUptoRow.holds Try.pinned (OpenSpec.upto fnExactSmallestWinSpec)

/-- 'laws.FnExactLargestLoss', WHERE WHAT IT READS IS OF BULK AT MOST 1048576: true; the input reads as it did. -/
def fnExactLargestLossUptoRow : OpenClaim := { program := "ytlofjccapglhgaa", sum := "c2067c4b1ba0387cec9f65ea5917f7322bccad620c0e08a3754a3d4b4f9248ba", func := "loop.example/g01275/laws.FnExactLargestLoss", spec := "fnExactLargestLoss", unfollowed := true, recurses := true, apart := false, narrowed := true }
def FnExactLargestLossUptoSaid : Prop := fnExactLargestLossUptoRow.holds Try.pinned (OpenSpec.upto fnExactLargestLossSpec)

/-- 'laws.FnExactWeightShares', WHERE WHAT IT READS IS OF BULK AT MOST 1048576: true; the input reads as it did. -/
def fnExactWeightSharesUptoRow : OpenClaim := { program := "ytlofjccapglhgaa", sum := "c2067c4b1ba0387cec9f65ea5917f7322bccad620c0e08a3754a3d4b4f9248ba", func := "loop.example/g01275/laws.FnExactWeightShares", spec := "fnExactWeightShares", unfollowed := true, recurses := true, apart := false, narrowed := true }
def FnExactWeightSharesUptoSaid : Prop := fnExactWeightSharesUptoRow.holds Try.pinned (OpenSpec.upto fnExactWeightSharesSpec)

/-- 'laws.FnExactPowerSigns', WHERE WHAT IT READS IS OF BULK AT MOST 1048576: true; the input reads as it did. -/
def fnExactPowerSignsUptoRow : OpenClaim := { program := "ytlofjccapglhgaa", sum := "c2067c4b1ba0387cec9f65ea5917f7322bccad620c0e08a3754a3d4b4f9248ba", func := "loop.example/g01275/laws.FnExactPowerSigns", spec := "fnExactPowerSigns", unfollowed := true, recurses := true, apart := false, narrowed := true }
def FnExactPowerSignsUptoSaid : Prop := fnExactPowerSignsUptoRow.holds Try.pinned (OpenSpec.upto fnExactPowerSignsSpec)

/-- 'laws.FnExactQuotaSteps', WHERE WHAT IT READS IS OF BULK AT MOST 1048576: true; the input reads as it did. -/
def fnExactQuotaStepsUptoRow : OpenClaim := { program := "ytlofjccapglhgaa", sum := "c2067c4b1ba0387cec9f65ea5917f7322bccad620c0e08a3754a3d4b4f9248ba", func := "loop.example/g01275/laws.FnExactQuotaSteps", spec := "fnExactQuotaSteps", recurses := true, apart := false, narrowed := true }
def FnExactQuotaStepsUptoSaid : Prop := fnExactQuotaStepsUptoRow.holds Try.pinned (OpenSpec.upto fnExactQuotaStepsSpec)

/-- 'laws.FnExactCountVotings', WHERE WHAT IT READS IS OF BULK AT MOST 1048576: true; the input reads as it did. -/
def fnExactCountVotingsUptoRow : OpenClaim := { program := "ytlofjccapglhgaa", sum := "c2067c4b1ba0387cec9f65ea5917f7322bccad620c0e08a3754a3d4b4f9248ba", func := "loop.example/g01275/laws.FnExactCountVotings", spec := "fnExactCountVotings", recurses := true, apart := false, narrowed := true }
def FnExactCountVotingsUptoSaid : Prop := fnExactCountVotingsUptoRow.holds Try.pinned (OpenSpec.upto fnExactCountVotingsSpec)

/-- 'laws.FnExactQuotaRange', WHERE WHAT IT READS IS OF BULK AT MOST 1048576: true; the input reads as it did. -/
def fnExactQuotaRangeUptoRow : OpenClaim := { program := "ytlofjccapglhgaa", sum := "c2067c4b1ba0387cec9f65ea5917f7322bccad620c0e08a3754a3d4b4f9248ba", func := "loop.example/g01275/laws.FnExactQuotaRange", spec := "fnExactQuotaRange", recurses := true, apart := false, narrowed := true }
def FnExactQuotaRangeUptoSaid : Prop := fnExactQuotaRangeUptoRow.holds Try.pinned (OpenSpec.upto fnExactQuotaRangeSpec)

/-- 'laws.FnExactSamePower', WHERE WHAT IT READS IS OF BULK AT MOST 1048576: true; the input reads as it did. -/
def fnExactSamePowerUptoRow : OpenClaim := { program := "ytlofjccapglhgaa", sum := "c2067c4b1ba0387cec9f65ea5917f7322bccad620c0e08a3754a3d4b4f9248ba", func := "loop.example/g01275/laws.FnExactSamePower", spec := "fnExactSamePower", unfollowed := true, recurses := true, apart := false, narrowed := true }
def FnExactSamePowerUptoSaid : Prop := fnExactSamePowerUptoRow.holds Try.pinned (OpenSpec.upto fnExactSamePowerSpec)

end Rows
end Go.Proofs.Ytlofjccapglhgaa
