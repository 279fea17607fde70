/-
  No cell of these rows narrows 'for every input' (looked for: loops, veiled, ifaces, maps, wideKeys, modest, calm, conditions, laid).
  DERIVED. THE GIVEN ROWS OF THIS SEAT. 11 by the template 'for every input the law returns true; each argument reads behind the call as it read before'; 0 by the template 'total and deterministic' (their statements: YtlcfimddcedbcabTotals.lean).
  GIVEN WITH THE SEED: the statements are not yours to turn. If you find one false, say at which input.
  Laid BY PROGRAM, IN A SANDBOX (cutbox-rows.mjs): the forced cells as the released guide's own fill.sh prints them over the translation b6ce8c7b8821f710… (all of the seat's roots in one cut). By AI agents, Wed Nov 11 2026. No macro, syntax, notation, axiom, sorry.
-/
import Derived.Test.YtlcfimddcedbcabChecked
import GoSem.Claim
import GoSem.ClaimJoined
import GoSem.ClaimMapViews
import Derived.JoinedTies
import Derived.KernelRfl
namespace Go.Proofs.Ytlcfimddcedbcab
/- THE CELL 'sum', in the pinned program and in every row, IS THE sha256 OF THE DUMP (.gsa) THAT YtlcfimddcedbcabProg.lean LOADS. Nothing in Lean hashes anything: it is a label: what it is worth is what the hold of that sum in a sandbox is worth. -/
noncomputable def Try.pinned : Pinned := { name := "ytlcfimddcedbcab", sum := "b6ce8c7b8821f7104e855af10cc303bb6fc43fac394b05d2dfeea00ed0a7baae", checked := Try.checked }
namespace Rows
def none {H : Type} : Left H := { results := [], args := [] }

/-- 'laws.FnExactSolutions': WHATEVER THE INPUT: true; the input reads as it did. -/
def fnExactSolutionsSpec : ChangeSpec := { name := "fnExactSolutions", fn := fun _ => fun
  | [d] => { results := [.lit (.bool true)], args := [d] }
  | _ => none }
def fnExactSolutionsRow : OpenClaim := { program := "ytlcfimddcedbcab", sum := "b6ce8c7b8821f7104e855af10cc303bb6fc43fac394b05d2dfeea00ed0a7baae", func := "loop.example/g01275/laws.FnExactSolutions", spec := "fnExactSolutions", unfollowed := true, recurses := true, plainKeys := false, apart := false }
def FnExactSolutionsSaid : Prop := fnExactSolutionsRow.holds Try.pinned (OpenSpec.ofChange fnExactSolutionsSpec)

/-- ITS FALSE NEIGHBOUR: 'it returns false'. Refute it at one input. -/
def fnExactSolutionsWrong : ChangeSpec := { name := "fnExactSolutions", fn := fun _ => fun
  | [d] => { results := [.lit (.bool false)], args := [d] }
  | _ => none }
def FnExactSolutionsWrongFalsely : Prop := fnExactSolutionsRow.holds Try.pinned (OpenSpec.ofChange fnExactSolutionsWrong)

/-- 'laws.FnExactCountSolutions': WHATEVER THE INPUT: true; the input reads as it did. -/
def fnExactCountSolutionsSpec : ChangeSpec := { name := "fnExactCountSolutions", fn := fun _ => fun
  | [d] => { results := [.lit (.bool true)], args := [d] }
  | _ => none }
def fnExactCountSolutionsRow : OpenClaim := { program := "ytlcfimddcedbcab", sum := "b6ce8c7b8821f7104e855af10cc303bb6fc43fac394b05d2dfeea00ed0a7baae", func := "loop.example/g01275/laws.FnExactCountSolutions", spec := "fnExactCountSolutions", unfollowed := true, recurses := true, plainKeys := false, apart := false }
def FnExactCountSolutionsSaid : Prop := fnExactCountSolutionsRow.holds Try.pinned (OpenSpec.ofChange fnExactCountSolutionsSpec)

/-- ITS FALSE NEIGHBOUR: 'it returns false'. Refute it at one input. -/
def fnExactCountSolutionsWrong : ChangeSpec := { name := "fnExactCountSolutions", fn := fun _ => fun
  | [d] => { results := [.lit (.bool false)], args := [d] }
  | _ => none }
def FnExactCountSolutionsWrongFalsely : Prop := fnExactCountSolutionsRow.holds Try.pinned (OpenSpec.ofChange fnExactCountSolutionsWrong)

/-- 'laws.FnExactFirstSolution': WHATEVER THE INPUT: true; the input reads as it did. -/
def fnExactFirstSolutionSpec : ChangeSpec := { name := "fnExactFirstSolution", fn := fun _ => fun
  | [d] => { results := [.lit (.bool true)], args := [d] }
  | _ => none }
def fnExactFirstSolutionRow : OpenClaim := { program := "ytlcfimddcedbcab", sum := "b6ce8c7b8821f7104e855af10cc303bb6fc43fac394b05d2dfeea00ed0a7baae", func := "loop.example/g01275/laws.FnExactFirstSolution", spec := "fnExactFirstSolution", unfollowed := true, recurses := true, plainKeys := false, apart := false }
def FnExactFirstSolutionSaid : Prop := fnExactFirstSolutionRow.holds Try.pinned (OpenSpec.ofChange fnExactFirstSolutionSpec)

/-- ITS FALSE NEIGHBOUR: 'it returns false'. Refute it at one input. -/
def fnExactFirstSolutionWrong : ChangeSpec := { name := "fnExactFirstSolution", fn := fun _ => fun
  | [d] => { results := [.lit (.bool false)], args := [d] }
  | _ => none }
def FnExactFirstSolutionWrongFalsely : Prop := fnExactFirstSolutionRow.holds Try.pinned (OpenSpec.ofChange fnExactFirstSolutionWrong)

/-- 'laws.FnExactIsSolved': WHATEVER THE INPUT: true; the input reads as it did. -/
def fnExactIsSolvedSpec : ChangeSpec := { name := "fnExactIsSolved", fn := fun _ => fun
  | [d] => { results := [.lit (.bool true)], args := [d] }
  | _ => none }
def fnExactIsSolvedRow : OpenClaim := { program := "ytlcfimddcedbcab", sum := "b6ce8c7b8821f7104e855af10cc303bb6fc43fac394b05d2dfeea00ed0a7baae", func := "loop.example/g01275/laws.FnExactIsSolved", spec := "fnExactIsSolved", unfollowed := true, recurses := true, plainKeys := false, apart := false }
def FnExactIsSolvedSaid : Prop := fnExactIsSolvedRow.holds Try.pinned (OpenSpec.ofChange fnExactIsSolvedSpec)

/-- ITS FALSE NEIGHBOUR: 'it returns false'. Refute it at one input. -/
def fnExactIsSolvedWrong : ChangeSpec := { name := "fnExactIsSolved", fn := fun _ => fun
  | [d] => { results := [.lit (.bool false)], args := [d] }
  | _ => none }
def FnExactIsSolvedWrongFalsely : Prop := fnExactIsSolvedRow.holds Try.pinned (OpenSpec.ofChange fnExactIsSolvedWrong)

/-- 'laws.FnExactLeftByClues': WHATEVER THE INPUT: true; the input reads as it did. -/
def fnExactLeftByCluesSpec : ChangeSpec := { name := "fnExactLeftByClues", fn := fun _ => fun
  | [d] => { results := [.lit (.bool true)], args := [d] }
  | _ => none }
def fnExactLeftByCluesRow : OpenClaim := { program := "ytlcfimddcedbcab", sum := "b6ce8c7b8821f7104e855af10cc303bb6fc43fac394b05d2dfeea00ed0a7baae", func := "loop.example/g01275/laws.FnExactLeftByClues", spec := "fnExactLeftByClues", unfollowed := true, recurses := true, plainKeys := false, apart := false }
def FnExactLeftByCluesSaid : Prop := fnExactLeftByCluesRow.holds Try.pinned (OpenSpec.ofChange fnExactLeftByCluesSpec)

/-- ITS FALSE NEIGHBOUR: 'it returns false'. Refute it at one input. -/
def fnExactLeftByCluesWrong : ChangeSpec := { name := "fnExactLeftByClues", fn := fun _ => fun
  | [d] => { results := [.lit (.bool false)], args := [d] }
  | _ => none }
def FnExactLeftByCluesWrongFalsely : Prop := fnExactLeftByCluesRow.holds Try.pinned (OpenSpec.ofChange fnExactLeftByCluesWrong)

/-- 'laws.FnExactBestClue': WHATEVER THE INPUT: true; the input reads as it did. -/
def fnExactBestClueSpec : ChangeSpec := { name := "fnExactBestClue", fn := fun _ => fun
  | [d] => { results := [.lit (.bool true)], args := [d] }
  | _ => none }
def fnExactBestClueRow : OpenClaim := { program := "ytlcfimddcedbcab", sum := "b6ce8c7b8821f7104e855af10cc303bb6fc43fac394b05d2dfeea00ed0a7baae", func := "loop.example/g01275/laws.FnExactBestClue", spec := "fnExactBestClue", unfollowed := true, recurses := true, plainKeys := false, apart := false }
def FnExactBestClueSaid : Prop := fnExactBestClueRow.holds Try.pinned (OpenSpec.ofChange fnExactBestClueSpec)

/-- ITS FALSE NEIGHBOUR: 'it returns false'. Refute it at one input. -/
def fnExactBestClueWrong : ChangeSpec := { name := "fnExactBestClue", fn := fun _ => fun
  | [d] => { results := [.lit (.bool false)], args := [d] }
  | _ => none }
def FnExactBestClueWrongFalsely : Prop := fnExactBestClueRow.holds Try.pinned (OpenSpec.ofChange fnExactBestClueWrong)

/-- 'laws.FnExactSureWins': WHATEVER THE INPUT: true; the input reads as it did. -/
def fnExactSureWinsSpec : ChangeSpec := { name := "fnExactSureWins", fn := fun _ => fun
  | [d] => { results := [.lit (.bool true)], args := [d] }
  | _ => none }
def fnExactSureWinsRow : OpenClaim := { program := "ytlcfimddcedbcab", sum := "b6ce8c7b8821f7104e855af10cc303bb6fc43fac394b05d2dfeea00ed0a7baae", func := "loop.example/g01275/laws.FnExactSureWins", spec := "fnExactSureWins", unfollowed := true, recurses := true, plainKeys := false, apart := false }
def FnExactSureWinsSaid : Prop := fnExactSureWinsRow.holds Try.pinned (OpenSpec.ofChange fnExactSureWinsSpec)

/-- ITS FALSE NEIGHBOUR: 'it returns false'. Refute it at one input. -/
def fnExactSureWinsWrong : ChangeSpec := { name := "fnExactSureWins", fn := fun _ => fun
  | [d] => { results := [.lit (.bool false)], args := [d] }
  | _ => none }
def FnExactSureWinsWrongFalsely : Prop := fnExactSureWinsRow.holds Try.pinned (OpenSpec.ofChange fnExactSureWinsWrong)

/-- 'laws.FnExactNeedlessClues': WHATEVER THE INPUT: true; the input reads as it did. -/
def fnExactNeedlessCluesSpec : ChangeSpec := { name := "fnExactNeedlessClues", fn := fun _ => fun
  | [d] => { results := [.lit (.bool true)], args := [d] }
  | _ => none }
def fnExactNeedlessCluesRow : OpenClaim := { program := "ytlcfimddcedbcab", sum := "b6ce8c7b8821f7104e855af10cc303bb6fc43fac394b05d2dfeea00ed0a7baae", func := "loop.example/g01275/laws.FnExactNeedlessClues", spec := "fnExactNeedlessClues", inPlace := ["slices.overlaps[loop.example/g01275/impl.Clue]"], unfollowed := true, recurses := true, plainKeys := false, apart := false }
def FnExactNeedlessCluesSaid : Prop := fnExactNeedlessCluesRow.holds Try.pinned (OpenSpec.ofChange fnExactNeedlessCluesSpec)

/-- ITS FALSE NEIGHBOUR: 'it returns false'. Refute it at one input. -/
def fnExactNeedlessCluesWrong : ChangeSpec := { name := "fnExactNeedlessClues", fn := fun _ => fun
  | [d] => { results := [.lit (.bool false)], args := [d] }
  | _ => none }
def FnExactNeedlessCluesWrongFalsely : Prop := fnExactNeedlessCluesRow.holds Try.pinned (OpenSpec.ofChange fnExactNeedlessCluesWrong)

/-- 'laws.FnExactHarderPuzzle': WHATEVER THE INPUT: true; the input reads as it did. -/
def fnExactHarderPuzzleSpec : ChangeSpec := { name := "fnExactHarderPuzzle", fn := fun _ => fun
  | [d] => { results := [.lit (.bool true)], args := [d] }
  | _ => none }
def fnExactHarderPuzzleRow : OpenClaim := { program := "ytlcfimddcedbcab", sum := "b6ce8c7b8821f7104e855af10cc303bb6fc43fac394b05d2dfeea00ed0a7baae", func := "loop.example/g01275/laws.FnExactHarderPuzzle", spec := "fnExactHarderPuzzle", inPlace := ["slices.overlaps[loop.example/g01275/impl.Clue]"], unfollowed := true, recurses := true, plainKeys := false, apart := false }
def FnExactHarderPuzzleSaid : Prop := fnExactHarderPuzzleRow.holds Try.pinned (OpenSpec.ofChange fnExactHarderPuzzleSpec)

/-- ITS FALSE NEIGHBOUR: 'it returns false'. Refute it at one input. -/
def fnExactHarderPuzzleWrong : ChangeSpec := { name := "fnExactHarderPuzzle", fn := fun _ => fun
  | [d] => { results := [.lit (.bool false)], args := [d] }
  | _ => none }
def FnExactHarderPuzzleWrongFalsely : Prop := fnExactHarderPuzzleRow.holds Try.pinned (OpenSpec.ofChange fnExactHarderPuzzleWrong)

/-- 'laws.FnExactIsGame': WHATEVER THE INPUT: true; the input reads as it did. -/
def fnExactIsGameSpec : ChangeSpec := { name := "fnExactIsGame", fn := fun _ => fun
  | [d] => { results := [.lit (.bool true)], args := [d] }
  | _ => none }
def fnExactIsGameRow : OpenClaim := { program := "ytlcfimddcedbcab", sum := "b6ce8c7b8821f7104e855af10cc303bb6fc43fac394b05d2dfeea00ed0a7baae", func := "loop.example/g01275/laws.FnExactIsGame", spec := "fnExactIsGame", unfollowed := true, recurses := true, plainKeys := false, apart := false }
def FnExactIsGameSaid : Prop := fnExactIsGameRow.holds Try.pinned (OpenSpec.ofChange fnExactIsGameSpec)

/-- ITS FALSE NEIGHBOUR: 'it returns false'. Refute it at one input. -/
def fnExactIsGameWrong : ChangeSpec := { name := "fnExactIsGame", fn := fun _ => fun
  | [d] => { results := [.lit (.bool false)], args := [d] }
  | _ => none }
def FnExactIsGameWrongFalsely : Prop := fnExactIsGameRow.holds Try.pinned (OpenSpec.ofChange fnExactIsGameWrong)

/-- 'laws.FnExactWinsGame': WHATEVER THE INPUT: true; the input reads as it did. -/
def fnExactWinsGameSpec : ChangeSpec := { name := "fnExactWinsGame", fn := fun _ => fun
  | [d1, d2] => { results := [.lit (.bool true)], args := [d1, d2] }
  | _ => none }
def fnExactWinsGameRow : OpenClaim := { program := "ytlcfimddcedbcab", sum := "b6ce8c7b8821f7104e855af10cc303bb6fc43fac394b05d2dfeea00ed0a7baae", func := "loop.example/g01275/laws.FnExactWinsGame", spec := "fnExactWinsGame", unfollowed := true, recurses := true, plainKeys := false, apart := false }
def FnExactWinsGameSaid : Prop := fnExactWinsGameRow.holds Try.pinned (OpenSpec.ofChange fnExactWinsGameSpec)

/-- ITS FALSE NEIGHBOUR: 'it returns false'. Refute it at one input. -/
def fnExactWinsGameWrong : ChangeSpec := { name := "fnExactWinsGame", fn := fun _ => fun
  | [d1, d2] => { results := [.lit (.bool false)], args := [d1, d2] }
  | _ => none }
def FnExactWinsGameWrongFalsely : Prop := fnExactWinsGameRow.holds Try.pinned (OpenSpec.ofChange fnExactWinsGameWrong)

/- THE SECOND FORM. 'bulk': how many values and letters a reading holds, each counted each time it is reached (what is shared counts as often as it is met; a slice's spare places count too). A statement '..UptoSaid' is the law's where the arguments, and the package variables that the reading takes, are together of bulk at most 1048576: NARROWER than '..Said'. Prove '..Said' where nothing that the law and all that it calls make is longer than what came in: it says more and counts as full. Else prove '..UptoSaid'. A law counts once. -/
mutual
def uptoBulk {H : Type} : DataW H → Nat
  | .lit (.string bytes) => bytes.length + 1
  | .lit _ => 1
  | .nil => 1
  | .ptr d => uptoBulk d + 1
  | .slice elems spare => uptoBulkAll elems + uptoBulkAll spare + 1
  | .agg parts => uptoBulkAll parts + 1
  | .iface _ d => uptoBulk d + 1
  | .map entries => uptoBulkEntries entries + 1
  | .held _ => 1
def uptoBulkAll {H : Type} : List (DataW H) → Nat
  | [] => 0
  | d :: r => uptoBulk d + uptoBulkAll r
def uptoBulkEntries {H : Type} : List (Lit × DataW H) → Nat
  | [] => 0
  | x :: r => uptoBulkEntry x + uptoBulkEntries r
def uptoBulkEntry {H : Type} : Lit × DataW H → Nat
  | (.string bytes, d) => bytes.length + uptoBulk d + 1
  | (_, d) => uptoBulk d + 1
 end
def uptoSmall : (H : Type) → List (DataW H) → Bool := fun _ ds => decide (uptoBulkAll ds ≤ 1048576)
def OpenSpec.upto (s : _root_.Go.ChangeSpec) : _root_.Go.OpenSpec := { _root_.Go.OpenSpec.ofChange s with cond := some uptoSmall }

/-- 'laws.FnExactSolutions', WHERE WHAT IT READS IS OF BULK AT MOST 1048576: true; the input reads as it did. -/
def fnExactSolutionsUptoRow : OpenClaim := { program := "ytlcfimddcedbcab", sum := "b6ce8c7b8821f7104e855af10cc303bb6fc43fac394b05d2dfeea00ed0a7baae", func := "loop.example/g01275/laws.FnExactSolutions", spec := "fnExactSolutions", unfollowed := true, recurses := true, plainKeys := false, apart := false, narrowed := true }
def FnExactSolutionsUptoSaid : Prop := fnExactSolutionsUptoRow.holds Try.pinned (OpenSpec.upto fnExactSolutionsSpec)

/-- 'laws.FnExactCountSolutions', WHERE WHAT IT READS IS OF BULK AT MOST 1048576: true; the input reads as it did. -/
def fnExactCountSolutionsUptoRow : OpenClaim := { program := "ytlcfimddcedbcab", sum := "b6ce8c7b8821f7104e855af10cc303bb6fc43fac394b05d2dfeea00ed0a7baae", func := "loop.example/g01275/laws.FnExactCountSolutions", spec := "fnExactCountSolutions", unfollowed := true, recurses := true, plainKeys := false, apart := false, narrowed := true }
def FnExactCountSolutionsUptoSaid : Prop := fnExactCountSolutionsUptoRow.holds Try.pinned (OpenSpec.upto fnExactCountSolutionsSpec)

/-- 'laws.FnExactFirstSolution', WHERE WHAT IT READS IS OF BULK AT MOST 1048576: true; the input reads as it did. -/
def fnExactFirstSolutionUptoRow : OpenClaim := { program := "ytlcfimddcedbcab", sum := "b6ce8c7b8821f7104e855af10cc303bb6fc43fac394b05d2dfeea00ed0a7baae", func := "loop.example/g01275/laws.FnExactFirstSolution", spec := "fnExactFirstSolution", unfollowed := true, recurses := true, plainKeys := false, apart := false, narrowed := true }
def FnExactFirstSolutionUptoSaid : Prop := fnExactFirstSolutionUptoRow.holds Try.pinned (OpenSpec.upto fnExactFirstSolutionSpec)

/-- 'laws.FnExactIsSolved', WHERE WHAT IT READS IS OF BULK AT MOST 1048576: true; the input reads as it did. -/
def fnExactIsSolvedUptoRow : OpenClaim := { program := "ytlcfimddcedbcab", sum := "b6ce8c7b8821f7104e855af10cc303bb6fc43fac394b05d2dfeea00ed0a7baae", func := "loop.example/g01275/laws.FnExactIsSolved", spec := "fnExactIsSolved", unfollowed := true, recurses := true, plainKeys := false, apart := false, narrowed := true }
def FnExactIsSolvedUptoSaid : Prop := fnExactIsSolvedUptoRow.holds Try.pinned (OpenSpec.upto fnExactIsSolvedSpec)

/-- 'laws.FnExactLeftByClues', WHERE WHAT IT READS IS OF BULK AT MOST 1048576: true; the input reads as it did. -/
def fnExactLeftByCluesUptoRow : OpenClaim := { program := "ytlcfimddcedbcab", sum := "b6ce8c7b8821f7104e855af10cc303bb6fc43fac394b05d2dfeea00ed0a7baae", func := "loop.example/g01275/laws.FnExactLeftByClues", spec := "fnExactLeftByClues", unfollowed := true, recurses := true, plainKeys := false, apart := false, narrowed := true }
def FnExactLeftByCluesUptoSaid : Prop := fnExactLeftByCluesUptoRow.holds Try.pinned (OpenSpec.upto fnExactLeftByCluesSpec)

/-- 'laws.FnExactBestClue', WHERE WHAT IT READS IS OF BULK AT MOST 1048576: true; the input reads as it did. -/
def fnExactBestClueUptoRow : OpenClaim := { program := "ytlcfimddcedbcab", sum := "b6ce8c7b8821f7104e855af10cc303bb6fc43fac394b05d2dfeea00ed0a7baae", func := "loop.example/g01275/laws.FnExactBestClue", spec := "fnExactBestClue", unfollowed := true, recurses := true, plainKeys := false, apart := false, narrowed := true }
def FnExactBestClueUptoSaid : Prop := fnExactBestClueUptoRow.holds Try.pinned (OpenSpec.upto fnExactBestClueSpec)

/-- 'laws.FnExactSureWins', WHERE WHAT IT READS IS OF BULK AT MOST 1048576: true; the input reads as it did. -/
def fnExactSureWinsUptoRow : OpenClaim := { program := "ytlcfimddcedbcab", sum := "b6ce8c7b8821f7104e855af10cc303bb6fc43fac394b05d2dfeea00ed0a7baae", func := "loop.example/g01275/laws.FnExactSureWins", spec := "fnExactSureWins", unfollowed := true, recurses := true, plainKeys := false, apart := false, narrowed := true }
def FnExactSureWinsUptoSaid : Prop := fnExactSureWinsUptoRow.holds Try.pinned (OpenSpec.upto fnExactSureWinsSpec)

/-- 'laws.FnExactNeedlessClues', WHERE WHAT IT READS IS OF BULK AT MOST 1048576: true; the input reads as it did. -/
def fnExactNeedlessCluesUptoRow : OpenClaim := { program := "ytlcfimddcedbcab", sum := "b6ce8c7b8821f7104e855af10cc303bb6fc43fac394b05d2dfeea00ed0a7baae", func := "loop.example/g01275/laws.FnExactNeedlessClues", spec := "fnExactNeedlessClues", inPlace := ["slices.overlaps[loop.example/g01275/impl.Clue]"], unfollowed := true, recurses := true, plainKeys := false, apart := false, narrowed := true }
def FnExactNeedlessCluesUptoSaid : Prop := fnExactNeedlessCluesUptoRow.holds Try.pinned (OpenSpec.upto fnExactNeedlessCluesSpec)

/-- 'laws.FnExactHarderPuzzle', WHERE WHAT IT READS IS OF BULK AT MOST 1048576: true; the input reads as it did. -/
def fnExactHarderPuzzleUptoRow : OpenClaim := { program := "ytlcfimddcedbcab", sum := "b6ce8c7b8821f7104e855af10cc303bb6fc43fac394b05d2dfeea00ed0a7baae", func := "loop.example/g01275/laws.FnExactHarderPuzzle", spec := "fnExactHarderPuzzle", inPlace := ["slices.overlaps[loop.example/g01275/impl.Clue]"], unfollowed := true, recurses := true, plainKeys := false, apart := false, narrowed := true }
def FnExactHarderPuzzleUptoSaid : Prop := fnExactHarderPuzzleUptoRow.holds Try.pinned (OpenSpec.upto fnExactHarderPuzzleSpec)

/-- 'laws.FnExactIsGame', WHERE WHAT IT READS IS OF BULK AT MOST 1048576: true; the input reads as it did. -/
def fnExactIsGameUptoRow : OpenClaim := { program := "ytlcfimddcedbcab", sum := "b6ce8c7b8821f7104e855af10cc303bb6fc43fac394b05d2dfeea00ed0a7baae", func := "loop.example/g01275/laws.FnExactIsGame", spec := "fnExactIsGame", unfollowed := true, recurses := true, plainKeys := false, apart := false, narrowed := true }
def FnExactIsGameUptoSaid : Prop := fnExactIsGameUptoRow.holds Try.pinned (OpenSpec.upto fnExactIsGameSpec)

/-- 'laws.FnExactWinsGame', WHERE WHAT IT READS IS OF BULK AT MOST 1048576: true; the input reads as it did. -/
def fnExactWinsGameUptoRow : OpenClaim := { program := "ytlcfimddcedbcab", sum := "b6ce8c7b8821f7104e855af10cc303bb6fc43fac394b05d2dfeea00ed0a7baae", func := "loop.example/g01275/laws.FnExactWinsGame", spec := "fnExactWinsGame", unfollowed := true, recurses := true, plainKeys := false, apart := false, narrowed := true }
def FnExactWinsGameUptoSaid : Prop := fnExactWinsGameUptoRow.holds Try.pinned (OpenSpec.upto fnExactWinsGameSpec)

end Rows
end Go.Proofs.Ytlcfimddcedbcab
