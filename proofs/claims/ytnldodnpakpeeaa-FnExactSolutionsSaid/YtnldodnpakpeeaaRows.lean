/-
  No cell of these rows narrows 'for every input' (looked for: loops, veiled, ifaces, maps, wideKeys, modest, calm, conditions, laid).
  DERIVED. THE GIVEN ROWS OF THIS SEAT. 7 by the template 'for every input the law returns true; each argument reads behind the call as it read before'; 0 by the template 'total and deterministic' (their statements: YtnldodnpakpeeaaTotals.lean).
  GIVEN WITH THE SEED: the statements are not yours to turn. If you find one false, say at which input.
  Laid BY PROGRAM, IN A SANDBOX (cutbox-rows.mjs): the forced cells as the released guide's own fill.sh prints them over the translation 42e5115c77ae64d3… (all of the seat's roots in one cut). By AI agents, Wed Nov 11 2026. No macro, syntax, notation, axiom, sorry.
-/
import Derived.Test.YtnldodnpakpeeaaChecked
import GoSem.Claim
import GoSem.ClaimJoined
import GoSem.ClaimMapViews
import Derived.JoinedTies
import Derived.KernelRfl
namespace Go.Proofs.Ytnldodnpakpeeaa
/- THE CELL 'sum', in the pinned program and in every row, IS THE sha256 OF THE DUMP (.gsa) THAT YtnldodnpakpeeaaProg.lean LOADS. Nothing in Lean hashes anything: it is a label: what it is worth is what the hold of that sum in a sandbox is worth. -/
noncomputable def Try.pinned : Pinned := { name := "ytnldodnpakpeeaa", sum := "42e5115c77ae64d3e6335b2bbb79aa6c357950f81d13e5347c5d13c02b89f90d", checked := Try.checked }
namespace Rows
def none {H : Type} : Left H := { results := [], args := [] }

/-- 'laws.FnExactDropClue': WHATEVER THE INPUT: true; the input reads as it did. -/
def fnExactDropClueSpec : ChangeSpec := { name := "fnExactDropClue", fn := fun _ => fun
  | [d1, d2] => { results := [.lit (.bool true)], args := [d1, d2] }
  | _ => none }
def fnExactDropClueRow : OpenClaim := { program := "ytnldodnpakpeeaa", sum := "42e5115c77ae64d3e6335b2bbb79aa6c357950f81d13e5347c5d13c02b89f90d", func := "loop.example/g01275/laws.FnExactDropClue", spec := "fnExactDropClue", inPlace := ["slices.overlaps[loop.example/g01275/impl.Clue]"], unfollowed := true, recurses := true, plainKeys := false, apart := false }
def FnExactDropClueSaid : Prop := fnExactDropClueRow.holds Try.pinned (OpenSpec.ofChange fnExactDropClueSpec)

/-- ITS FALSE NEIGHBOUR: 'it returns false'. Refute it at one input. -/
def fnExactDropClueWrong : ChangeSpec := { name := "fnExactDropClue", fn := fun _ => fun
  | [d1, d2] => { results := [.lit (.bool false)], args := [d1, d2] }
  | _ => none }
def FnExactDropClueWrongFalsely : Prop := fnExactDropClueRow.holds Try.pinned (OpenSpec.ofChange fnExactDropClueWrong)

/-- 'laws.FnExactNeedlessClues': WHATEVER THE INPUT: true; the input reads as it did. -/
def fnExactNeedlessCluesSpec : ChangeSpec := { name := "fnExactNeedlessClues", fn := fun _ => fun
  | [d] => { results := [.lit (.bool true)], args := [d] }
  | _ => none }
def fnExactNeedlessCluesRow : OpenClaim := { program := "ytnldodnpakpeeaa", sum := "42e5115c77ae64d3e6335b2bbb79aa6c357950f81d13e5347c5d13c02b89f90d", func := "loop.example/g01275/laws.FnExactNeedlessClues", spec := "fnExactNeedlessClues", inPlace := ["slices.overlaps[loop.example/g01275/impl.Clue]"], unfollowed := true, recurses := true, plainKeys := false, apart := false }
def FnExactNeedlessCluesSaid : Prop := fnExactNeedlessCluesRow.holds Try.pinned (OpenSpec.ofChange fnExactNeedlessCluesSpec)

/-- ITS FALSE NEIGHBOUR: 'it returns false'. Refute it at one input. -/
def fnExactNeedlessCluesWrong : ChangeSpec := { name := "fnExactNeedlessClues", fn := fun _ => fun
  | [d] => { results := [.lit (.bool false)], args := [d] }
  | _ => none }
def FnExactNeedlessCluesWrongFalsely : Prop := fnExactNeedlessCluesRow.holds Try.pinned (OpenSpec.ofChange fnExactNeedlessCluesWrong)

/-- 'laws.FnExactHarderPuzzle': WHATEVER THE INPUT: true; the input reads as it did. -/
def fnExactHarderPuzzleSpec : ChangeSpec := { name := "fnExactHarderPuzzle", fn := fun _ => fun
  | [d] => { results := [.lit (.bool true)], args := [d] }
  | _ => none }
def fnExactHarderPuzzleRow : OpenClaim := { program := "ytnldodnpakpeeaa", sum := "42e5115c77ae64d3e6335b2bbb79aa6c357950f81d13e5347c5d13c02b89f90d", func := "loop.example/g01275/laws.FnExactHarderPuzzle", spec := "fnExactHarderPuzzle", inPlace := ["slices.overlaps[loop.example/g01275/impl.Clue]"], unfollowed := true, recurses := true, plainKeys := false, apart := false }
def FnExactHarderPuzzleSaid : Prop := fnExactHarderPuzzleRow.holds Try.pinned (OpenSpec.ofChange fnExactHarderPuzzleSpec)

/-- ITS FALSE NEIGHBOUR: 'it returns false'. Refute it at one input. -/
def fnExactHarderPuzzleWrong : ChangeSpec := { name := "fnExactHarderPuzzle", fn := fun _ => fun
  | [d] => { results := [.lit (.bool false)], args := [d] }
  | _ => none }
def FnExactHarderPuzzleWrongFalsely : Prop := fnExactHarderPuzzleRow.holds Try.pinned (OpenSpec.ofChange fnExactHarderPuzzleWrong)

/-- 'laws.FnExactSureWins': WHATEVER THE INPUT: true; the input reads as it did. -/
def fnExactSureWinsSpec : ChangeSpec := { name := "fnExactSureWins", fn := fun _ => fun
  | [d] => { results := [.lit (.bool true)], args := [d] }
  | _ => none }
def fnExactSureWinsRow : OpenClaim := { program := "ytnldodnpakpeeaa", sum := "42e5115c77ae64d3e6335b2bbb79aa6c357950f81d13e5347c5d13c02b89f90d", func := "loop.example/g01275/laws.FnExactSureWins", spec := "fnExactSureWins", unfollowed := true, recurses := true, plainKeys := false, apart := false }
def FnExactSureWinsSaid : Prop := fnExactSureWinsRow.holds Try.pinned (OpenSpec.ofChange fnExactSureWinsSpec)

/-- ITS FALSE NEIGHBOUR: 'it returns false'. Refute it at one input. -/
def fnExactSureWinsWrong : ChangeSpec := { name := "fnExactSureWins", fn := fun _ => fun
  | [d] => { results := [.lit (.bool false)], args := [d] }
  | _ => none }
def FnExactSureWinsWrongFalsely : Prop := fnExactSureWinsRow.holds Try.pinned (OpenSpec.ofChange fnExactSureWinsWrong)

/-- 'laws.FnExactSolutions': WHATEVER THE INPUT: true; the input reads as it did. -/
def fnExactSolutionsSpec : ChangeSpec := { name := "fnExactSolutions", fn := fun _ => fun
  | [d] => { results := [.lit (.bool true)], args := [d] }
  | _ => none }
def fnExactSolutionsRow : OpenClaim := { program := "ytnldodnpakpeeaa", sum := "42e5115c77ae64d3e6335b2bbb79aa6c357950f81d13e5347c5d13c02b89f90d", func := "loop.example/g01275/laws.FnExactSolutions", spec := "fnExactSolutions", unfollowed := true, recurses := true, plainKeys := false, apart := false }
def FnExactSolutionsSaid : Prop := fnExactSolutionsRow.holds Try.pinned (OpenSpec.ofChange fnExactSolutionsSpec)

/-- ITS FALSE NEIGHBOUR: 'it returns false'. Refute it at one input. -/
def fnExactSolutionsWrong : ChangeSpec := { name := "fnExactSolutions", fn := fun _ => fun
  | [d] => { results := [.lit (.bool false)], args := [d] }
  | _ => none }
def FnExactSolutionsWrongFalsely : Prop := fnExactSolutionsRow.holds Try.pinned (OpenSpec.ofChange fnExactSolutionsWrong)

/-- 'laws.FnExactFirstGame': WHATEVER THE INPUT: true; the input reads as it did. -/
def fnExactFirstGameSpec : ChangeSpec := { name := "fnExactFirstGame", fn := fun _ => fun
  | [d] => { results := [.lit (.bool true)], args := [d] }
  | _ => none }
def fnExactFirstGameRow : OpenClaim := { program := "ytnldodnpakpeeaa", sum := "42e5115c77ae64d3e6335b2bbb79aa6c357950f81d13e5347c5d13c02b89f90d", func := "loop.example/g01275/laws.FnExactFirstGame", spec := "fnExactFirstGame", inPlace := ["slices.overlaps[int]"], unfollowed := true, recurses := true, plainKeys := false, apart := false }
def FnExactFirstGameSaid : Prop := fnExactFirstGameRow.holds Try.pinned (OpenSpec.ofChange fnExactFirstGameSpec)

/-- ITS FALSE NEIGHBOUR: 'it returns false'. Refute it at one input. -/
def fnExactFirstGameWrong : ChangeSpec := { name := "fnExactFirstGame", fn := fun _ => fun
  | [d] => { results := [.lit (.bool false)], args := [d] }
  | _ => none }
def FnExactFirstGameWrongFalsely : Prop := fnExactFirstGameRow.holds Try.pinned (OpenSpec.ofChange fnExactFirstGameWrong)

/-- 'laws.FnExactNeedlessChambers': WHATEVER THE INPUT: true; the input reads as it did. -/
def fnExactNeedlessChambersSpec : ChangeSpec := { name := "fnExactNeedlessChambers", fn := fun _ => fun
  | [d] => { results := [.lit (.bool true)], args := [d] }
  | _ => none }
def fnExactNeedlessChambersRow : OpenClaim := { program := "ytnldodnpakpeeaa", sum := "42e5115c77ae64d3e6335b2bbb79aa6c357950f81d13e5347c5d13c02b89f90d", func := "loop.example/g01275/laws.FnExactNeedlessChambers", spec := "fnExactNeedlessChambers", unfollowed := true, recurses := true, plainKeys := false, apart := false }
def FnExactNeedlessChambersSaid : Prop := fnExactNeedlessChambersRow.holds Try.pinned (OpenSpec.ofChange fnExactNeedlessChambersSpec)

/-- ITS FALSE NEIGHBOUR: 'it returns false'. Refute it at one input. -/
def fnExactNeedlessChambersWrong : ChangeSpec := { name := "fnExactNeedlessChambers", fn := fun _ => fun
  | [d] => { results := [.lit (.bool false)], args := [d] }
  | _ => none }
def FnExactNeedlessChambersWrongFalsely : Prop := fnExactNeedlessChambersRow.holds Try.pinned (OpenSpec.ofChange fnExactNeedlessChambersWrong)

/- THE SECOND FORM. 'bulk': how many values and letters a reading holds, each counted each time it is reached (what is shared counts as often as it is met; a slice's spare places count too). A statement '..UptoSaid' is the law's where the arguments, and the package variables that the reading takes, are together of bulk at most 1048576: NARROWER than '..Said'. Prove '..Said' where nothing that the law and all that it calls make is longer than what came in: it says more and counts as full. Else prove '..UptoSaid'. A law counts once. -/
mutual
def uptoBulk {H : Type} : DataW H → Nat
  | .lit (.string bytes) => bytes.length + 1
  | .lit _ => 1
  | .nil => 1
  | .ptr d => uptoBulk d + 1
  | .slice elems spare => uptoBulkAll elems + uptoBulkAll spare + 1
  | .agg parts => uptoBulkAll parts + 1
  | .iface _ d => uptoBulk d + 1
  | .map entries => uptoBulkEntries entries + 1
  | .held _ => 1
def uptoBulkAll {H : Type} : List (DataW H) → Nat
  | [] => 0
  | d :: r => uptoBulk d + uptoBulkAll r
def uptoBulkEntries {H : Type} : List (Lit × DataW H) → Nat
  | [] => 0
  | x :: r => uptoBulkEntry x + uptoBulkEntries r
def uptoBulkEntry {H : Type} : Lit × DataW H → Nat
  | (.string bytes, d) => bytes.length + uptoBulk d + 1
  | (_, d) => uptoBulk d + 1
 end
def uptoSmall : (H : Type) → List (DataW H) → Bool := fun _ ds => decide (uptoBulkAll ds ≤ 1048576)
def OpenSpec.upto (s : _root_.Go.ChangeSpec) : _root_.Go.OpenSpec := { _root_.Go.OpenSpec.ofChange s with cond := some uptoSmall }

/-- 'laws.FnExactDropClue', WHERE WHAT IT READS IS OF BULK AT MOST 1048576: true; the input reads as it did. -/
def fnExactDropClueUptoRow : OpenClaim := { program := "ytnldodnpakpeeaa", sum := "42e5115c77ae64d3e6335b2bbb79aa6c357950f81d13e5347c5d13c02b89f90d", func := "loop.example/g01275/laws.FnExactDropClue", spec := "fnExactDropClue", inPlace := ["slices.overlaps[loop.example/g01275/impl.Clue]"], unfollowed := true, recurses := true, plainKeys := false, apart := false, narrowed := true }
def FnExactDropClueUptoSaid : Prop := fnExactDropClueUptoRow.holds Try.pinned (OpenSpec.upto fnExactDropClueSpec)

/-- 'laws.FnExactNeedlessClues', WHERE WHAT IT READS IS OF BULK AT MOST 1048576: true; the input reads as it did. -/
def fnExactNeedlessCluesUptoRow : OpenClaim := { program := "ytnldodnpakpeeaa", sum := "42e5115c77ae64d3e6335b2bbb79aa6c357950f81d13e5347c5d13c02b89f90d", func := "loop.example/g01275/laws.FnExactNeedlessClues", spec := "fnExactNeedlessClues", inPlace := ["slices.overlaps[loop.example/g01275/impl.Clue]"], unfollowed := true, recurses := true, plainKeys := false, apart := false, narrowed := true }
def FnExactNeedlessCluesUptoSaid : Prop := fnExactNeedlessCluesUptoRow.holds Try.pinned (OpenSpec.upto fnExactNeedlessCluesSpec)

/-- 'laws.FnExactHarderPuzzle', WHERE WHAT IT READS IS OF BULK AT MOST 1048576: true; the input reads as it did. -/
def fnExactHarderPuzzleUptoRow : OpenClaim := { program := "ytnldodnpakpeeaa", sum := "42e5115c77ae64d3e6335b2bbb79aa6c357950f81d13e5347c5d13c02b89f90d", func := "loop.example/g01275/laws.FnExactHarderPuzzle", spec := "fnExactHarderPuzzle", inPlace := ["slices.overlaps[loop.example/g01275/impl.Clue]"], unfollowed := true, recurses := true, plainKeys := false, apart := false, narrowed := true }
def FnExactHarderPuzzleUptoSaid : Prop := fnExactHarderPuzzleUptoRow.holds Try.pinned (OpenSpec.upto fnExactHarderPuzzleSpec)

/-- 'laws.FnExactSureWins', WHERE WHAT IT READS IS OF BULK AT MOST 1048576: true; the input reads as it did. -/
def fnExactSureWinsUptoRow : OpenClaim := { program := "ytnldodnpakpeeaa", sum := "42e5115c77ae64d3e6335b2bbb79aa6c357950f81d13e5347c5d13c02b89f90d", func := "loop.example/g01275/laws.FnExactSureWins", spec := "fnExactSureWins", unfollowed := true, recurses := true, plainKeys := false, apart := false, narrowed := true }
def FnExactSureWinsUptoSaid : Prop := fnExactSureWinsUptoRow.holds Try.pinned (OpenSpec.upto fnExactSureWinsSpec)

/-- 'laws.FnExactSolutions', WHERE WHAT IT READS IS OF BULK AT MOST 1048576: true; the input reads as it did. -/
def fnExactSolutionsUptoRow : OpenClaim := { program := "ytnldodnpakpeeaa", sum := "42e5115c77ae64d3e6335b2bbb79aa6c357950f81d13e5347c5d13c02b89f90d", func := "loop.example/g01275/laws.FnExactSolutions", spec := "fnExactSolutions", unfollowed := true, recurses := true, plainKeys := false, apart := false, narrowed := true }
def FnExactSolutionsUptoSaid : Prop := fnExactSolutionsUptoRow.holds Try.pinned (OpenSpec.upto fnExactSolutionsSpec)

/-- 'laws.FnExactFirstGame', WHERE WHAT IT READS IS OF BULK AT MOST 1048576: true; the input reads as it did. -/
def fnExactFirstGameUptoRow : OpenClaim := { program := "ytnldodnpakpeeaa", sum := "42e5115c77ae64d3e6335b2bbb79aa6c357950f81d13e5347c5d13c02b89f90d", func := "loop.example/g01275/laws.FnExactFirstGame", spec := "fnExactFirstGame", inPlace := ["slices.overlaps[int]"], unfollowed := true, recurses := true, plainKeys := false, apart := false, narrowed := true }
def FnExactFirstGameUptoSaid : Prop := fnExactFirstGameUptoRow.holds Try.pinned (OpenSpec.upto fnExactFirstGameSpec)

/-- 'laws.FnExactNeedlessChambers', WHERE WHAT IT READS IS OF BULK AT MOST 1048576: true; the input reads as it did. -/
def fnExactNeedlessChambersUptoRow : OpenClaim := { program := "ytnldodnpakpeeaa", sum := "42e5115c77ae64d3e6335b2bbb79aa6c357950f81d13e5347c5d13c02b89f90d", func := "loop.example/g01275/laws.FnExactNeedlessChambers", spec := "fnExactNeedlessChambers", unfollowed := true, recurses := true, plainKeys := false, apart := false, narrowed := true }
def FnExactNeedlessChambersUptoSaid : Prop := fnExactNeedlessChambersUptoRow.holds Try.pinned (OpenSpec.upto fnExactNeedlessChambersSpec)

end Rows
end Go.Proofs.Ytnldodnpakpeeaa
