/-
  No cell of these rows narrows 'for every input' (looked for: loops, veiled, ifaces, maps, wideKeys, modest, calm, conditions, laid).
  DERIVED. THE GIVEN ROWS OF THIS SEAT. 6 by the template 'for every input the law returns true; each argument reads behind the call as it read before'; 0 by the template 'total and deterministic' (their statements: YtkckefjpkhjeaabTotals.lean).
  GIVEN WITH THE SEED: the statements are not yours to turn. If you find one false, say at which input.
  Laid BY PROGRAM, IN A SANDBOX (cutbox-rows.mjs): the forced cells as the released guide's own fill.sh prints them over the translation e18a36adff55bc56… (all of the seat's roots in one cut). By AI agents, Wed Nov 11 2026. No macro, syntax, notation, axiom, sorry.
-/
import Derived.Test.YtkckefjpkhjeaabChecked
import GoSem.Claim
import GoSem.ClaimJoined
import GoSem.ClaimMapViews
import Derived.JoinedTies
import Derived.KernelRfl
namespace Go.Proofs.Ytkckefjpkhjeaab
/- THE CELL 'sum', in the pinned program and in every row, IS THE sha256 OF THE DUMP (.gsa) THAT YtkckefjpkhjeaabProg.lean LOADS. Nothing in Lean hashes anything: it is a label: what it is worth is what the hold of that sum in a sandbox is worth. -/
noncomputable def Try.pinned : Pinned := { name := "ytkckefjpkhjeaab", sum := "e18a36adff55bc56224075c328cbd6fcfb381dcc047e2da56150012fdf84d22f", checked := Try.checked }
namespace Rows
def none {H : Type} : Left H := { results := [], args := [] }

/-- 'laws.FnExactInnerChances': WHATEVER THE INPUT: true; the input reads as it did. -/
def fnExactInnerChancesSpec : ChangeSpec := { name := "fnExactInnerChances", fn := fun _ => fun
  | [d] => { results := [.lit (.bool true)], args := [d] }
  | _ => none }
def fnExactInnerChancesRow : OpenClaim := { program := "ytkckefjpkhjeaab", sum := "e18a36adff55bc56224075c328cbd6fcfb381dcc047e2da56150012fdf84d22f", func := "loop.example/g01275/laws.FnExactInnerChances", spec := "fnExactInnerChances", unfollowed := true, recurses := true, plainKeys := false, apart := false }
def FnExactInnerChancesSaid : Prop := fnExactInnerChancesRow.holds Try.pinned (OpenSpec.ofChange fnExactInnerChancesSpec)

/-- ITS FALSE NEIGHBOUR: 'it returns false'. Refute it at one input. -/
def fnExactInnerChancesWrong : ChangeSpec := { name := "fnExactInnerChances", fn := fun _ => fun
  | [d] => { results := [.lit (.bool false)], args := [d] }
  | _ => none }
def FnExactInnerChancesWrongFalsely : Prop := fnExactInnerChancesRow.holds Try.pinned (OpenSpec.ofChange fnExactInnerChancesWrong)

/-- 'laws.FnExactPlaceInCouncil': WHATEVER THE INPUT: true; the input reads as it did. -/
def fnExactPlaceInCouncilSpec : ChangeSpec := { name := "fnExactPlaceInCouncil", fn := fun _ => fun
  | [d1, d2] => { results := [.lit (.bool true)], args := [d1, d2] }
  | _ => none }
def fnExactPlaceInCouncilRow : OpenClaim := { program := "ytkckefjpkhjeaab", sum := "e18a36adff55bc56224075c328cbd6fcfb381dcc047e2da56150012fdf84d22f", func := "loop.example/g01275/laws.FnExactPlaceInCouncil", spec := "fnExactPlaceInCouncil", unfollowed := true, recurses := true, plainKeys := false, apart := false }
def FnExactPlaceInCouncilSaid : Prop := fnExactPlaceInCouncilRow.holds Try.pinned (OpenSpec.ofChange fnExactPlaceInCouncilSpec)

/-- ITS FALSE NEIGHBOUR: 'it returns false'. Refute it at one input. -/
def fnExactPlaceInCouncilWrong : ChangeSpec := { name := "fnExactPlaceInCouncil", fn := fun _ => fun
  | [d1, d2] => { results := [.lit (.bool false)], args := [d1, d2] }
  | _ => none }
def FnExactPlaceInCouncilWrongFalsely : Prop := fnExactPlaceInCouncilRow.holds Try.pinned (OpenSpec.ofChange fnExactPlaceInCouncilWrong)

/-- 'laws.FnExactCountCouncilWins': WHATEVER THE INPUT: true; the input reads as it did. -/
def fnExactCountCouncilWinsSpec : ChangeSpec := { name := "fnExactCountCouncilWins", fn := fun _ => fun
  | [d1, d2] => { results := [.lit (.bool true)], args := [d1, d2] }
  | _ => none }
def fnExactCountCouncilWinsRow : OpenClaim := { program := "ytkckefjpkhjeaab", sum := "e18a36adff55bc56224075c328cbd6fcfb381dcc047e2da56150012fdf84d22f", func := "loop.example/g01275/laws.FnExactCountCouncilWins", spec := "fnExactCountCouncilWins", unfollowed := true, recurses := true, plainKeys := false, apart := false }
def FnExactCountCouncilWinsSaid : Prop := fnExactCountCouncilWinsRow.holds Try.pinned (OpenSpec.ofChange fnExactCountCouncilWinsSpec)

/-- ITS FALSE NEIGHBOUR: 'it returns false'. Refute it at one input. -/
def fnExactCountCouncilWinsWrong : ChangeSpec := { name := "fnExactCountCouncilWins", fn := fun _ => fun
  | [d1, d2] => { results := [.lit (.bool false)], args := [d1, d2] }
  | _ => none }
def FnExactCountCouncilWinsWrongFalsely : Prop := fnExactCountCouncilWinsRow.holds Try.pinned (OpenSpec.ofChange fnExactCountCouncilWinsWrong)

/-- 'laws.FnExactCountGames': WHATEVER THE INPUT: true; the input reads as it did. -/
def fnExactCountGamesSpec : ChangeSpec := { name := "fnExactCountGames", fn := fun _ => fun
  | [d] => { results := [.lit (.bool true)], args := [d] }
  | _ => none }
def fnExactCountGamesRow : OpenClaim := { program := "ytkckefjpkhjeaab", sum := "e18a36adff55bc56224075c328cbd6fcfb381dcc047e2da56150012fdf84d22f", func := "loop.example/g01275/laws.FnExactCountGames", spec := "fnExactCountGames", unfollowed := true, recurses := true, plainKeys := false, apart := false }
def FnExactCountGamesSaid : Prop := fnExactCountGamesRow.holds Try.pinned (OpenSpec.ofChange fnExactCountGamesSpec)

/-- ITS FALSE NEIGHBOUR: 'it returns false'. Refute it at one input. -/
def fnExactCountGamesWrong : ChangeSpec := { name := "fnExactCountGames", fn := fun _ => fun
  | [d] => { results := [.lit (.bool false)], args := [d] }
  | _ => none }
def FnExactCountGamesWrongFalsely : Prop := fnExactCountGamesRow.holds Try.pinned (OpenSpec.ofChange fnExactCountGamesWrong)

/-- 'laws.FnExactCountProperGames': WHATEVER THE INPUT: true; the input reads as it did. -/
def fnExactCountProperGamesSpec : ChangeSpec := { name := "fnExactCountProperGames", fn := fun _ => fun
  | [d] => { results := [.lit (.bool true)], args := [d] }
  | _ => none }
def fnExactCountProperGamesRow : OpenClaim := { program := "ytkckefjpkhjeaab", sum := "e18a36adff55bc56224075c328cbd6fcfb381dcc047e2da56150012fdf84d22f", func := "loop.example/g01275/laws.FnExactCountProperGames", spec := "fnExactCountProperGames", unfollowed := true, recurses := true, plainKeys := false, apart := false }
def FnExactCountProperGamesSaid : Prop := fnExactCountProperGamesRow.holds Try.pinned (OpenSpec.ofChange fnExactCountProperGamesSpec)

/-- ITS FALSE NEIGHBOUR: 'it returns false'. Refute it at one input. -/
def fnExactCountProperGamesWrong : ChangeSpec := { name := "fnExactCountProperGames", fn := fun _ => fun
  | [d] => { results := [.lit (.bool false)], args := [d] }
  | _ => none }
def FnExactCountProperGamesWrongFalsely : Prop := fnExactCountProperGamesRow.holds Try.pinned (OpenSpec.ofChange fnExactCountProperGamesWrong)

/-- 'laws.FnExactFirstGame': WHATEVER THE INPUT: true; the input reads as it did. -/
def fnExactFirstGameSpec : ChangeSpec := { name := "fnExactFirstGame", fn := fun _ => fun
  | [d] => { results := [.lit (.bool true)], args := [d] }
  | _ => none }
def fnExactFirstGameRow : OpenClaim := { program := "ytkckefjpkhjeaab", sum := "e18a36adff55bc56224075c328cbd6fcfb381dcc047e2da56150012fdf84d22f", func := "loop.example/g01275/laws.FnExactFirstGame", spec := "fnExactFirstGame", inPlace := ["slices.overlaps[int]"], unfollowed := true, recurses := true, plainKeys := false, apart := false }
def FnExactFirstGameSaid : Prop := fnExactFirstGameRow.holds Try.pinned (OpenSpec.ofChange fnExactFirstGameSpec)

/-- ITS FALSE NEIGHBOUR: 'it returns false'. Refute it at one input. -/
def fnExactFirstGameWrong : ChangeSpec := { name := "fnExactFirstGame", fn := fun _ => fun
  | [d] => { results := [.lit (.bool false)], args := [d] }
  | _ => none }
def FnExactFirstGameWrongFalsely : Prop := fnExactFirstGameRow.holds Try.pinned (OpenSpec.ofChange fnExactFirstGameWrong)

/- THE SECOND FORM. 'bulk': how many values and letters a reading holds, each counted each time it is reached (what is shared counts as often as it is met; a slice's spare places count too). A statement '..UptoSaid' is the law's where the arguments, and the package variables that the reading takes, are together of bulk at most 1048576: NARROWER than '..Said'. Prove '..Said' where nothing that the law and all that it calls make is longer than what came in: it says more and counts as full. Else prove '..UptoSaid'. A law counts once. -/
mutual
def uptoBulk {H : Type} : DataW H → Nat
  | .lit (.string bytes) => bytes.length + 1
  | .lit _ => 1
  | .nil => 1
  | .ptr d => uptoBulk d + 1
  | .slice elems spare => uptoBulkAll elems + uptoBulkAll spare + 1
  | .agg parts => uptoBulkAll parts + 1
  | .iface _ d => uptoBulk d + 1
  | .map entries => uptoBulkEntries entries + 1
  | .held _ => 1
def uptoBulkAll {H : Type} : List (DataW H) → Nat
  | [] => 0
  | d :: r => uptoBulk d + uptoBulkAll r
def uptoBulkEntries {H : Type} : List (Lit × DataW H) → Nat
  | [] => 0
  | x :: r => uptoBulkEntry x + uptoBulkEntries r
def uptoBulkEntry {H : Type} : Lit × DataW H → Nat
  | (.string bytes, d) => bytes.length + uptoBulk d + 1
  | (_, d) => uptoBulk d + 1
 end
def uptoSmall : (H : Type) → List (DataW H) → Bool := fun _ ds => decide (uptoBulkAll ds ≤ 1048576)
def OpenSpec.upto (s : _root_.Go.ChangeSpec) : _root_.Go.OpenSpec := { _root_.Go.OpenSpec.ofChange s with cond := some uptoSmall }

/-- 'laws.FnExactInnerChances', WHERE WHAT IT READS IS OF BULK AT MOST 1048576: true; the input reads as it did. -/
def fnExactInnerChancesUptoRow : OpenClaim := { program := "ytkckefjpkhjeaab", sum := "e18a36adff55bc56224075c328cbd6fcfb381dcc047e2da56150012fdf84d22f", func := "loop.example/g01275/laws.FnExactInnerChances", spec := "fnExactInnerChances", unfollowed := true, recurses := true, plainKeys := false, apart := false, narrowed := true }
def FnExactInnerChancesUptoSaid : Prop := fnExactInnerChancesUptoRow.holds Try.pinned (OpenSpec.upto fnExactInnerChancesSpec)

/-- 'laws.FnExactPlaceInCouncil', WHERE WHAT IT READS IS OF BULK AT MOST 1048576: true; the input reads as it did. -/
def fnExactPlaceInCouncilUptoRow : OpenClaim := { program := "ytkckefjpkhjeaab", sum := "e18a36adff55bc56224075c328cbd6fcfb381dcc047e2da56150012fdf84d22f", func := "loop.example/g01275/laws.FnExactPlaceInCouncil", spec := "fnExactPlaceInCouncil", unfollowed := true, recurses := true, plainKeys := false, apart := false, narrowed := true }
def FnExactPlaceInCouncilUptoSaid : Prop := fnExactPlaceInCouncilUptoRow.holds Try.pinned (OpenSpec.upto fnExactPlaceInCouncilSpec)

/-- 'laws.FnExactCountCouncilWins', WHERE WHAT IT READS IS OF BULK AT MOST 1048576: true; the input reads as it did. -/
def fnExactCountCouncilWinsUptoRow : OpenClaim := { program := "ytkckefjpkhjeaab", sum := "e18a36adff55bc56224075c328cbd6fcfb381dcc047e2da56150012fdf84d22f", func := "loop.example/g01275/laws.FnExactCountCouncilWins", spec := "fnExactCountCouncilWins", unfollowed := true, recurses := true, plainKeys := false, apart := false, narrowed := true }
def FnExactCountCouncilWinsUptoSaid : Prop := fnExactCountCouncilWinsUptoRow.holds Try.pinned (OpenSpec.upto fnExactCountCouncilWinsSpec)

/-- 'laws.FnExactCountGames', WHERE WHAT IT READS IS OF BULK AT MOST 1048576: true; the input reads as it did. -/
def fnExactCountGamesUptoRow : OpenClaim := { program := "ytkckefjpkhjeaab", sum := "e18a36adff55bc56224075c328cbd6fcfb381dcc047e2da56150012fdf84d22f", func := "loop.example/g01275/laws.FnExactCountGames", spec := "fnExactCountGames", unfollowed := true, recurses := true, plainKeys := false, apart := false, narrowed := true }
def FnExactCountGamesUptoSaid : Prop := fnExactCountGamesUptoRow.holds Try.pinned (OpenSpec.upto fnExactCountGamesSpec)

/-- 'laws.FnExactCountProperGames', WHERE WHAT IT READS IS OF BULK AT MOST 1048576: true; the input reads as it did. -/
def fnExactCountProperGamesUptoRow : OpenClaim := { program := "ytkckefjpkhjeaab", sum := "e18a36adff55bc56224075c328cbd6fcfb381dcc047e2da56150012fdf84d22f", func := "loop.example/g01275/laws.FnExactCountProperGames", spec := "fnExactCountProperGames", unfollowed := true, recurses := true, plainKeys := false, apart := false, narrowed := true }
def FnExactCountProperGamesUptoSaid : Prop := fnExactCountProperGamesUptoRow.holds Try.pinned (OpenSpec.upto fnExactCountProperGamesSpec)

/-- 'laws.FnExactFirstGame', WHERE WHAT IT READS IS OF BULK AT MOST 1048576: true; the input reads as it did. -/
def fnExactFirstGameUptoRow : OpenClaim := { program := "ytkckefjpkhjeaab", sum := "e18a36adff55bc56224075c328cbd6fcfb381dcc047e2da56150012fdf84d22f", func := "loop.example/g01275/laws.FnExactFirstGame", spec := "fnExactFirstGame", inPlace := ["slices.overlaps[int]"], unfollowed := true, recurses := true, plainKeys := false, apart := false, narrowed := true }
def FnExactFirstGameUptoSaid : Prop := fnExactFirstGameUptoRow.holds Try.pinned (OpenSpec.upto fnExactFirstGameSpec)

end Rows
end Go.Proofs.Ytkckefjpkhjeaab
