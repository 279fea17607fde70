/-
  No cell of these rows narrows 'for every input' (looked for: loops, veiled, ifaces, maps, wideKeys, modest, calm, conditions, laid).
  DERIVED. THE GIVEN ROWS OF THIS SEAT. 8 by the template 'for every input the law returns true; each argument reads behind the call as it read before'; 0 by the template 'total and deterministic' (their statements: YtgilbenbaefgfabTotals.lean).
  GIVEN WITH THE SEED: the statements are not yours to turn. If you find one false, say at which input.
  Laid BY PROGRAM, IN A SANDBOX (cutbox-rows.mjs): the forced cells as the released guide's own fill.sh prints them over the translation 647dcb5c1cab93b4… (all of the seat's roots in one cut). By AI agents, Wed Nov 11 2026. No macro, syntax, notation, axiom, sorry.
-/
import Derived.Test.YtgilbenbaefgfabChecked
import GoSem.Claim
import GoSem.ClaimJoined
import GoSem.ClaimMapViews
import Derived.JoinedTies
import Derived.KernelRfl
namespace Go.Proofs.Ytgilbenbaefgfab
/- THE CELL 'sum', in the pinned program and in every row, IS THE sha256 OF THE DUMP (.gsa) THAT YtgilbenbaefgfabProg.lean LOADS. Nothing in Lean hashes anything: it is a label: what it is worth is what the hold of that sum in a sandbox is worth. -/
noncomputable def Try.pinned : Pinned := { name := "ytgilbenbaefgfab", sum := "647dcb5c1cab93b45df741daf01f9ba4429d451744280d4536ba5d8242db13cb", checked := Try.checked }
namespace Rows
def none {H : Type} : Left H := { results := [], args := [] }

/-- 'laws.FnExactCountProperGames': WHATEVER THE INPUT: true; the input reads as it did. -/
def fnExactCountProperGamesSpec : ChangeSpec := { name := "fnExactCountProperGames", fn := fun _ => fun
  | [d] => { results := [.lit (.bool true)], args := [d] }
  | _ => none }
def fnExactCountProperGamesRow : OpenClaim := { program := "ytgilbenbaefgfab", sum := "647dcb5c1cab93b45df741daf01f9ba4429d451744280d4536ba5d8242db13cb", func := "loop.example/g01275/laws.FnExactCountProperGames", spec := "fnExactCountProperGames", unfollowed := true, recurses := true, plainKeys := false, leaving := true, apart := false }
def FnExactCountProperGamesSaid : Prop := fnExactCountProperGamesRow.holds Try.pinned (OpenSpec.ofChange fnExactCountProperGamesSpec)

/-- ITS FALSE NEIGHBOUR: 'it returns false'. Refute it at one input. -/
def fnExactCountProperGamesWrong : ChangeSpec := { name := "fnExactCountProperGames", fn := fun _ => fun
  | [d] => { results := [.lit (.bool false)], args := [d] }
  | _ => none }
def FnExactCountProperGamesWrongFalsely : Prop := fnExactCountProperGamesRow.holds Try.pinned (OpenSpec.ofChange fnExactCountProperGamesWrong)

/-- 'laws.FnExactFirstGame': WHATEVER THE INPUT: true; the input reads as it did. -/
def fnExactFirstGameSpec : ChangeSpec := { name := "fnExactFirstGame", fn := fun _ => fun
  | [d] => { results := [.lit (.bool true)], args := [d] }
  | _ => none }
def fnExactFirstGameRow : OpenClaim := { program := "ytgilbenbaefgfab", sum := "647dcb5c1cab93b45df741daf01f9ba4429d451744280d4536ba5d8242db13cb", func := "loop.example/g01275/laws.FnExactFirstGame", spec := "fnExactFirstGame", inPlace := ["slices.overlaps[int]"], unfollowed := true, recurses := true, plainKeys := false, leaving := true, apart := false }
def FnExactFirstGameSaid : Prop := fnExactFirstGameRow.holds Try.pinned (OpenSpec.ofChange fnExactFirstGameSpec)

/-- ITS FALSE NEIGHBOUR: 'it returns false'. Refute it at one input. -/
def fnExactFirstGameWrong : ChangeSpec := { name := "fnExactFirstGame", fn := fun _ => fun
  | [d] => { results := [.lit (.bool false)], args := [d] }
  | _ => none }
def FnExactFirstGameWrongFalsely : Prop := fnExactFirstGameRow.holds Try.pinned (OpenSpec.ofChange fnExactFirstGameWrong)

/-- 'laws.FnExactNeedlessChambers': WHATEVER THE INPUT: true; the input reads as it did. -/
def fnExactNeedlessChambersSpec : ChangeSpec := { name := "fnExactNeedlessChambers", fn := fun _ => fun
  | [d] => { results := [.lit (.bool true)], args := [d] }
  | _ => none }
def fnExactNeedlessChambersRow : OpenClaim := { program := "ytgilbenbaefgfab", sum := "647dcb5c1cab93b45df741daf01f9ba4429d451744280d4536ba5d8242db13cb", func := "loop.example/g01275/laws.FnExactNeedlessChambers", spec := "fnExactNeedlessChambers", unfollowed := true, recurses := true, plainKeys := false, leaving := true, apart := false }
def FnExactNeedlessChambersSaid : Prop := fnExactNeedlessChambersRow.holds Try.pinned (OpenSpec.ofChange fnExactNeedlessChambersSpec)

/-- ITS FALSE NEIGHBOUR: 'it returns false'. Refute it at one input. -/
def fnExactNeedlessChambersWrong : ChangeSpec := { name := "fnExactNeedlessChambers", fn := fun _ => fun
  | [d] => { results := [.lit (.bool false)], args := [d] }
  | _ => none }
def FnExactNeedlessChambersWrongFalsely : Prop := fnExactNeedlessChambersRow.holds Try.pinned (OpenSpec.ofChange fnExactNeedlessChambersWrong)

/-- 'laws.FnExactIsGame': WHATEVER THE INPUT: true; the input reads as it did. -/
def fnExactIsGameSpec : ChangeSpec := { name := "fnExactIsGame", fn := fun _ => fun
  | [d] => { results := [.lit (.bool true)], args := [d] }
  | _ => none }
def fnExactIsGameRow : OpenClaim := { program := "ytgilbenbaefgfab", sum := "647dcb5c1cab93b45df741daf01f9ba4429d451744280d4536ba5d8242db13cb", func := "loop.example/g01275/laws.FnExactIsGame", spec := "fnExactIsGame", unfollowed := true, recurses := true, plainKeys := false, leaving := true, apart := false }
def FnExactIsGameSaid : Prop := fnExactIsGameRow.holds Try.pinned (OpenSpec.ofChange fnExactIsGameSpec)

/-- ITS FALSE NEIGHBOUR: 'it returns false'. Refute it at one input. -/
def fnExactIsGameWrong : ChangeSpec := { name := "fnExactIsGame", fn := fun _ => fun
  | [d] => { results := [.lit (.bool false)], args := [d] }
  | _ => none }
def FnExactIsGameWrongFalsely : Prop := fnExactIsGameRow.holds Try.pinned (OpenSpec.ofChange fnExactIsGameWrong)

/-- 'laws.FnExactWinsGame': WHATEVER THE INPUT: true; the input reads as it did. -/
def fnExactWinsGameSpec : ChangeSpec := { name := "fnExactWinsGame", fn := fun _ => fun
  | [d1, d2] => { results := [.lit (.bool true)], args := [d1, d2] }
  | _ => none }
def fnExactWinsGameRow : OpenClaim := { program := "ytgilbenbaefgfab", sum := "647dcb5c1cab93b45df741daf01f9ba4429d451744280d4536ba5d8242db13cb", func := "loop.example/g01275/laws.FnExactWinsGame", spec := "fnExactWinsGame", unfollowed := true, recurses := true, plainKeys := false, leaving := true, apart := false }
def FnExactWinsGameSaid : Prop := fnExactWinsGameRow.holds Try.pinned (OpenSpec.ofChange fnExactWinsGameSpec)

/-- ITS FALSE NEIGHBOUR: 'it returns false'. Refute it at one input. -/
def fnExactWinsGameWrong : ChangeSpec := { name := "fnExactWinsGame", fn := fun _ => fun
  | [d1, d2] => { results := [.lit (.bool false)], args := [d1, d2] }
  | _ => none }
def FnExactWinsGameWrongFalsely : Prop := fnExactWinsGameRow.holds Try.pinned (OpenSpec.ofChange fnExactWinsGameWrong)

/-- 'laws.FnExactSmallestWin': WHATEVER THE INPUT: true; the input reads as it did. -/
def fnExactSmallestWinSpec : ChangeSpec := { name := "fnExactSmallestWin", fn := fun _ => fun
  | [d] => { results := [.lit (.bool true)], args := [d] }
  | _ => none }
def fnExactSmallestWinRow : OpenClaim := { program := "ytgilbenbaefgfab", sum := "647dcb5c1cab93b45df741daf01f9ba4429d451744280d4536ba5d8242db13cb", func := "loop.example/g01275/laws.FnExactSmallestWin", spec := "fnExactSmallestWin", unfollowed := true, recurses := true, plainKeys := false, leaving := true, apart := false }
def FnExactSmallestWinSaid : Prop := fnExactSmallestWinRow.holds Try.pinned (OpenSpec.ofChange fnExactSmallestWinSpec)

/-- ITS FALSE NEIGHBOUR: 'it returns false'. Refute it at one input. -/
def fnExactSmallestWinWrong : ChangeSpec := { name := "fnExactSmallestWin", fn := fun _ => fun
  | [d] => { results := [.lit (.bool false)], args := [d] }
  | _ => none }
def FnExactSmallestWinWrongFalsely : Prop := fnExactSmallestWinRow.holds Try.pinned (OpenSpec.ofChange fnExactSmallestWinWrong)

/-- 'laws.FnExactStandsSwaps': WHATEVER THE INPUT: true; the input reads as it did. -/
def fnExactStandsSwapsSpec : ChangeSpec := { name := "fnExactStandsSwaps", fn := fun _ => fun
  | [d] => { results := [.lit (.bool true)], args := [d] }
  | _ => none }
def fnExactStandsSwapsRow : OpenClaim := { program := "ytgilbenbaefgfab", sum := "647dcb5c1cab93b45df741daf01f9ba4429d451744280d4536ba5d8242db13cb", func := "loop.example/g01275/laws.FnExactStandsSwaps", spec := "fnExactStandsSwaps", unfollowed := true, recurses := true, plainKeys := false, leaving := true, apart := false }
def FnExactStandsSwapsSaid : Prop := fnExactStandsSwapsRow.holds Try.pinned (OpenSpec.ofChange fnExactStandsSwapsSpec)

/-- ITS FALSE NEIGHBOUR: 'it returns false'. Refute it at one input. -/
def fnExactStandsSwapsWrong : ChangeSpec := { name := "fnExactStandsSwaps", fn := fun _ => fun
  | [d] => { results := [.lit (.bool false)], args := [d] }
  | _ => none }
def FnExactStandsSwapsWrongFalsely : Prop := fnExactStandsSwapsRow.holds Try.pinned (OpenSpec.ofChange fnExactStandsSwapsWrong)

/-- 'laws.FnExactStandsTrades': WHATEVER THE INPUT: true; the input reads as it did. -/
def fnExactStandsTradesSpec : ChangeSpec := { name := "fnExactStandsTrades", fn := fun _ => fun
  | [d] => { results := [.lit (.bool true)], args := [d] }
  | _ => none }
def fnExactStandsTradesRow : OpenClaim := { program := "ytgilbenbaefgfab", sum := "647dcb5c1cab93b45df741daf01f9ba4429d451744280d4536ba5d8242db13cb", func := "loop.example/g01275/laws.FnExactStandsTrades", spec := "fnExactStandsTrades", unfollowed := true, recurses := true, plainKeys := false, leaving := true, apart := false }
def FnExactStandsTradesSaid : Prop := fnExactStandsTradesRow.holds Try.pinned (OpenSpec.ofChange fnExactStandsTradesSpec)

/-- ITS FALSE NEIGHBOUR: 'it returns false'. Refute it at one input. -/
def fnExactStandsTradesWrong : ChangeSpec := { name := "fnExactStandsTrades", fn := fun _ => fun
  | [d] => { results := [.lit (.bool false)], args := [d] }
  | _ => none }
def FnExactStandsTradesWrongFalsely : Prop := fnExactStandsTradesRow.holds Try.pinned (OpenSpec.ofChange fnExactStandsTradesWrong)

/- THE SECOND FORM. 'bulk': how many values and letters a reading holds, each counted each time it is reached (what is shared counts as often as it is met; a slice's spare places count too). A statement '..UptoSaid' is the law's where the arguments, and the package variables that the reading takes, are together of bulk at most 1048576: NARROWER than '..Said'. Prove '..Said' where nothing that the law and all that it calls make is longer than what came in: it says more and counts as full. Else prove '..UptoSaid'. A law counts once. -/
mutual
def uptoBulk {H : Type} : DataW H → Nat
  | .lit (.string bytes) => bytes.length + 1
  | .lit _ => 1
  | .nil => 1
  | .ptr d => uptoBulk d + 1
  | .slice elems spare => uptoBulkAll elems + uptoBulkAll spare + 1
  | .agg parts => uptoBulkAll parts + 1
  | .iface _ d => uptoBulk d + 1
  | .map entries => uptoBulkEntries entries + 1
  | .held _ => 1
def uptoBulkAll {H : Type} : List (DataW H) → Nat
  | [] => 0
  | d :: r => uptoBulk d + uptoBulkAll r
def uptoBulkEntries {H : Type} : List (Lit × DataW H) → Nat
  | [] => 0
  | x :: r => uptoBulkEntry x + uptoBulkEntries r
def uptoBulkEntry {H : Type} : Lit × DataW H → Nat
  | (.string bytes, d) => bytes.length + uptoBulk d + 1
  | (_, d) => uptoBulk d + 1
 end
def uptoSmall : (H : Type) → List (DataW H) → Bool := fun _ ds => decide (uptoBulkAll ds ≤ 1048576)
def OpenSpec.upto (s : _root_.Go.ChangeSpec) : _root_.Go.OpenSpec := { _root_.Go.OpenSpec.ofChange s with cond := some uptoSmall }

/-- 'laws.FnExactCountProperGames', WHERE WHAT IT READS IS OF BULK AT MOST 1048576: true; the input reads as it did. -/
def fnExactCountProperGamesUptoRow : OpenClaim := { program := "ytgilbenbaefgfab", sum := "647dcb5c1cab93b45df741daf01f9ba4429d451744280d4536ba5d8242db13cb", func := "loop.example/g01275/laws.FnExactCountProperGames", spec := "fnExactCountProperGames", unfollowed := true, recurses := true, plainKeys := false, leaving := true, apart := false, narrowed := true }
def FnExactCountProperGamesUptoSaid : Prop := fnExactCountProperGamesUptoRow.holds Try.pinned (OpenSpec.upto fnExactCountProperGamesSpec)

/-- 'laws.FnExactFirstGame', WHERE WHAT IT READS IS OF BULK AT MOST 1048576: true; the input reads as it did. -/
def fnExactFirstGameUptoRow : OpenClaim := { program := "ytgilbenbaefgfab", sum := "647dcb5c1cab93b45df741daf01f9ba4429d451744280d4536ba5d8242db13cb", func := "loop.example/g01275/laws.FnExactFirstGame", spec := "fnExactFirstGame", inPlace := ["slices.overlaps[int]"], unfollowed := true, recurses := true, plainKeys := false, leaving := true, apart := false, narrowed := true }
def FnExactFirstGameUptoSaid : Prop := fnExactFirstGameUptoRow.holds Try.pinned (OpenSpec.upto fnExactFirstGameSpec)

/-- 'laws.FnExactNeedlessChambers', WHERE WHAT IT READS IS OF BULK AT MOST 1048576: true; the input reads as it did. -/
def fnExactNeedlessChambersUptoRow : OpenClaim := { program := "ytgilbenbaefgfab", sum := "647dcb5c1cab93b45df741daf01f9ba4429d451744280d4536ba5d8242db13cb", func := "loop.example/g01275/laws.FnExactNeedlessChambers", spec := "fnExactNeedlessChambers", unfollowed := true, recurses := true, plainKeys := false, leaving := true, apart := false, narrowed := true }
def FnExactNeedlessChambersUptoSaid : Prop := fnExactNeedlessChambersUptoRow.holds Try.pinned (OpenSpec.upto fnExactNeedlessChambersSpec)

/-- 'laws.FnExactIsGame', WHERE WHAT IT READS IS OF BULK AT MOST 1048576: true; the input reads as it did. -/
def fnExactIsGameUptoRow : OpenClaim := { program := "ytgilbenbaefgfab", sum := "647dcb5c1cab93b45df741daf01f9ba4429d451744280d4536ba5d8242db13cb", func := "loop.example/g01275/laws.FnExactIsGame", spec := "fnExactIsGame", unfollowed := true, recurses := true, plainKeys := false, leaving := true, apart := false, narrowed := true }
def FnExactIsGameUptoSaid : Prop := fnExactIsGameUptoRow.holds Try.pinned (OpenSpec.upto fnExactIsGameSpec)

/-- 'laws.FnExactWinsGame', WHERE WHAT IT READS IS OF BULK AT MOST 1048576: true; the input reads as it did. -/
def fnExactWinsGameUptoRow : OpenClaim := { program := "ytgilbenbaefgfab", sum := "647dcb5c1cab93b45df741daf01f9ba4429d451744280d4536ba5d8242db13cb", func := "loop.example/g01275/laws.FnExactWinsGame", spec := "fnExactWinsGame", unfollowed := true, recurses := true, plainKeys := false, leaving := true, apart := false, narrowed := true }
def FnExactWinsGameUptoSaid : Prop := fnExactWinsGameUptoRow.holds Try.pinned (OpenSpec.upto fnExactWinsGameSpec)

/-- 'laws.FnExactSmallestWin', WHERE WHAT IT READS IS OF BULK AT MOST 1048576: true; the input reads as it did. -/
def fnExactSmallestWinUptoRow : OpenClaim := { program := "ytgilbenbaefgfab", sum := "647dcb5c1cab93b45df741daf01f9ba4429d451744280d4536ba5d8242db13cb", func := "loop.example/g01275/laws.FnExactSmallestWin", spec := "fnExactSmallestWin", unfollowed := true, recurses := true, plainKeys := false, leaving := true, apart := false, narrowed := true }
def FnExactSmallestWinUptoSaid : Prop := fnExactSmallestWinUptoRow.holds Try.pinned (OpenSpec.upto fnExactSmallestWinSpec)

/-- 'laws.FnExactStandsSwaps', WHERE WHAT IT READS IS OF BULK AT MOST 1048576: true; the input reads as it did. -/
def fnExactStandsSwapsUptoRow : OpenClaim := { program := "ytgilbenbaefgfab", sum := "647dcb5c1cab93b45df741daf01f9ba4429d451744280d4536ba5d8242db13cb", func := "loop.example/g01275/laws.FnExactStandsSwaps", spec := "fnExactStandsSwaps", unfollowed := true, recurses := true, plainKeys := false, leaving := true, apart := false, narrowed := true }
def FnExactStandsSwapsUptoSaid : Prop := fnExactStandsSwapsUptoRow.holds Try.pinned (OpenSpec.upto fnExactStandsSwapsSpec)

/-- 'laws.FnExactStandsTrades', WHERE WHAT IT READS IS OF BULK AT MOST 1048576: true; the input reads as it did. -/
def fnExactStandsTradesUptoRow : OpenClaim := { program := "ytgilbenbaefgfab", sum := "647dcb5c1cab93b45df741daf01f9ba4429d451744280d4536ba5d8242db13cb", func := "loop.example/g01275/laws.FnExactStandsTrades", spec := "fnExactStandsTrades", unfollowed := true, recurses := true, plainKeys := false, leaving := true, apart := false, narrowed := true }
def FnExactStandsTradesUptoSaid : Prop := fnExactStandsTradesUptoRow.holds Try.pinned (OpenSpec.upto fnExactStandsTradesSpec)

end Rows
end Go.Proofs.Ytgilbenbaefgfab
