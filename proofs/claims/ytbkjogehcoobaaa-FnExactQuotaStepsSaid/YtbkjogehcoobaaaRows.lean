/-
  No cell of these rows narrows 'for every input' (looked for: loops, veiled, ifaces, maps, wideKeys, modest, calm, conditions, laid).
  DERIVED. THE GIVEN ROWS OF THIS SEAT. 12 by the template 'for every input the law returns true; each argument reads behind the call as it read before'; 0 by the template 'total and deterministic' (their statements: YtbkjogehcoobaaaTotals.lean).
  GIVEN WITH THE SEED: the statements are not yours to turn. If you find one false, say at which input.
  Laid BY PROGRAM, IN A SANDBOX (cutbox-rows.mjs): the forced cells as the released guide's own fill.sh prints them over the translation 55a991c1f306165f… (all of the seat's roots in one cut). By AI agents, Wed Nov 11 2026. No macro, syntax, notation, axiom, sorry.
-/
import Derived.Test.YtbkjogehcoobaaaChecked
import GoSem.Claim
import GoSem.ClaimJoined
import GoSem.ClaimMapViews
import Derived.JoinedTies
import Derived.KernelRfl
namespace Go.Proofs.Ytbkjogehcoobaaa
/- THE CELL 'sum', in the pinned program and in every row, IS THE sha256 OF THE DUMP (.gsa) THAT YtbkjogehcoobaaaProg.lean LOADS. Nothing in Lean hashes anything: it is a label: what it is worth is what the hold of that sum in a sandbox is worth. -/
noncomputable def Try.pinned : Pinned := { name := "ytbkjogehcoobaaa", sum := "55a991c1f306165fea5e44e5a134b7950d58bef1e52236d5f5b3f3f45a1f4b34", checked := Try.checked }
namespace Rows
def none {H : Type} : Left H := { results := [], args := [] }

/-- 'laws.FnExactQuotaSteps': WHATEVER THE INPUT: true; the input reads as it did. -/
def fnExactQuotaStepsSpec : ChangeSpec := { name := "fnExactQuotaSteps", fn := fun _ => fun
  | [d] => { results := [.lit (.bool true)], args := [d] }
  | _ => none }
def fnExactQuotaStepsRow : OpenClaim := { program := "ytbkjogehcoobaaa", sum := "55a991c1f306165fea5e44e5a134b7950d58bef1e52236d5f5b3f3f45a1f4b34", func := "loop.example/g01275/laws.FnExactQuotaSteps", spec := "fnExactQuotaSteps", recurses := true, plainKeys := false, apart := false }
def FnExactQuotaStepsSaid : Prop := fnExactQuotaStepsRow.holds Try.pinned (OpenSpec.ofChange fnExactQuotaStepsSpec)

/-- ITS FALSE NEIGHBOUR: 'it returns false'. Refute it at one input. -/
def fnExactQuotaStepsWrong : ChangeSpec := { name := "fnExactQuotaSteps", fn := fun _ => fun
  | [d] => { results := [.lit (.bool false)], args := [d] }
  | _ => none }
def FnExactQuotaStepsWrongFalsely : Prop := fnExactQuotaStepsRow.holds Try.pinned (OpenSpec.ofChange fnExactQuotaStepsWrong)

/-- 'laws.FnExactCountVotings': WHATEVER THE INPUT: true; the input reads as it did. -/
def fnExactCountVotingsSpec : ChangeSpec := { name := "fnExactCountVotings", fn := fun _ => fun
  | [d] => { results := [.lit (.bool true)], args := [d] }
  | _ => none }
def fnExactCountVotingsRow : OpenClaim := { program := "ytbkjogehcoobaaa", sum := "55a991c1f306165fea5e44e5a134b7950d58bef1e52236d5f5b3f3f45a1f4b34", func := "loop.example/g01275/laws.FnExactCountVotings", spec := "fnExactCountVotings", recurses := true, plainKeys := false, apart := false }
def FnExactCountVotingsSaid : Prop := fnExactCountVotingsRow.holds Try.pinned (OpenSpec.ofChange fnExactCountVotingsSpec)

/-- ITS FALSE NEIGHBOUR: 'it returns false'. Refute it at one input. -/
def fnExactCountVotingsWrong : ChangeSpec := { name := "fnExactCountVotings", fn := fun _ => fun
  | [d] => { results := [.lit (.bool false)], args := [d] }
  | _ => none }
def FnExactCountVotingsWrongFalsely : Prop := fnExactCountVotingsRow.holds Try.pinned (OpenSpec.ofChange fnExactCountVotingsWrong)

/-- 'laws.FnExactQuotaRange': WHATEVER THE INPUT: true; the input reads as it did. -/
def fnExactQuotaRangeSpec : ChangeSpec := { name := "fnExactQuotaRange", fn := fun _ => fun
  | [d] => { results := [.lit (.bool true)], args := [d] }
  | _ => none }
def fnExactQuotaRangeRow : OpenClaim := { program := "ytbkjogehcoobaaa", sum := "55a991c1f306165fea5e44e5a134b7950d58bef1e52236d5f5b3f3f45a1f4b34", func := "loop.example/g01275/laws.FnExactQuotaRange", spec := "fnExactQuotaRange", recurses := true, plainKeys := false, apart := false }
def FnExactQuotaRangeSaid : Prop := fnExactQuotaRangeRow.holds Try.pinned (OpenSpec.ofChange fnExactQuotaRangeSpec)

/-- ITS FALSE NEIGHBOUR: 'it returns false'. Refute it at one input. -/
def fnExactQuotaRangeWrong : ChangeSpec := { name := "fnExactQuotaRange", fn := fun _ => fun
  | [d] => { results := [.lit (.bool false)], args := [d] }
  | _ => none }
def FnExactQuotaRangeWrongFalsely : Prop := fnExactQuotaRangeRow.holds Try.pinned (OpenSpec.ofChange fnExactQuotaRangeWrong)

/-- 'laws.FnExactFarthestOff': WHATEVER THE INPUT: true; the input reads as it did. -/
def fnExactFarthestOffSpec : ChangeSpec := { name := "fnExactFarthestOff", fn := fun _ => fun
  | [d] => { results := [.lit (.bool true)], args := [d] }
  | _ => none }
def fnExactFarthestOffRow : OpenClaim := { program := "ytbkjogehcoobaaa", sum := "55a991c1f306165fea5e44e5a134b7950d58bef1e52236d5f5b3f3f45a1f4b34", func := "loop.example/g01275/laws.FnExactFarthestOff", spec := "fnExactFarthestOff", unfollowed := true, recurses := true, plainKeys := false, apart := false }
def FnExactFarthestOffSaid : Prop := fnExactFarthestOffRow.holds Try.pinned (OpenSpec.ofChange fnExactFarthestOffSpec)

/-- ITS FALSE NEIGHBOUR: 'it returns false'. Refute it at one input. -/
def fnExactFarthestOffWrong : ChangeSpec := { name := "fnExactFarthestOff", fn := fun _ => fun
  | [d] => { results := [.lit (.bool false)], args := [d] }
  | _ => none }
def FnExactFarthestOffWrongFalsely : Prop := fnExactFarthestOffRow.holds Try.pinned (OpenSpec.ofChange fnExactFarthestOffWrong)

/-- 'laws.FnExactSumGames': WHATEVER THE INPUT: true; the input reads as it did. -/
def fnExactSumGamesSpec : ChangeSpec := { name := "fnExactSumGames", fn := fun _ => fun
  | [d1, d2] => { results := [.lit (.bool true)], args := [d1, d2] }
  | _ => none }
def fnExactSumGamesRow : OpenClaim := { program := "ytbkjogehcoobaaa", sum := "55a991c1f306165fea5e44e5a134b7950d58bef1e52236d5f5b3f3f45a1f4b34", func := "loop.example/g01275/laws.FnExactSumGames", spec := "fnExactSumGames", unfollowed := true, recurses := true, plainKeys := false, apart := false }
def FnExactSumGamesSaid : Prop := fnExactSumGamesRow.holds Try.pinned (OpenSpec.ofChange fnExactSumGamesSpec)

/-- ITS FALSE NEIGHBOUR: 'it returns false'. Refute it at one input. -/
def fnExactSumGamesWrong : ChangeSpec := { name := "fnExactSumGames", fn := fun _ => fun
  | [d1, d2] => { results := [.lit (.bool false)], args := [d1, d2] }
  | _ => none }
def FnExactSumGamesWrongFalsely : Prop := fnExactSumGamesRow.holds Try.pinned (OpenSpec.ofChange fnExactSumGamesWrong)

/-- 'laws.FnExactProductGames': WHATEVER THE INPUT: true; the input reads as it did. -/
def fnExactProductGamesSpec : ChangeSpec := { name := "fnExactProductGames", fn := fun _ => fun
  | [d1, d2] => { results := [.lit (.bool true)], args := [d1, d2] }
  | _ => none }
def fnExactProductGamesRow : OpenClaim := { program := "ytbkjogehcoobaaa", sum := "55a991c1f306165fea5e44e5a134b7950d58bef1e52236d5f5b3f3f45a1f4b34", func := "loop.example/g01275/laws.FnExactProductGames", spec := "fnExactProductGames", unfollowed := true, recurses := true, plainKeys := false, apart := false }
def FnExactProductGamesSaid : Prop := fnExactProductGamesRow.holds Try.pinned (OpenSpec.ofChange fnExactProductGamesSpec)

/-- ITS FALSE NEIGHBOUR: 'it returns false'. Refute it at one input. -/
def fnExactProductGamesWrong : ChangeSpec := { name := "fnExactProductGames", fn := fun _ => fun
  | [d1, d2] => { results := [.lit (.bool false)], args := [d1, d2] }
  | _ => none }
def FnExactProductGamesWrongFalsely : Prop := fnExactProductGamesRow.holds Try.pinned (OpenSpec.ofChange fnExactProductGamesWrong)

/-- 'laws.FnExactGameWithout': WHATEVER THE INPUT: true; the input reads as it did. -/
def fnExactGameWithoutSpec : ChangeSpec := { name := "fnExactGameWithout", fn := fun _ => fun
  | [d1, d2] => { results := [.lit (.bool true)], args := [d1, d2] }
  | _ => none }
def fnExactGameWithoutRow : OpenClaim := { program := "ytbkjogehcoobaaa", sum := "55a991c1f306165fea5e44e5a134b7950d58bef1e52236d5f5b3f3f45a1f4b34", func := "loop.example/g01275/laws.FnExactGameWithout", spec := "fnExactGameWithout", unfollowed := true, recurses := true, plainKeys := false, apart := false }
def FnExactGameWithoutSaid : Prop := fnExactGameWithoutRow.holds Try.pinned (OpenSpec.ofChange fnExactGameWithoutSpec)

/-- ITS FALSE NEIGHBOUR: 'it returns false'. Refute it at one input. -/
def fnExactGameWithoutWrong : ChangeSpec := { name := "fnExactGameWithout", fn := fun _ => fun
  | [d1, d2] => { results := [.lit (.bool false)], args := [d1, d2] }
  | _ => none }
def FnExactGameWithoutWrongFalsely : Prop := fnExactGameWithoutRow.holds Try.pinned (OpenSpec.ofChange fnExactGameWithoutWrong)

/-- 'laws.FnExactGameWith': WHATEVER THE INPUT: true; the input reads as it did. -/
def fnExactGameWithSpec : ChangeSpec := { name := "fnExactGameWith", fn := fun _ => fun
  | [d1, d2] => { results := [.lit (.bool true)], args := [d1, d2] }
  | _ => none }
def fnExactGameWithRow : OpenClaim := { program := "ytbkjogehcoobaaa", sum := "55a991c1f306165fea5e44e5a134b7950d58bef1e52236d5f5b3f3f45a1f4b34", func := "loop.example/g01275/laws.FnExactGameWith", spec := "fnExactGameWith", unfollowed := true, recurses := true, plainKeys := false, apart := false }
def FnExactGameWithSaid : Prop := fnExactGameWithRow.holds Try.pinned (OpenSpec.ofChange fnExactGameWithSpec)

/-- ITS FALSE NEIGHBOUR: 'it returns false'. Refute it at one input. -/
def fnExactGameWithWrong : ChangeSpec := { name := "fnExactGameWith", fn := fun _ => fun
  | [d1, d2] => { results := [.lit (.bool false)], args := [d1, d2] }
  | _ => none }
def FnExactGameWithWrongFalsely : Prop := fnExactGameWithRow.holds Try.pinned (OpenSpec.ofChange fnExactGameWithWrong)

/-- 'laws.FnExactRenameGame': WHATEVER THE INPUT: true; the input reads as it did. -/
def fnExactRenameGameSpec : ChangeSpec := { name := "fnExactRenameGame", fn := fun _ => fun
  | [d1, d2] => { results := [.lit (.bool true)], args := [d1, d2] }
  | _ => none }
def fnExactRenameGameRow : OpenClaim := { program := "ytbkjogehcoobaaa", sum := "55a991c1f306165fea5e44e5a134b7950d58bef1e52236d5f5b3f3f45a1f4b34", func := "loop.example/g01275/laws.FnExactRenameGame", spec := "fnExactRenameGame", unfollowed := true, recurses := true, plainKeys := false, apart := false }
def FnExactRenameGameSaid : Prop := fnExactRenameGameRow.holds Try.pinned (OpenSpec.ofChange fnExactRenameGameSpec)

/-- ITS FALSE NEIGHBOUR: 'it returns false'. Refute it at one input. -/
def fnExactRenameGameWrong : ChangeSpec := { name := "fnExactRenameGame", fn := fun _ => fun
  | [d1, d2] => { results := [.lit (.bool false)], args := [d1, d2] }
  | _ => none }
def FnExactRenameGameWrongFalsely : Prop := fnExactRenameGameRow.holds Try.pinned (OpenSpec.ofChange fnExactRenameGameWrong)

/-- 'laws.FnExactFirstGame': WHATEVER THE INPUT: true; the input reads as it did. -/
def fnExactFirstGameSpec : ChangeSpec := { name := "fnExactFirstGame", fn := fun _ => fun
  | [d] => { results := [.lit (.bool true)], args := [d] }
  | _ => none }
def fnExactFirstGameRow : OpenClaim := { program := "ytbkjogehcoobaaa", sum := "55a991c1f306165fea5e44e5a134b7950d58bef1e52236d5f5b3f3f45a1f4b34", func := "loop.example/g01275/laws.FnExactFirstGame", spec := "fnExactFirstGame", inPlace := ["slices.overlaps[int]"], unfollowed := true, recurses := true, plainKeys := false, apart := false }
def FnExactFirstGameSaid : Prop := fnExactFirstGameRow.holds Try.pinned (OpenSpec.ofChange fnExactFirstGameSpec)

/-- ITS FALSE NEIGHBOUR: 'it returns false'. Refute it at one input. -/
def fnExactFirstGameWrong : ChangeSpec := { name := "fnExactFirstGame", fn := fun _ => fun
  | [d] => { results := [.lit (.bool false)], args := [d] }
  | _ => none }
def FnExactFirstGameWrongFalsely : Prop := fnExactFirstGameRow.holds Try.pinned (OpenSpec.ofChange fnExactFirstGameWrong)

/-- 'laws.FnExactCountGames': WHATEVER THE INPUT: true; the input reads as it did. -/
def fnExactCountGamesSpec : ChangeSpec := { name := "fnExactCountGames", fn := fun _ => fun
  | [d] => { results := [.lit (.bool true)], args := [d] }
  | _ => none }
def fnExactCountGamesRow : OpenClaim := { program := "ytbkjogehcoobaaa", sum := "55a991c1f306165fea5e44e5a134b7950d58bef1e52236d5f5b3f3f45a1f4b34", func := "loop.example/g01275/laws.FnExactCountGames", spec := "fnExactCountGames", unfollowed := true, recurses := true, plainKeys := false, apart := false }
def FnExactCountGamesSaid : Prop := fnExactCountGamesRow.holds Try.pinned (OpenSpec.ofChange fnExactCountGamesSpec)

/-- ITS FALSE NEIGHBOUR: 'it returns false'. Refute it at one input. -/
def fnExactCountGamesWrong : ChangeSpec := { name := "fnExactCountGames", fn := fun _ => fun
  | [d] => { results := [.lit (.bool false)], args := [d] }
  | _ => none }
def FnExactCountGamesWrongFalsely : Prop := fnExactCountGamesRow.holds Try.pinned (OpenSpec.ofChange fnExactCountGamesWrong)

/-- 'laws.FnExactCountProperGames': WHATEVER THE INPUT: true; the input reads as it did. -/
def fnExactCountProperGamesSpec : ChangeSpec := { name := "fnExactCountProperGames", fn := fun _ => fun
  | [d] => { results := [.lit (.bool true)], args := [d] }
  | _ => none }
def fnExactCountProperGamesRow : OpenClaim := { program := "ytbkjogehcoobaaa", sum := "55a991c1f306165fea5e44e5a134b7950d58bef1e52236d5f5b3f3f45a1f4b34", func := "loop.example/g01275/laws.FnExactCountProperGames", spec := "fnExactCountProperGames", unfollowed := true, recurses := true, plainKeys := false, apart := false }
def FnExactCountProperGamesSaid : Prop := fnExactCountProperGamesRow.holds Try.pinned (OpenSpec.ofChange fnExactCountProperGamesSpec)

/-- ITS FALSE NEIGHBOUR: 'it returns false'. Refute it at one input. -/
def fnExactCountProperGamesWrong : ChangeSpec := { name := "fnExactCountProperGames", fn := fun _ => fun
  | [d] => { results := [.lit (.bool false)], args := [d] }
  | _ => none }
def FnExactCountProperGamesWrongFalsely : Prop := fnExactCountProperGamesRow.holds Try.pinned (OpenSpec.ofChange fnExactCountProperGamesWrong)

/- THE SECOND FORM. 'bulk': how many values and letters a reading holds, each counted each time it is reached (what is shared counts as often as it is met; a slice's spare places count too). A statement '..UptoSaid' is the law's where the arguments, and the package variables that the reading takes, are together of bulk at most 1048576: NARROWER than '..Said'. Prove '..Said' where nothing that the law and all that it calls make is longer than what came in: it says more and counts as full. Else prove '..UptoSaid'. A law counts once. -/
mutual
def uptoBulk {H : Type} : DataW H → Nat
  | .lit (.string bytes) => bytes.length + 1
  | .lit _ => 1
  | .nil => 1
  | .ptr d => uptoBulk d + 1
  | .slice elems spare => uptoBulkAll elems + uptoBulkAll spare + 1
  | .agg parts => uptoBulkAll parts + 1
  | .iface _ d => uptoBulk d + 1
  | .map entries => uptoBulkEntries entries + 1
  | .held _ => 1
def uptoBulkAll {H : Type} : List (DataW H) → Nat
  | [] => 0
  | d :: r => uptoBulk d + uptoBulkAll r
def uptoBulkEntries {H : Type} : List (Lit × DataW H) → Nat
  | [] => 0
  | x :: r => uptoBulkEntry x + uptoBulkEntries r
def uptoBulkEntry {H : Type} : Lit × DataW H → Nat
  | (.string bytes, d) => bytes.length + uptoBulk d + 1
  | (_, d) => uptoBulk d + 1
 end
def uptoSmall : (H : Type) → List (DataW H) → Bool := fun _ ds => decide (uptoBulkAll ds ≤ 1048576)
def OpenSpec.upto (s : _root_.Go.ChangeSpec) : _root_.Go.OpenSpec := { _root_.Go.OpenSpec.ofChange s with cond := some uptoSmall }

/-- 'laws.FnExactQuotaSteps', WHERE WHAT IT READS IS OF BULK AT MOST 1048576: true; the input reads as it did. -/
def fnExactQuotaStepsUptoRow : OpenClaim := { program := "ytbkjogehcoobaaa", sum := "55a991c1f306165fea5e44e5a134b7950d58bef1e52236d5f5b3f3f45a1f4b34", func := "loop.example/g01275/laws.FnExactQuotaSteps", spec := "fnExactQuotaSteps", recurses := true, plainKeys := false, apart := false, narrowed := true }
def FnExactQuotaStepsUptoSaid : Prop := fnExactQuotaStepsUptoRow.holds Try.pinned (OpenSpec.upto fnExactQuotaStepsSpec)

/-- 'laws.FnExactCountVotings', WHERE WHAT IT READS IS OF BULK AT MOST 1048576: true; the input reads as it did. -/
def fnExactCountVotingsUptoRow : OpenClaim := { program := "ytbkjogehcoobaaa", sum := "55a991c1f306165fea5e44e5a134b7950d58bef1e52236d5f5b3f3f45a1f4b34", func := "loop.example/g01275/laws.FnExactCountVotings", spec := "fnExactCountVotings", recurses := true, plainKeys := false, apart := false, narrowed := true }
def FnExactCountVotingsUptoSaid : Prop := fnExactCountVotingsUptoRow.holds Try.pinned (OpenSpec.upto fnExactCountVotingsSpec)

/-- 'laws.FnExactQuotaRange', WHERE WHAT IT READS IS OF BULK AT MOST 1048576: true; the input reads as it did. -/
def fnExactQuotaRangeUptoRow : OpenClaim := { program := "ytbkjogehcoobaaa", sum := "55a991c1f306165fea5e44e5a134b7950d58bef1e52236d5f5b3f3f45a1f4b34", func := "loop.example/g01275/laws.FnExactQuotaRange", spec := "fnExactQuotaRange", recurses := true, plainKeys := false, apart := false, narrowed := true }
def FnExactQuotaRangeUptoSaid : Prop := fnExactQuotaRangeUptoRow.holds Try.pinned (OpenSpec.upto fnExactQuotaRangeSpec)

/-- 'laws.FnExactFarthestOff', WHERE WHAT IT READS IS OF BULK AT MOST 1048576: true; the input reads as it did. -/
def fnExactFarthestOffUptoRow : OpenClaim := { program := "ytbkjogehcoobaaa", sum := "55a991c1f306165fea5e44e5a134b7950d58bef1e52236d5f5b3f3f45a1f4b34", func := "loop.example/g01275/laws.FnExactFarthestOff", spec := "fnExactFarthestOff", unfollowed := true, recurses := true, plainKeys := false, apart := false, narrowed := true }
def FnExactFarthestOffUptoSaid : Prop := fnExactFarthestOffUptoRow.holds Try.pinned (OpenSpec.upto fnExactFarthestOffSpec)

/-- 'laws.FnExactSumGames', WHERE WHAT IT READS IS OF BULK AT MOST 1048576: true; the input reads as it did. -/
def fnExactSumGamesUptoRow : OpenClaim := { program := "ytbkjogehcoobaaa", sum := "55a991c1f306165fea5e44e5a134b7950d58bef1e52236d5f5b3f3f45a1f4b34", func := "loop.example/g01275/laws.FnExactSumGames", spec := "fnExactSumGames", unfollowed := true, recurses := true, plainKeys := false, apart := false, narrowed := true }
def FnExactSumGamesUptoSaid : Prop := fnExactSumGamesUptoRow.holds Try.pinned (OpenSpec.upto fnExactSumGamesSpec)

/-- 'laws.FnExactProductGames', WHERE WHAT IT READS IS OF BULK AT MOST 1048576: true; the input reads as it did. -/
def fnExactProductGamesUptoRow : OpenClaim := { program := "ytbkjogehcoobaaa", sum := "55a991c1f306165fea5e44e5a134b7950d58bef1e52236d5f5b3f3f45a1f4b34", func := "loop.example/g01275/laws.FnExactProductGames", spec := "fnExactProductGames", unfollowed := true, recurses := true, plainKeys := false, apart := false, narrowed := true }
def FnExactProductGamesUptoSaid : Prop := fnExactProductGamesUptoRow.holds Try.pinned (OpenSpec.upto fnExactProductGamesSpec)

/-- 'laws.FnExactGameWithout', WHERE WHAT IT READS IS OF BULK AT MOST 1048576: true; the input reads as it did. -/
def fnExactGameWithoutUptoRow : OpenClaim := { program := "ytbkjogehcoobaaa", sum := "55a991c1f306165fea5e44e5a134b7950d58bef1e52236d5f5b3f3f45a1f4b34", func := "loop.example/g01275/laws.FnExactGameWithout", spec := "fnExactGameWithout", unfollowed := true, recurses := true, plainKeys := false, apart := false, narrowed := true }
def FnExactGameWithoutUptoSaid : Prop := fnExactGameWithoutUptoRow.holds Try.pinned (OpenSpec.upto fnExactGameWithoutSpec)

/-- 'laws.FnExactGameWith', WHERE WHAT IT READS IS OF BULK AT MOST 1048576: true; the input reads as it did. -/
def fnExactGameWithUptoRow : OpenClaim := { program := "ytbkjogehcoobaaa", sum := "55a991c1f306165fea5e44e5a134b7950d58bef1e52236d5f5b3f3f45a1f4b34", func := "loop.example/g01275/laws.FnExactGameWith", spec := "fnExactGameWith", unfollowed := true, recurses := true, plainKeys := false, apart := false, narrowed := true }
def FnExactGameWithUptoSaid : Prop := fnExactGameWithUptoRow.holds Try.pinned (OpenSpec.upto fnExactGameWithSpec)

/-- 'laws.FnExactRenameGame', WHERE WHAT IT READS IS OF BULK AT MOST 1048576: true; the input reads as it did. -/
def fnExactRenameGameUptoRow : OpenClaim := { program := "ytbkjogehcoobaaa", sum := "55a991c1f306165fea5e44e5a134b7950d58bef1e52236d5f5b3f3f45a1f4b34", func := "loop.example/g01275/laws.FnExactRenameGame", spec := "fnExactRenameGame", unfollowed := true, recurses := true, plainKeys := false, apart := false, narrowed := true }
def FnExactRenameGameUptoSaid : Prop := fnExactRenameGameUptoRow.holds Try.pinned (OpenSpec.upto fnExactRenameGameSpec)

/-- 'laws.FnExactFirstGame', WHERE WHAT IT READS IS OF BULK AT MOST 1048576: true; the input reads as it did. -/
def fnExactFirstGameUptoRow : OpenClaim := { program := "ytbkjogehcoobaaa", sum := "55a991c1f306165fea5e44e5a134b7950d58bef1e52236d5f5b3f3f45a1f4b34", func := "loop.example/g01275/laws.FnExactFirstGame", spec := "fnExactFirstGame", inPlace := ["slices.overlaps[int]"], unfollowed := true, recurses := true, plainKeys := false, apart := false, narrowed := true }
def FnExactFirstGameUptoSaid : Prop := fnExactFirstGameUptoRow.holds Try.pinned (OpenSpec.upto fnExactFirstGameSpec)

/-- 'laws.FnExactCountGames', WHERE WHAT IT READS IS OF BULK AT MOST 1048576: true; the input reads as it did. -/
def fnExactCountGamesUptoRow : OpenClaim := { program := "ytbkjogehcoobaaa", sum := "55a991c1f306165fea5e44e5a134b7950d58bef1e52236d5f5b3f3f45a1f4b34", func := "loop.example/g01275/laws.FnExactCountGames", spec := "fnExactCountGames", unfollowed := true, recurses := true, plainKeys := false, apart := false, narrowed := true }
def FnExactCountGamesUptoSaid : Prop := fnExactCountGamesUptoRow.holds Try.pinned (OpenSpec.upto fnExactCountGamesSpec)

/-- 'laws.FnExactCountProperGames', WHERE WHAT IT READS IS OF BULK AT MOST 1048576: true; the input reads as it did. -/
def fnExactCountProperGamesUptoRow : OpenClaim := { program := "ytbkjogehcoobaaa", sum := "55a991c1f306165fea5e44e5a134b7950d58bef1e52236d5f5b3f3f45a1f4b34", func := "loop.example/g01275/laws.FnExactCountProperGames", spec := "fnExactCountProperGames", unfollowed := true, recurses := true, plainKeys := false, apart := false, narrowed := true }
def FnExactCountProperGamesUptoSaid : Prop := fnExactCountProperGamesUptoRow.holds Try.pinned (OpenSpec.upto fnExactCountProperGamesSpec)

end Rows
end Go.Proofs.Ytbkjogehcoobaaa
