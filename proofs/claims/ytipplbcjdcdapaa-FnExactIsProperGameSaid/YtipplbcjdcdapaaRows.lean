/-
  No cell of these rows narrows 'for every input' (looked for: loops, veiled, ifaces, maps, wideKeys, modest, calm, conditions, laid).
  DERIVED. THE GIVEN ROWS OF THIS SEAT. 12 by the template 'for every input the law returns true; each argument reads behind the call as it read before'; 0 by the template 'total and deterministic' (their statements: YtipplbcjdcdapaaTotals.lean).
  GIVEN WITH THE SEED: the statements are not yours to turn. If you find one false, say at which input.
  Laid BY PROGRAM, IN A SANDBOX (cutbox-rows.mjs): the forced cells as the released guide's own fill.sh prints them over the translation cb7d2080e60bd353… (all of the seat's roots in one cut). By AI agents, Wed Nov 11 2026. No macro, syntax, notation, axiom, sorry.
-/
import Derived.Test.YtipplbcjdcdapaaChecked
import GoSem.Claim
import GoSem.ClaimJoined
import GoSem.ClaimMapViews
import Derived.JoinedTies
import Derived.KernelRfl
namespace Go.Proofs.Ytipplbcjdcdapaa
/- THE CELL 'sum', in the pinned program and in every row, IS THE sha256 OF THE DUMP (.gsa) THAT YtipplbcjdcdapaaProg.lean LOADS. Nothing in Lean hashes anything: it is a label: what it is worth is what the hold of that sum in a sandbox is worth. -/
noncomputable def Try.pinned : Pinned := { name := "ytipplbcjdcdapaa", sum := "cb7d2080e60bd35392517dd5ea7a03a946389813212d8b6ba774bc2e5be7ff6c", checked := Try.checked }
namespace Rows
def none {H : Type} : Left H := { results := [], args := [] }

/-- 'laws.FnExactGameOf': WHATEVER THE INPUT: true; the input reads as it did. -/
def fnExactGameOfSpec : ChangeSpec := { name := "fnExactGameOf", fn := fun _ => fun
  | [d] => { results := [.lit (.bool true)], args := [d] }
  | _ => none }
def fnExactGameOfRow : OpenClaim := { program := "ytipplbcjdcdapaa", sum := "cb7d2080e60bd35392517dd5ea7a03a946389813212d8b6ba774bc2e5be7ff6c", func := "loop.example/g01275/laws.FnExactGameOf", spec := "fnExactGameOf", unfollowed := true, recurses := true, plainKeys := false, apart := false }
def FnExactGameOfSaid : Prop := fnExactGameOfRow.holds Try.pinned (OpenSpec.ofChange fnExactGameOfSpec)

/-- ITS FALSE NEIGHBOUR: 'it returns false'. Refute it at one input. -/
def fnExactGameOfWrong : ChangeSpec := { name := "fnExactGameOf", fn := fun _ => fun
  | [d] => { results := [.lit (.bool false)], args := [d] }
  | _ => none }
def FnExactGameOfWrongFalsely : Prop := fnExactGameOfRow.holds Try.pinned (OpenSpec.ofChange fnExactGameOfWrong)

/-- 'laws.FnExactGameOfSets': WHATEVER THE INPUT: true; the input reads as it did. -/
def fnExactGameOfSetsSpec : ChangeSpec := { name := "fnExactGameOfSets", fn := fun _ => fun
  | [d1, d2] => { results := [.lit (.bool true)], args := [d1, d2] }
  | _ => none }
def fnExactGameOfSetsRow : OpenClaim := { program := "ytipplbcjdcdapaa", sum := "cb7d2080e60bd35392517dd5ea7a03a946389813212d8b6ba774bc2e5be7ff6c", func := "loop.example/g01275/laws.FnExactGameOfSets", spec := "fnExactGameOfSets", unfollowed := true, recurses := true, plainKeys := false, apart := false }
def FnExactGameOfSetsSaid : Prop := fnExactGameOfSetsRow.holds Try.pinned (OpenSpec.ofChange fnExactGameOfSetsSpec)

/-- ITS FALSE NEIGHBOUR: 'it returns false'. Refute it at one input. -/
def fnExactGameOfSetsWrong : ChangeSpec := { name := "fnExactGameOfSets", fn := fun _ => fun
  | [d1, d2] => { results := [.lit (.bool false)], args := [d1, d2] }
  | _ => none }
def FnExactGameOfSetsWrongFalsely : Prop := fnExactGameOfSetsRow.holds Try.pinned (OpenSpec.ofChange fnExactGameOfSetsWrong)

/-- 'laws.FnExactCountWins': WHATEVER THE INPUT: true; the input reads as it did. -/
def fnExactCountWinsSpec : ChangeSpec := { name := "fnExactCountWins", fn := fun _ => fun
  | [d] => { results := [.lit (.bool true)], args := [d] }
  | _ => none }
def fnExactCountWinsRow : OpenClaim := { program := "ytipplbcjdcdapaa", sum := "cb7d2080e60bd35392517dd5ea7a03a946389813212d8b6ba774bc2e5be7ff6c", func := "loop.example/g01275/laws.FnExactCountWins", spec := "fnExactCountWins", unfollowed := true, recurses := true, plainKeys := false, apart := false }
def FnExactCountWinsSaid : Prop := fnExactCountWinsRow.holds Try.pinned (OpenSpec.ofChange fnExactCountWinsSpec)

/-- ITS FALSE NEIGHBOUR: 'it returns false'. Refute it at one input. -/
def fnExactCountWinsWrong : ChangeSpec := { name := "fnExactCountWins", fn := fun _ => fun
  | [d] => { results := [.lit (.bool false)], args := [d] }
  | _ => none }
def FnExactCountWinsWrongFalsely : Prop := fnExactCountWinsRow.holds Try.pinned (OpenSpec.ofChange fnExactCountWinsWrong)

/-- 'laws.FnExactDualGame': WHATEVER THE INPUT: true; the input reads as it did. -/
def fnExactDualGameSpec : ChangeSpec := { name := "fnExactDualGame", fn := fun _ => fun
  | [d] => { results := [.lit (.bool true)], args := [d] }
  | _ => none }
def fnExactDualGameRow : OpenClaim := { program := "ytipplbcjdcdapaa", sum := "cb7d2080e60bd35392517dd5ea7a03a946389813212d8b6ba774bc2e5be7ff6c", func := "loop.example/g01275/laws.FnExactDualGame", spec := "fnExactDualGame", unfollowed := true, recurses := true, plainKeys := false, apart := false }
def FnExactDualGameSaid : Prop := fnExactDualGameRow.holds Try.pinned (OpenSpec.ofChange fnExactDualGameSpec)

/-- ITS FALSE NEIGHBOUR: 'it returns false'. Refute it at one input. -/
def fnExactDualGameWrong : ChangeSpec := { name := "fnExactDualGame", fn := fun _ => fun
  | [d] => { results := [.lit (.bool false)], args := [d] }
  | _ => none }
def FnExactDualGameWrongFalsely : Prop := fnExactDualGameRow.holds Try.pinned (OpenSpec.ofChange fnExactDualGameWrong)

/-- 'laws.FnExactIsProperGame': WHATEVER THE INPUT: true; the input reads as it did. -/
def fnExactIsProperGameSpec : ChangeSpec := { name := "fnExactIsProperGame", fn := fun _ => fun
  | [d] => { results := [.lit (.bool true)], args := [d] }
  | _ => none }
def fnExactIsProperGameRow : OpenClaim := { program := "ytipplbcjdcdapaa", sum := "cb7d2080e60bd35392517dd5ea7a03a946389813212d8b6ba774bc2e5be7ff6c", func := "loop.example/g01275/laws.FnExactIsProperGame", spec := "fnExactIsProperGame", unfollowed := true, recurses := true, plainKeys := false, apart := false }
def FnExactIsProperGameSaid : Prop := fnExactIsProperGameRow.holds Try.pinned (OpenSpec.ofChange fnExactIsProperGameSpec)

/-- ITS FALSE NEIGHBOUR: 'it returns false'. Refute it at one input. -/
def fnExactIsProperGameWrong : ChangeSpec := { name := "fnExactIsProperGame", fn := fun _ => fun
  | [d] => { results := [.lit (.bool false)], args := [d] }
  | _ => none }
def FnExactIsProperGameWrongFalsely : Prop := fnExactIsProperGameRow.holds Try.pinned (OpenSpec.ofChange fnExactIsProperGameWrong)

/-- 'laws.FnExactIsStrongGame': WHATEVER THE INPUT: true; the input reads as it did. -/
def fnExactIsStrongGameSpec : ChangeSpec := { name := "fnExactIsStrongGame", fn := fun _ => fun
  | [d] => { results := [.lit (.bool true)], args := [d] }
  | _ => none }
def fnExactIsStrongGameRow : OpenClaim := { program := "ytipplbcjdcdapaa", sum := "cb7d2080e60bd35392517dd5ea7a03a946389813212d8b6ba774bc2e5be7ff6c", func := "loop.example/g01275/laws.FnExactIsStrongGame", spec := "fnExactIsStrongGame", unfollowed := true, recurses := true, plainKeys := false, apart := false }
def FnExactIsStrongGameSaid : Prop := fnExactIsStrongGameRow.holds Try.pinned (OpenSpec.ofChange fnExactIsStrongGameSpec)

/-- ITS FALSE NEIGHBOUR: 'it returns false'. Refute it at one input. -/
def fnExactIsStrongGameWrong : ChangeSpec := { name := "fnExactIsStrongGame", fn := fun _ => fun
  | [d] => { results := [.lit (.bool false)], args := [d] }
  | _ => none }
def FnExactIsStrongGameWrongFalsely : Prop := fnExactIsStrongGameRow.holds Try.pinned (OpenSpec.ofChange fnExactIsStrongGameWrong)

/-- 'laws.FnExactSumGames': WHATEVER THE INPUT: true; the input reads as it did. -/
def fnExactSumGamesSpec : ChangeSpec := { name := "fnExactSumGames", fn := fun _ => fun
  | [d1, d2] => { results := [.lit (.bool true)], args := [d1, d2] }
  | _ => none }
def fnExactSumGamesRow : OpenClaim := { program := "ytipplbcjdcdapaa", sum := "cb7d2080e60bd35392517dd5ea7a03a946389813212d8b6ba774bc2e5be7ff6c", func := "loop.example/g01275/laws.FnExactSumGames", spec := "fnExactSumGames", unfollowed := true, recurses := true, plainKeys := false, apart := false }
def FnExactSumGamesSaid : Prop := fnExactSumGamesRow.holds Try.pinned (OpenSpec.ofChange fnExactSumGamesSpec)

/-- ITS FALSE NEIGHBOUR: 'it returns false'. Refute it at one input. -/
def fnExactSumGamesWrong : ChangeSpec := { name := "fnExactSumGames", fn := fun _ => fun
  | [d1, d2] => { results := [.lit (.bool false)], args := [d1, d2] }
  | _ => none }
def FnExactSumGamesWrongFalsely : Prop := fnExactSumGamesRow.holds Try.pinned (OpenSpec.ofChange fnExactSumGamesWrong)

/-- 'laws.FnExactProductGames': WHATEVER THE INPUT: true; the input reads as it did. -/
def fnExactProductGamesSpec : ChangeSpec := { name := "fnExactProductGames", fn := fun _ => fun
  | [d1, d2] => { results := [.lit (.bool true)], args := [d1, d2] }
  | _ => none }
def fnExactProductGamesRow : OpenClaim := { program := "ytipplbcjdcdapaa", sum := "cb7d2080e60bd35392517dd5ea7a03a946389813212d8b6ba774bc2e5be7ff6c", func := "loop.example/g01275/laws.FnExactProductGames", spec := "fnExactProductGames", unfollowed := true, recurses := true, plainKeys := false, apart := false }
def FnExactProductGamesSaid : Prop := fnExactProductGamesRow.holds Try.pinned (OpenSpec.ofChange fnExactProductGamesSpec)

/-- ITS FALSE NEIGHBOUR: 'it returns false'. Refute it at one input. -/
def fnExactProductGamesWrong : ChangeSpec := { name := "fnExactProductGames", fn := fun _ => fun
  | [d1, d2] => { results := [.lit (.bool false)], args := [d1, d2] }
  | _ => none }
def FnExactProductGamesWrongFalsely : Prop := fnExactProductGamesRow.holds Try.pinned (OpenSpec.ofChange fnExactProductGamesWrong)

/-- 'laws.FnExactGameWithout': WHATEVER THE INPUT: true; the input reads as it did. -/
def fnExactGameWithoutSpec : ChangeSpec := { name := "fnExactGameWithout", fn := fun _ => fun
  | [d1, d2] => { results := [.lit (.bool true)], args := [d1, d2] }
  | _ => none }
def fnExactGameWithoutRow : OpenClaim := { program := "ytipplbcjdcdapaa", sum := "cb7d2080e60bd35392517dd5ea7a03a946389813212d8b6ba774bc2e5be7ff6c", func := "loop.example/g01275/laws.FnExactGameWithout", spec := "fnExactGameWithout", unfollowed := true, recurses := true, plainKeys := false, apart := false }
def FnExactGameWithoutSaid : Prop := fnExactGameWithoutRow.holds Try.pinned (OpenSpec.ofChange fnExactGameWithoutSpec)

/-- ITS FALSE NEIGHBOUR: 'it returns false'. Refute it at one input. -/
def fnExactGameWithoutWrong : ChangeSpec := { name := "fnExactGameWithout", fn := fun _ => fun
  | [d1, d2] => { results := [.lit (.bool false)], args := [d1, d2] }
  | _ => none }
def FnExactGameWithoutWrongFalsely : Prop := fnExactGameWithoutRow.holds Try.pinned (OpenSpec.ofChange fnExactGameWithoutWrong)

/-- 'laws.FnExactGameWith': WHATEVER THE INPUT: true; the input reads as it did. -/
def fnExactGameWithSpec : ChangeSpec := { name := "fnExactGameWith", fn := fun _ => fun
  | [d1, d2] => { results := [.lit (.bool true)], args := [d1, d2] }
  | _ => none }
def fnExactGameWithRow : OpenClaim := { program := "ytipplbcjdcdapaa", sum := "cb7d2080e60bd35392517dd5ea7a03a946389813212d8b6ba774bc2e5be7ff6c", func := "loop.example/g01275/laws.FnExactGameWith", spec := "fnExactGameWith", unfollowed := true, recurses := true, plainKeys := false, apart := false }
def FnExactGameWithSaid : Prop := fnExactGameWithRow.holds Try.pinned (OpenSpec.ofChange fnExactGameWithSpec)

/-- ITS FALSE NEIGHBOUR: 'it returns false'. Refute it at one input. -/
def fnExactGameWithWrong : ChangeSpec := { name := "fnExactGameWith", fn := fun _ => fun
  | [d1, d2] => { results := [.lit (.bool false)], args := [d1, d2] }
  | _ => none }
def FnExactGameWithWrongFalsely : Prop := fnExactGameWithRow.holds Try.pinned (OpenSpec.ofChange fnExactGameWithWrong)

/-- 'laws.FnExactRenameGame': WHATEVER THE INPUT: true; the input reads as it did. -/
def fnExactRenameGameSpec : ChangeSpec := { name := "fnExactRenameGame", fn := fun _ => fun
  | [d1, d2] => { results := [.lit (.bool true)], args := [d1, d2] }
  | _ => none }
def fnExactRenameGameRow : OpenClaim := { program := "ytipplbcjdcdapaa", sum := "cb7d2080e60bd35392517dd5ea7a03a946389813212d8b6ba774bc2e5be7ff6c", func := "loop.example/g01275/laws.FnExactRenameGame", spec := "fnExactRenameGame", unfollowed := true, recurses := true, plainKeys := false, apart := false }
def FnExactRenameGameSaid : Prop := fnExactRenameGameRow.holds Try.pinned (OpenSpec.ofChange fnExactRenameGameSpec)

/-- ITS FALSE NEIGHBOUR: 'it returns false'. Refute it at one input. -/
def fnExactRenameGameWrong : ChangeSpec := { name := "fnExactRenameGame", fn := fun _ => fun
  | [d1, d2] => { results := [.lit (.bool false)], args := [d1, d2] }
  | _ => none }
def FnExactRenameGameWrongFalsely : Prop := fnExactRenameGameRow.holds Try.pinned (OpenSpec.ofChange fnExactRenameGameWrong)

/-- 'laws.FnExactIdleMembers': WHATEVER THE INPUT: true; the input reads as it did. -/
def fnExactIdleMembersSpec : ChangeSpec := { name := "fnExactIdleMembers", fn := fun _ => fun
  | [d] => { results := [.lit (.bool true)], args := [d] }
  | _ => none }
def fnExactIdleMembersRow : OpenClaim := { program := "ytipplbcjdcdapaa", sum := "cb7d2080e60bd35392517dd5ea7a03a946389813212d8b6ba774bc2e5be7ff6c", func := "loop.example/g01275/laws.FnExactIdleMembers", spec := "fnExactIdleMembers", unfollowed := true, recurses := true, plainKeys := false, apart := false }
def FnExactIdleMembersSaid : Prop := fnExactIdleMembersRow.holds Try.pinned (OpenSpec.ofChange fnExactIdleMembersSpec)

/-- ITS FALSE NEIGHBOUR: 'it returns false'. Refute it at one input. -/
def fnExactIdleMembersWrong : ChangeSpec := { name := "fnExactIdleMembers", fn := fun _ => fun
  | [d] => { results := [.lit (.bool false)], args := [d] }
  | _ => none }
def FnExactIdleMembersWrongFalsely : Prop := fnExactIdleMembersRow.holds Try.pinned (OpenSpec.ofChange fnExactIdleMembersWrong)

/- THE SECOND FORM. 'bulk': how many values and letters a reading holds, each counted each time it is reached (what is shared counts as often as it is met; a slice's spare places count too). A statement '..UptoSaid' is the law's where the arguments, and the package variables that the reading takes, are together of bulk at most 1048576: NARROWER than '..Said'. Prove '..Said' where nothing that the law and all that it calls make is longer than what came in: it says more and counts as full. Else prove '..UptoSaid'. A law counts once. -/
mutual
def uptoBulk {H : Type} : DataW H → Nat
  | .lit (.string bytes) => bytes.length + 1
  | .lit _ => 1
  | .nil => 1
  | .ptr d => uptoBulk d + 1
  | .slice elems spare => uptoBulkAll elems + uptoBulkAll spare + 1
  | .agg parts => uptoBulkAll parts + 1
  | .iface _ d => uptoBulk d + 1
  | .map entries => uptoBulkEntries entries + 1
  | .held _ => 1
def uptoBulkAll {H : Type} : List (DataW H) → Nat
  | [] => 0
  | d :: r => uptoBulk d + uptoBulkAll r
def uptoBulkEntries {H : Type} : List (Lit × DataW H) → Nat
  | [] => 0
  | x :: r => uptoBulkEntry x + uptoBulkEntries r
def uptoBulkEntry {H : Type} : Lit × DataW H → Nat
  | (.string bytes, d) => bytes.length + uptoBulk d + 1
  | (_, d) => uptoBulk d + 1
 end
def uptoSmall : (H : Type) → List (DataW H) → Bool := fun _ ds => decide (uptoBulkAll ds ≤ 1048576)
def OpenSpec.upto (s : _root_.Go.ChangeSpec) : _root_.Go.OpenSpec := { _root_.Go.OpenSpec.ofChange s with cond := some uptoSmall }

/-- 'laws.FnExactGameOf', WHERE WHAT IT READS IS OF BULK AT MOST 1048576: true; the input reads as it did. -/
def fnExactGameOfUptoRow : OpenClaim := { program := "ytipplbcjdcdapaa", sum := "cb7d2080e60bd35392517dd5ea7a03a946389813212d8b6ba774bc2e5be7ff6c", func := "loop.example/g01275/laws.FnExactGameOf", spec := "fnExactGameOf", unfollowed := true, recurses := true, plainKeys := false, apart := false, narrowed := true }
def FnExactGameOfUptoSaid : Prop := fnExactGameOfUptoRow.holds Try.pinned (OpenSpec.upto fnExactGameOfSpec)

/-- 'laws.FnExactGameOfSets', WHERE WHAT IT READS IS OF BULK AT MOST 1048576: true; the input reads as it did. -/
def fnExactGameOfSetsUptoRow : OpenClaim := { program := "ytipplbcjdcdapaa", sum := "cb7d2080e60bd35392517dd5ea7a03a946389813212d8b6ba774bc2e5be7ff6c", func := "loop.example/g01275/laws.FnExactGameOfSets", spec := "fnExactGameOfSets", unfollowed := true, recurses := true, plainKeys := false, apart := false, narrowed := true }
def FnExactGameOfSetsUptoSaid : Prop := fnExactGameOfSetsUptoRow.holds Try.pinned (OpenSpec.upto fnExactGameOfSetsSpec)

/-- 'laws.FnExactCountWins', WHERE WHAT IT READS IS OF BULK AT MOST 1048576: true; the input reads as it did. -/
def fnExactCountWinsUptoRow : OpenClaim := { program := "ytipplbcjdcdapaa", sum := "cb7d2080e60bd35392517dd5ea7a03a946389813212d8b6ba774bc2e5be7ff6c", func := "loop.example/g01275/laws.FnExactCountWins", spec := "fnExactCountWins", unfollowed := true, recurses := true, plainKeys := false, apart := false, narrowed := true }
def FnExactCountWinsUptoSaid : Prop := fnExactCountWinsUptoRow.holds Try.pinned (OpenSpec.upto fnExactCountWinsSpec)

/-- 'laws.FnExactDualGame', WHERE WHAT IT READS IS OF BULK AT MOST 1048576: true; the input reads as it did. -/
def fnExactDualGameUptoRow : OpenClaim := { program := "ytipplbcjdcdapaa", sum := "cb7d2080e60bd35392517dd5ea7a03a946389813212d8b6ba774bc2e5be7ff6c", func := "loop.example/g01275/laws.FnExactDualGame", spec := "fnExactDualGame", unfollowed := true, recurses := true, plainKeys := false, apart := false, narrowed := true }
def FnExactDualGameUptoSaid : Prop := fnExactDualGameUptoRow.holds Try.pinned (OpenSpec.upto fnExactDualGameSpec)

/-- 'laws.FnExactIsProperGame', WHERE WHAT IT READS IS OF BULK AT MOST 1048576: true; the input reads as it did. -/
def fnExactIsProperGameUptoRow : OpenClaim := { program := "ytipplbcjdcdapaa", sum := "cb7d2080e60bd35392517dd5ea7a03a946389813212d8b6ba774bc2e5be7ff6c", func := "loop.example/g01275/laws.FnExactIsProperGame", spec := "fnExactIsProperGame", unfollowed := true, recurses := true, plainKeys := false, apart := false, narrowed := true }
def FnExactIsProperGameUptoSaid : Prop := fnExactIsProperGameUptoRow.holds Try.pinned (OpenSpec.upto fnExactIsProperGameSpec)

/-- 'laws.FnExactIsStrongGame', WHERE WHAT IT READS IS OF BULK AT MOST 1048576: true; the input reads as it did. -/
def fnExactIsStrongGameUptoRow : OpenClaim := { program := "ytipplbcjdcdapaa", sum := "cb7d2080e60bd35392517dd5ea7a03a946389813212d8b6ba774bc2e5be7ff6c", func := "loop.example/g01275/laws.FnExactIsStrongGame", spec := "fnExactIsStrongGame", unfollowed := true, recurses := true, plainKeys := false, apart := false, narrowed := true }
def FnExactIsStrongGameUptoSaid : Prop := fnExactIsStrongGameUptoRow.holds Try.pinned (OpenSpec.upto fnExactIsStrongGameSpec)

/-- 'laws.FnExactSumGames', WHERE WHAT IT READS IS OF BULK AT MOST 1048576: true; the input reads as it did. -/
def fnExactSumGamesUptoRow : OpenClaim := { program := "ytipplbcjdcdapaa", sum := "cb7d2080e60bd35392517dd5ea7a03a946389813212d8b6ba774bc2e5be7ff6c", func := "loop.example/g01275/laws.FnExactSumGames", spec := "fnExactSumGames", unfollowed := true, recurses := true, plainKeys := false, apart := false, narrowed := true }
def FnExactSumGamesUptoSaid : Prop := fnExactSumGamesUptoRow.holds Try.pinned (OpenSpec.upto fnExactSumGamesSpec)

/-- 'laws.FnExactProductGames', WHERE WHAT IT READS IS OF BULK AT MOST 1048576: true; the input reads as it did. -/
def fnExactProductGamesUptoRow : OpenClaim := { program := "ytipplbcjdcdapaa", sum := "cb7d2080e60bd35392517dd5ea7a03a946389813212d8b6ba774bc2e5be7ff6c", func := "loop.example/g01275/laws.FnExactProductGames", spec := "fnExactProductGames", unfollowed := true, recurses := true, plainKeys := false, apart := false, narrowed := true }
def FnExactProductGamesUptoSaid : Prop := fnExactProductGamesUptoRow.holds Try.pinned (OpenSpec.upto fnExactProductGamesSpec)

/-- 'laws.FnExactGameWithout', WHERE WHAT IT READS IS OF BULK AT MOST 1048576: true; the input reads as it did. -/
def fnExactGameWithoutUptoRow : OpenClaim := { program := "ytipplbcjdcdapaa", sum := "cb7d2080e60bd35392517dd5ea7a03a946389813212d8b6ba774bc2e5be7ff6c", func := "loop.example/g01275/laws.FnExactGameWithout", spec := "fnExactGameWithout", unfollowed := true, recurses := true, plainKeys := false, apart := false, narrowed := true }
def FnExactGameWithoutUptoSaid : Prop := fnExactGameWithoutUptoRow.holds Try.pinned (OpenSpec.upto fnExactGameWithoutSpec)

/-- 'laws.FnExactGameWith', WHERE WHAT IT READS IS OF BULK AT MOST 1048576: true; the input reads as it did. -/
def fnExactGameWithUptoRow : OpenClaim := { program := "ytipplbcjdcdapaa", sum := "cb7d2080e60bd35392517dd5ea7a03a946389813212d8b6ba774bc2e5be7ff6c", func := "loop.example/g01275/laws.FnExactGameWith", spec := "fnExactGameWith", unfollowed := true, recurses := true, plainKeys := false, apart := false, narrowed := true }
def FnExactGameWithUptoSaid : Prop := fnExactGameWithUptoRow.holds Try.pinned (OpenSpec.upto fnExactGameWithSpec)

/-- 'laws.FnExactRenameGame', WHERE WHAT IT READS IS OF BULK AT MOST 1048576: true; the input reads as it did. -/
def fnExactRenameGameUptoRow : OpenClaim := { program := "ytipplbcjdcdapaa", sum := "cb7d2080e60bd35392517dd5ea7a03a946389813212d8b6ba774bc2e5be7ff6c", func := "loop.example/g01275/laws.FnExactRenameGame", spec := "fnExactRenameGame", unfollowed := true, recurses := true, plainKeys := false, apart := false, narrowed := true }
def FnExactRenameGameUptoSaid : Prop := fnExactRenameGameUptoRow.holds Try.pinned (OpenSpec.upto fnExactRenameGameSpec)

/-- 'laws.FnExactIdleMembers', WHERE WHAT IT READS IS OF BULK AT MOST 1048576: true; the input reads as it did. -/
def fnExactIdleMembersUptoRow : OpenClaim := { program := "ytipplbcjdcdapaa", sum := "cb7d2080e60bd35392517dd5ea7a03a946389813212d8b6ba774bc2e5be7ff6c", func := "loop.example/g01275/laws.FnExactIdleMembers", spec := "fnExactIdleMembers", unfollowed := true, recurses := true, plainKeys := false, apart := false, narrowed := true }
def FnExactIdleMembersUptoSaid : Prop := fnExactIdleMembersUptoRow.holds Try.pinned (OpenSpec.upto fnExactIdleMembersSpec)

end Rows
end Go.Proofs.Ytipplbcjdcdapaa
