/-
  No cell of these rows narrows 'for every input' (looked for: loops, veiled, ifaces, maps, wideKeys, modest, calm, conditions, laid).
  DERIVED. THE GIVEN ROWS OF THIS SEAT. 8 by the template 'for every input the law returns true; each argument reads behind the call as it read before'; 0 by the template 'total and deterministic' (their statements: YtgilbenbaefgfaaTotals.lean).
  GIVEN WITH THE SEED: the statements are not yours to turn. If you find one false, say at which input.
  Laid BY PROGRAM, IN A SANDBOX (cutbox-rows.mjs): the forced cells as the released guide's own fill.sh prints them over the translation b598f9f2e285e2c1… (all of the seat's roots in one cut). By AI agents, Wed Nov 11 2026. No macro, syntax, notation, axiom, sorry.
-/
import Derived.Test.YtgilbenbaefgfaaChecked
import GoSem.Claim
import GoSem.ClaimJoined
import GoSem.ClaimMapViews
import Derived.JoinedTies
import Derived.KernelRfl
namespace Go.Proofs.Ytgilbenbaefgfaa
/- THE CELL 'sum', in the pinned program and in every row, IS THE sha256 OF THE DUMP (.gsa) THAT YtgilbenbaefgfaaProg.lean LOADS. Nothing in Lean hashes anything: it is a label: what it is worth is what the hold of that sum in a sandbox is worth. -/
noncomputable def Try.pinned : Pinned := { name := "ytgilbenbaefgfaa", sum := "b598f9f2e285e2c18370db55d7254a04dcc13e59d0048dbd67d0e5ec540291ca", checked := Try.checked }
namespace Rows
def none {H : Type} : Left H := { results := [], args := [] }

/-- 'laws.FnExactIsWorth': WHATEVER THE INPUT: true; the input reads as it did. -/
def fnExactIsWorthSpec : ChangeSpec := { name := "fnExactIsWorth", fn := fun _ => fun
  | [d1, d2, d3] => { results := [.lit (.bool true)], args := [d1, d2, d3] }
  | _ => none }
def fnExactIsWorthRow : OpenClaim := { program := "ytgilbenbaefgfaa", sum := "b598f9f2e285e2c18370db55d7254a04dcc13e59d0048dbd67d0e5ec540291ca", func := "loop.example/g01275/laws.FnExactIsWorth", spec := "fnExactIsWorth", unfollowed := true, recurses := true, plainKeys := false, apart := false }
def FnExactIsWorthSaid : Prop := fnExactIsWorthRow.holds Try.pinned (OpenSpec.ofChange fnExactIsWorthSpec)

/-- ITS FALSE NEIGHBOUR: 'it returns false'. Refute it at one input. -/
def fnExactIsWorthWrong : ChangeSpec := { name := "fnExactIsWorth", fn := fun _ => fun
  | [d1, d2, d3] => { results := [.lit (.bool false)], args := [d1, d2, d3] }
  | _ => none }
def FnExactIsWorthWrongFalsely : Prop := fnExactIsWorthRow.holds Try.pinned (OpenSpec.ofChange fnExactIsWorthWrong)

/-- 'laws.FnExactCompareMembers': WHATEVER THE INPUT: true; the input reads as it did. -/
def fnExactCompareMembersSpec : ChangeSpec := { name := "fnExactCompareMembers", fn := fun _ => fun
  | [d1, d2, d3] => { results := [.lit (.bool true)], args := [d1, d2, d3] }
  | _ => none }
def fnExactCompareMembersRow : OpenClaim := { program := "ytgilbenbaefgfaa", sum := "b598f9f2e285e2c18370db55d7254a04dcc13e59d0048dbd67d0e5ec540291ca", func := "loop.example/g01275/laws.FnExactCompareMembers", spec := "fnExactCompareMembers", unfollowed := true, recurses := true, plainKeys := false, apart := false }
def FnExactCompareMembersSaid : Prop := fnExactCompareMembersRow.holds Try.pinned (OpenSpec.ofChange fnExactCompareMembersSpec)

/-- ITS FALSE NEIGHBOUR: 'it returns false'. Refute it at one input. -/
def fnExactCompareMembersWrong : ChangeSpec := { name := "fnExactCompareMembers", fn := fun _ => fun
  | [d1, d2, d3] => { results := [.lit (.bool false)], args := [d1, d2, d3] }
  | _ => none }
def FnExactCompareMembersWrongFalsely : Prop := fnExactCompareMembersRow.holds Try.pinned (OpenSpec.ofChange fnExactCompareMembersWrong)

/-- 'laws.FnExactAreUnlike': WHATEVER THE INPUT: true; the input reads as it did. -/
def fnExactAreUnlikeSpec : ChangeSpec := { name := "fnExactAreUnlike", fn := fun _ => fun
  | [d1, d2, d3] => { results := [.lit (.bool true)], args := [d1, d2, d3] }
  | _ => none }
def fnExactAreUnlikeRow : OpenClaim := { program := "ytgilbenbaefgfaa", sum := "b598f9f2e285e2c18370db55d7254a04dcc13e59d0048dbd67d0e5ec540291ca", func := "loop.example/g01275/laws.FnExactAreUnlike", spec := "fnExactAreUnlike", unfollowed := true, recurses := true, plainKeys := false, apart := false }
def FnExactAreUnlikeSaid : Prop := fnExactAreUnlikeRow.holds Try.pinned (OpenSpec.ofChange fnExactAreUnlikeSpec)

/-- ITS FALSE NEIGHBOUR: 'it returns false'. Refute it at one input. -/
def fnExactAreUnlikeWrong : ChangeSpec := { name := "fnExactAreUnlike", fn := fun _ => fun
  | [d1, d2, d3] => { results := [.lit (.bool false)], args := [d1, d2, d3] }
  | _ => none }
def FnExactAreUnlikeWrongFalsely : Prop := fnExactAreUnlikeRow.holds Try.pinned (OpenSpec.ofChange fnExactAreUnlikeWrong)

/-- 'laws.FnExactIsComplete': WHATEVER THE INPUT: true; the input reads as it did. -/
def fnExactIsCompleteSpec : ChangeSpec := { name := "fnExactIsComplete", fn := fun _ => fun
  | [d] => { results := [.lit (.bool true)], args := [d] }
  | _ => none }
def fnExactIsCompleteRow : OpenClaim := { program := "ytgilbenbaefgfaa", sum := "b598f9f2e285e2c18370db55d7254a04dcc13e59d0048dbd67d0e5ec540291ca", func := "loop.example/g01275/laws.FnExactIsComplete", spec := "fnExactIsComplete", unfollowed := true, recurses := true, plainKeys := false, apart := false }
def FnExactIsCompleteSaid : Prop := fnExactIsCompleteRow.holds Try.pinned (OpenSpec.ofChange fnExactIsCompleteSpec)

/-- ITS FALSE NEIGHBOUR: 'it returns false'. Refute it at one input. -/
def fnExactIsCompleteWrong : ChangeSpec := { name := "fnExactIsComplete", fn := fun _ => fun
  | [d] => { results := [.lit (.bool false)], args := [d] }
  | _ => none }
def FnExactIsCompleteWrongFalsely : Prop := fnExactIsCompleteRow.holds Try.pinned (OpenSpec.ofChange fnExactIsCompleteWrong)

/-- 'laws.FnExactUnderMembers': WHATEVER THE INPUT: true; the input reads as it did. -/
def fnExactUnderMembersSpec : ChangeSpec := { name := "fnExactUnderMembers", fn := fun _ => fun
  | [d1, d2] => { results := [.lit (.bool true)], args := [d1, d2] }
  | _ => none }
def fnExactUnderMembersRow : OpenClaim := { program := "ytgilbenbaefgfaa", sum := "b598f9f2e285e2c18370db55d7254a04dcc13e59d0048dbd67d0e5ec540291ca", func := "loop.example/g01275/laws.FnExactUnderMembers", spec := "fnExactUnderMembers", unfollowed := true, recurses := true, plainKeys := false, apart := false }
def FnExactUnderMembersSaid : Prop := fnExactUnderMembersRow.holds Try.pinned (OpenSpec.ofChange fnExactUnderMembersSpec)

/-- ITS FALSE NEIGHBOUR: 'it returns false'. Refute it at one input. -/
def fnExactUnderMembersWrong : ChangeSpec := { name := "fnExactUnderMembers", fn := fun _ => fun
  | [d1, d2] => { results := [.lit (.bool false)], args := [d1, d2] }
  | _ => none }
def FnExactUnderMembersWrongFalsely : Prop := fnExactUnderMembersRow.holds Try.pinned (OpenSpec.ofChange fnExactUnderMembersWrong)

/-- 'laws.FnExactWorthTable': WHATEVER THE INPUT: true; the input reads as it did. -/
def fnExactWorthTableSpec : ChangeSpec := { name := "fnExactWorthTable", fn := fun _ => fun
  | [d] => { results := [.lit (.bool true)], args := [d] }
  | _ => none }
def fnExactWorthTableRow : OpenClaim := { program := "ytgilbenbaefgfaa", sum := "b598f9f2e285e2c18370db55d7254a04dcc13e59d0048dbd67d0e5ec540291ca", func := "loop.example/g01275/laws.FnExactWorthTable", spec := "fnExactWorthTable", unfollowed := true, recurses := true, plainKeys := false, apart := false }
def FnExactWorthTableSaid : Prop := fnExactWorthTableRow.holds Try.pinned (OpenSpec.ofChange fnExactWorthTableSpec)

/-- ITS FALSE NEIGHBOUR: 'it returns false'. Refute it at one input. -/
def fnExactWorthTableWrong : ChangeSpec := { name := "fnExactWorthTable", fn := fun _ => fun
  | [d] => { results := [.lit (.bool false)], args := [d] }
  | _ => none }
def FnExactWorthTableWrongFalsely : Prop := fnExactWorthTableRow.holds Try.pinned (OpenSpec.ofChange fnExactWorthTableWrong)

/-- 'laws.FnExactIsTrade': WHATEVER THE INPUT: true; the input reads as it did. -/
def fnExactIsTradeSpec : ChangeSpec := { name := "fnExactIsTrade", fn := fun _ => fun
  | [d1, d2] => { results := [.lit (.bool true)], args := [d1, d2] }
  | _ => none }
def fnExactIsTradeRow : OpenClaim := { program := "ytgilbenbaefgfaa", sum := "b598f9f2e285e2c18370db55d7254a04dcc13e59d0048dbd67d0e5ec540291ca", func := "loop.example/g01275/laws.FnExactIsTrade", spec := "fnExactIsTrade", unfollowed := true, recurses := true, plainKeys := false, apart := false }
def FnExactIsTradeSaid : Prop := fnExactIsTradeRow.holds Try.pinned (OpenSpec.ofChange fnExactIsTradeSpec)

/-- ITS FALSE NEIGHBOUR: 'it returns false'. Refute it at one input. -/
def fnExactIsTradeWrong : ChangeSpec := { name := "fnExactIsTrade", fn := fun _ => fun
  | [d1, d2] => { results := [.lit (.bool false)], args := [d1, d2] }
  | _ => none }
def FnExactIsTradeWrongFalsely : Prop := fnExactIsTradeRow.holds Try.pinned (OpenSpec.ofChange fnExactIsTradeWrong)

/-- 'laws.FnExactCountGames': WHATEVER THE INPUT: true; the input reads as it did. -/
def fnExactCountGamesSpec : ChangeSpec := { name := "fnExactCountGames", fn := fun _ => fun
  | [d] => { results := [.lit (.bool true)], args := [d] }
  | _ => none }
def fnExactCountGamesRow : OpenClaim := { program := "ytgilbenbaefgfaa", sum := "b598f9f2e285e2c18370db55d7254a04dcc13e59d0048dbd67d0e5ec540291ca", func := "loop.example/g01275/laws.FnExactCountGames", spec := "fnExactCountGames", unfollowed := true, recurses := true, plainKeys := false, apart := false }
def FnExactCountGamesSaid : Prop := fnExactCountGamesRow.holds Try.pinned (OpenSpec.ofChange fnExactCountGamesSpec)

/-- ITS FALSE NEIGHBOUR: 'it returns false'. Refute it at one input. -/
def fnExactCountGamesWrong : ChangeSpec := { name := "fnExactCountGames", fn := fun _ => fun
  | [d] => { results := [.lit (.bool false)], args := [d] }
  | _ => none }
def FnExactCountGamesWrongFalsely : Prop := fnExactCountGamesRow.holds Try.pinned (OpenSpec.ofChange fnExactCountGamesWrong)

/- THE SECOND FORM. 'bulk': how many values and letters a reading holds, each counted each time it is reached (what is shared counts as often as it is met; a slice's spare places count too). A statement '..UptoSaid' is the law's where the arguments, and the package variables that the reading takes, are together of bulk at most 1048576: NARROWER than '..Said'. Prove '..Said' where nothing that the law and all that it calls make is longer than what came in: it says more and counts as full. Else prove '..UptoSaid'. A law counts once. -/
mutual
def uptoBulk {H : Type} : DataW H → Nat
  | .lit (.string bytes) => bytes.length + 1
  | .lit _ => 1
  | .nil => 1
  | .ptr d => uptoBulk d + 1
  | .slice elems spare => uptoBulkAll elems + uptoBulkAll spare + 1
  | .agg parts => uptoBulkAll parts + 1
  | .iface _ d => uptoBulk d + 1
  | .map entries => uptoBulkEntries entries + 1
  | .held _ => 1
def uptoBulkAll {H : Type} : List (DataW H) → Nat
  | [] => 0
  | d :: r => uptoBulk d + uptoBulkAll r
def uptoBulkEntries {H : Type} : List (Lit × DataW H) → Nat
  | [] => 0
  | x :: r => uptoBulkEntry x + uptoBulkEntries r
def uptoBulkEntry {H : Type} : Lit × DataW H → Nat
  | (.string bytes, d) => bytes.length + uptoBulk d + 1
  | (_, d) => uptoBulk d + 1
 end
def uptoSmall : (H : Type) → List (DataW H) → Bool := fun _ ds => decide (uptoBulkAll ds ≤ 1048576)
def OpenSpec.upto (s : _root_.Go.ChangeSpec) : _root_.Go.OpenSpec := { _root_.Go.OpenSpec.ofChange s with cond := some uptoSmall }

/-- 'laws.FnExactIsWorth', WHERE WHAT IT READS IS OF BULK AT MOST 1048576: true; the input reads as it did. -/
def fnExactIsWorthUptoRow : OpenClaim := { program := "ytgilbenbaefgfaa", sum := "b598f9f2e285e2c18370db55d7254a04dcc13e59d0048dbd67d0e5ec540291ca", func := "loop.example/g01275/laws.FnExactIsWorth", spec := "fnExactIsWorth", unfollowed := true, recurses := true, plainKeys := false, apart := false, narrowed := true }
def FnExactIsWorthUptoSaid : Prop := fnExactIsWorthUptoRow.holds Try.pinned (OpenSpec.upto fnExactIsWorthSpec)

/-- 'laws.FnExactCompareMembers', WHERE WHAT IT READS IS OF BULK AT MOST 1048576: true; the input reads as it did. -/
def fnExactCompareMembersUptoRow : OpenClaim := { program := "ytgilbenbaefgfaa", sum := "b598f9f2e285e2c18370db55d7254a04dcc13e59d0048dbd67d0e5ec540291ca", func := "loop.example/g01275/laws.FnExactCompareMembers", spec := "fnExactCompareMembers", unfollowed := true, recurses := true, plainKeys := false, apart := false, narrowed := true }
def FnExactCompareMembersUptoSaid : Prop := fnExactCompareMembersUptoRow.holds Try.pinned (OpenSpec.upto fnExactCompareMembersSpec)

/-- 'laws.FnExactAreUnlike', WHERE WHAT IT READS IS OF BULK AT MOST 1048576: true; the input reads as it did. -/
def fnExactAreUnlikeUptoRow : OpenClaim := { program := "ytgilbenbaefgfaa", sum := "b598f9f2e285e2c18370db55d7254a04dcc13e59d0048dbd67d0e5ec540291ca", func := "loop.example/g01275/laws.FnExactAreUnlike", spec := "fnExactAreUnlike", unfollowed := true, recurses := true, plainKeys := false, apart := false, narrowed := true }
def FnExactAreUnlikeUptoSaid : Prop := fnExactAreUnlikeUptoRow.holds Try.pinned (OpenSpec.upto fnExactAreUnlikeSpec)

/-- 'laws.FnExactIsComplete', WHERE WHAT IT READS IS OF BULK AT MOST 1048576: true; the input reads as it did. -/
def fnExactIsCompleteUptoRow : OpenClaim := { program := "ytgilbenbaefgfaa", sum := "b598f9f2e285e2c18370db55d7254a04dcc13e59d0048dbd67d0e5ec540291ca", func := "loop.example/g01275/laws.FnExactIsComplete", spec := "fnExactIsComplete", unfollowed := true, recurses := true, plainKeys := false, apart := false, narrowed := true }
def FnExactIsCompleteUptoSaid : Prop := fnExactIsCompleteUptoRow.holds Try.pinned (OpenSpec.upto fnExactIsCompleteSpec)

/-- 'laws.FnExactUnderMembers', WHERE WHAT IT READS IS OF BULK AT MOST 1048576: true; the input reads as it did. -/
def fnExactUnderMembersUptoRow : OpenClaim := { program := "ytgilbenbaefgfaa", sum := "b598f9f2e285e2c18370db55d7254a04dcc13e59d0048dbd67d0e5ec540291ca", func := "loop.example/g01275/laws.FnExactUnderMembers", spec := "fnExactUnderMembers", unfollowed := true, recurses := true, plainKeys := false, apart := false, narrowed := true }
def FnExactUnderMembersUptoSaid : Prop := fnExactUnderMembersUptoRow.holds Try.pinned (OpenSpec.upto fnExactUnderMembersSpec)

/-- 'laws.FnExactWorthTable', WHERE WHAT IT READS IS OF BULK AT MOST 1048576: true; the input reads as it did. -/
def fnExactWorthTableUptoRow : OpenClaim := { program := "ytgilbenbaefgfaa", sum := "b598f9f2e285e2c18370db55d7254a04dcc13e59d0048dbd67d0e5ec540291ca", func := "loop.example/g01275/laws.FnExactWorthTable", spec := "fnExactWorthTable", unfollowed := true, recurses := true, plainKeys := false, apart := false, narrowed := true }
def FnExactWorthTableUptoSaid : Prop := fnExactWorthTableUptoRow.holds Try.pinned (OpenSpec.upto fnExactWorthTableSpec)

/-- 'laws.FnExactIsTrade', WHERE WHAT IT READS IS OF BULK AT MOST 1048576: true; the input reads as it did. -/
def fnExactIsTradeUptoRow : OpenClaim := { program := "ytgilbenbaefgfaa", sum := "b598f9f2e285e2c18370db55d7254a04dcc13e59d0048dbd67d0e5ec540291ca", func := "loop.example/g01275/laws.FnExactIsTrade", spec := "fnExactIsTrade", unfollowed := true, recurses := true, plainKeys := false, apart := false, narrowed := true }
def FnExactIsTradeUptoSaid : Prop := fnExactIsTradeUptoRow.holds Try.pinned (OpenSpec.upto fnExactIsTradeSpec)

/-- 'laws.FnExactCountGames', WHERE WHAT IT READS IS OF BULK AT MOST 1048576: true; the input reads as it did. -/
def fnExactCountGamesUptoRow : OpenClaim := { program := "ytgilbenbaefgfaa", sum := "b598f9f2e285e2c18370db55d7254a04dcc13e59d0048dbd67d0e5ec540291ca", func := "loop.example/g01275/laws.FnExactCountGames", spec := "fnExactCountGames", unfollowed := true, recurses := true, plainKeys := false, apart := false, narrowed := true }
def FnExactCountGamesUptoSaid : Prop := fnExactCountGamesUptoRow.holds Try.pinned (OpenSpec.upto fnExactCountGamesSpec)

end Rows
end Go.Proofs.Ytgilbenbaefgfaa
