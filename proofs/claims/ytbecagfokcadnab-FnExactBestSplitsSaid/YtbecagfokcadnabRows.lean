/-
  No cell of these rows narrows 'for every input' (looked for: loops, veiled, ifaces, maps, wideKeys, modest, calm, conditions, laid).
  DERIVED. THE GIVEN ROWS OF THIS SEAT. 5 by the template 'for every input the law returns true; each argument reads behind the call as it read before'; 0 by the template 'total and deterministic' (their statements: YtbecagfokcadnabTotals.lean).
  GIVEN WITH THE SEED: the statements are not yours to turn. If you find one false, say at which input.
  Laid BY PROGRAM, IN A SANDBOX (cutbox-rows.mjs): the forced cells as the released guide's own fill.sh prints them over the translation 766a85026168cd48… (all of the seat's roots in one cut). By AI agents, Wed Nov 11 2026. No macro, syntax, notation, axiom, sorry.
-/
import Derived.Test.YtbecagfokcadnabChecked
import GoSem.Claim
import GoSem.ClaimJoined
import GoSem.ClaimMapViews
import Derived.JoinedTies
import Derived.KernelRfl
namespace Go.Proofs.Ytbecagfokcadnab
/- THE CELL 'sum', in the pinned program and in every row, IS THE sha256 OF THE DUMP (.gsa) THAT YtbecagfokcadnabProg.lean LOADS. Nothing in Lean hashes anything: it is a label: what it is worth is what the hold of that sum in a sandbox is worth. -/
noncomputable def Try.pinned : Pinned := { name := "ytbecagfokcadnab", sum := "766a85026168cd489a0a0dfb42365f2dc00485b4efc9a667154aee00bbbcf15c", checked := Try.checked }
namespace Rows
def none {H : Type} : Left H := { results := [], args := [] }

/-- 'laws.FnExactBestSplits': WHATEVER THE INPUT: true; the input reads as it did. -/
def fnExactBestSplitsSpec : ChangeSpec := { name := "fnExactBestSplits", fn := fun _ => fun
  | [d1, d2] => { results := [.lit (.bool true)], args := [d1, d2] }
  | _ => none }
def fnExactBestSplitsRow : OpenClaim := { program := "ytbecagfokcadnab", sum := "766a85026168cd489a0a0dfb42365f2dc00485b4efc9a667154aee00bbbcf15c", func := "loop.example/g01275/laws.FnExactBestSplits", spec := "fnExactBestSplits", unfollowed := true, recurses := true, apart := false }
def FnExactBestSplitsSaid : Prop := fnExactBestSplitsRow.holds Try.pinned (OpenSpec.ofChange fnExactBestSplitsSpec)

/-- ITS FALSE NEIGHBOUR: 'it returns false'. Refute it at one input. -/
def fnExactBestSplitsWrong : ChangeSpec := { name := "fnExactBestSplits", fn := fun _ => fun
  | [d1, d2] => { results := [.lit (.bool false)], args := [d1, d2] }
  | _ => none }
def FnExactBestSplitsWrongFalsely : Prop := fnExactBestSplitsRow.holds Try.pinned (OpenSpec.ofChange fnExactBestSplitsWrong)

/-- 'laws.FnExactRaiseQuota': WHATEVER THE INPUT: true; the input reads as it did. -/
def fnExactRaiseQuotaSpec : ChangeSpec := { name := "fnExactRaiseQuota", fn := fun _ => fun
  | [d1, d2] => { results := [.lit (.bool true)], args := [d1, d2] }
  | _ => none }
def fnExactRaiseQuotaRow : OpenClaim := { program := "ytbecagfokcadnab", sum := "766a85026168cd489a0a0dfb42365f2dc00485b4efc9a667154aee00bbbcf15c", func := "loop.example/g01275/laws.FnExactRaiseQuota", spec := "fnExactRaiseQuota", apart := false }
def FnExactRaiseQuotaSaid : Prop := fnExactRaiseQuotaRow.holds Try.pinned (OpenSpec.ofChange fnExactRaiseQuotaSpec)

/-- ITS FALSE NEIGHBOUR: 'it returns false'. Refute it at one input. -/
def fnExactRaiseQuotaWrong : ChangeSpec := { name := "fnExactRaiseQuota", fn := fun _ => fun
  | [d1, d2] => { results := [.lit (.bool false)], args := [d1, d2] }
  | _ => none }
def FnExactRaiseQuotaWrongFalsely : Prop := fnExactRaiseQuotaRow.holds Try.pinned (OpenSpec.ofChange fnExactRaiseQuotaWrong)

/-- 'laws.FnExactQuotasOfPower': WHATEVER THE INPUT: true; the input reads as it did. -/
def fnExactQuotasOfPowerSpec : ChangeSpec := { name := "fnExactQuotasOfPower", fn := fun _ => fun
  | [d1, d2] => { results := [.lit (.bool true)], args := [d1, d2] }
  | _ => none }
def fnExactQuotasOfPowerRow : OpenClaim := { program := "ytbecagfokcadnab", sum := "766a85026168cd489a0a0dfb42365f2dc00485b4efc9a667154aee00bbbcf15c", func := "loop.example/g01275/laws.FnExactQuotasOfPower", spec := "fnExactQuotasOfPower", unfollowed := true, recurses := true, apart := false }
def FnExactQuotasOfPowerSaid : Prop := fnExactQuotasOfPowerRow.holds Try.pinned (OpenSpec.ofChange fnExactQuotasOfPowerSpec)

/-- ITS FALSE NEIGHBOUR: 'it returns false'. Refute it at one input. -/
def fnExactQuotasOfPowerWrong : ChangeSpec := { name := "fnExactQuotasOfPower", fn := fun _ => fun
  | [d1, d2] => { results := [.lit (.bool false)], args := [d1, d2] }
  | _ => none }
def FnExactQuotasOfPowerWrongFalsely : Prop := fnExactQuotasOfPowerRow.holds Try.pinned (OpenSpec.ofChange fnExactQuotasOfPowerWrong)

/-- 'laws.FnExactCountGames': WHATEVER THE INPUT: true; the input reads as it did. -/
def fnExactCountGamesSpec : ChangeSpec := { name := "fnExactCountGames", fn := fun _ => fun
  | [d] => { results := [.lit (.bool true)], args := [d] }
  | _ => none }
def fnExactCountGamesRow : OpenClaim := { program := "ytbecagfokcadnab", sum := "766a85026168cd489a0a0dfb42365f2dc00485b4efc9a667154aee00bbbcf15c", func := "loop.example/g01275/laws.FnExactCountGames", spec := "fnExactCountGames", unfollowed := true, recurses := true, apart := false }
def FnExactCountGamesSaid : Prop := fnExactCountGamesRow.holds Try.pinned (OpenSpec.ofChange fnExactCountGamesSpec)

/-- ITS FALSE NEIGHBOUR: 'it returns false'. Refute it at one input. -/
def fnExactCountGamesWrong : ChangeSpec := { name := "fnExactCountGames", fn := fun _ => fun
  | [d] => { results := [.lit (.bool false)], args := [d] }
  | _ => none }
def FnExactCountGamesWrongFalsely : Prop := fnExactCountGamesRow.holds Try.pinned (OpenSpec.ofChange fnExactCountGamesWrong)

/-- 'laws.FnExactCountProperGames': WHATEVER THE INPUT: true; the input reads as it did. -/
def fnExactCountProperGamesSpec : ChangeSpec := { name := "fnExactCountProperGames", fn := fun _ => fun
  | [d] => { results := [.lit (.bool true)], args := [d] }
  | _ => none }
def fnExactCountProperGamesRow : OpenClaim := { program := "ytbecagfokcadnab", sum := "766a85026168cd489a0a0dfb42365f2dc00485b4efc9a667154aee00bbbcf15c", func := "loop.example/g01275/laws.FnExactCountProperGames", spec := "fnExactCountProperGames", unfollowed := true, recurses := true, apart := false }
def FnExactCountProperGamesSaid : Prop := fnExactCountProperGamesRow.holds Try.pinned (OpenSpec.ofChange fnExactCountProperGamesSpec)

/-- ITS FALSE NEIGHBOUR: 'it returns false'. Refute it at one input. -/
def fnExactCountProperGamesWrong : ChangeSpec := { name := "fnExactCountProperGames", fn := fun _ => fun
  | [d] => { results := [.lit (.bool false)], args := [d] }
  | _ => none }
def FnExactCountProperGamesWrongFalsely : Prop := fnExactCountProperGamesRow.holds Try.pinned (OpenSpec.ofChange fnExactCountProperGamesWrong)

/- THE SECOND FORM. 'bulk': how many values and letters a reading holds, each counted each time it is reached (what is shared counts as often as it is met; a slice's spare places count too). A statement '..UptoSaid' is the law's where the arguments, and the package variables that the reading takes, are together of bulk at most 1048576: NARROWER than '..Said'. Prove '..Said' where nothing that the law and all that it calls make is longer than what came in: it says more and counts as full. Else prove '..UptoSaid'. A law counts once. -/
mutual
def uptoBulk {H : Type} : DataW H → Nat
  | .lit (.string bytes) => bytes.length + 1
  | .lit _ => 1
  | .nil => 1
  | .ptr d => uptoBulk d + 1
  | .slice elems spare => uptoBulkAll elems + uptoBulkAll spare + 1
  | .agg parts => uptoBulkAll parts + 1
  | .iface _ d => uptoBulk d + 1
  | .map entries => uptoBulkEntries entries + 1
  | .held _ => 1
def uptoBulkAll {H : Type} : List (DataW H) → Nat
  | [] => 0
  | d :: r => uptoBulk d + uptoBulkAll r
def uptoBulkEntries {H : Type} : List (Lit × DataW H) → Nat
  | [] => 0
  | x :: r => uptoBulkEntry x + uptoBulkEntries r
def uptoBulkEntry {H : Type} : Lit × DataW H → Nat
  | (.string bytes, d) => bytes.length + uptoBulk d + 1
  | (_, d) => uptoBulk d + 1
 end
def uptoSmall : (H : Type) → List (DataW H) → Bool := fun _ ds => decide (uptoBulkAll ds ≤ 1048576)
def OpenSpec.upto (s : _root_.Go.ChangeSpec) : _root_.Go.OpenSpec := { _root_.Go.OpenSpec.ofChange s with cond := some uptoSmall }

/-- 'laws.FnExactBestSplits', WHERE WHAT IT READS IS OF BULK AT MOST 1048576: true; the input reads as it did. -/
def fnExactBestSplitsUptoRow : OpenClaim := { program := "ytbecagfokcadnab", sum := "766a85026168cd489a0a0dfb42365f2dc00485b4efc9a667154aee00bbbcf15c", func := "loop.example/g01275/laws.FnExactBestSplits", spec := "fnExactBestSplits", unfollowed := true, recurses := true, apart := false, narrowed := true }
def FnExactBestSplitsUptoSaid : Prop := fnExactBestSplitsUptoRow.holds Try.pinned (OpenSpec.upto fnExactBestSplitsSpec)

/-- 'laws.FnExactRaiseQuota', WHERE WHAT IT READS IS OF BULK AT MOST 1048576: true; the input reads as it did. -/
def fnExactRaiseQuotaUptoRow : OpenClaim := { program := "ytbecagfokcadnab", sum := "766a85026168cd489a0a0dfb42365f2dc00485b4efc9a667154aee00bbbcf15c", func := "loop.example/g01275/laws.FnExactRaiseQuota", spec := "fnExactRaiseQuota", apart := false, narrowed := true }
def FnExactRaiseQuotaUptoSaid : Prop := fnExactRaiseQuotaUptoRow.holds Try.pinned (OpenSpec.upto fnExactRaiseQuotaSpec)

/-- 'laws.FnExactQuotasOfPower', WHERE WHAT IT READS IS OF BULK AT MOST 1048576: true; the input reads as it did. -/
def fnExactQuotasOfPowerUptoRow : OpenClaim := { program := "ytbecagfokcadnab", sum := "766a85026168cd489a0a0dfb42365f2dc00485b4efc9a667154aee00bbbcf15c", func := "loop.example/g01275/laws.FnExactQuotasOfPower", spec := "fnExactQuotasOfPower", unfollowed := true, recurses := true, apart := false, narrowed := true }
def FnExactQuotasOfPowerUptoSaid : Prop := fnExactQuotasOfPowerUptoRow.holds Try.pinned (OpenSpec.upto fnExactQuotasOfPowerSpec)

/-- 'laws.FnExactCountGames', WHERE WHAT IT READS IS OF BULK AT MOST 1048576: true; the input reads as it did. -/
def fnExactCountGamesUptoRow : OpenClaim := { program := "ytbecagfokcadnab", sum := "766a85026168cd489a0a0dfb42365f2dc00485b4efc9a667154aee00bbbcf15c", func := "loop.example/g01275/laws.FnExactCountGames", spec := "fnExactCountGames", unfollowed := true, recurses := true, apart := false, narrowed := true }
def FnExactCountGamesUptoSaid : Prop := fnExactCountGamesUptoRow.holds Try.pinned (OpenSpec.upto fnExactCountGamesSpec)

/-- 'laws.FnExactCountProperGames', WHERE WHAT IT READS IS OF BULK AT MOST 1048576: true; the input reads as it did. -/
def fnExactCountProperGamesUptoRow : OpenClaim := { program := "ytbecagfokcadnab", sum := "766a85026168cd489a0a0dfb42365f2dc00485b4efc9a667154aee00bbbcf15c", func := "loop.example/g01275/laws.FnExactCountProperGames", spec := "fnExactCountProperGames", unfollowed := true, recurses := true, apart := false, narrowed := true }
def FnExactCountProperGamesUptoSaid : Prop := fnExactCountProperGamesUptoRow.holds Try.pinned (OpenSpec.upto fnExactCountProperGamesSpec)

end Rows
end Go.Proofs.Ytbecagfokcadnab
