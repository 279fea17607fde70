/-
  No cell of these rows narrows 'for every input' (looked for: loops, veiled, ifaces, maps, wideKeys, modest, calm, conditions, laid).
  DERIVED. THE GIVEN ROWS OF THIS SEAT. 12 by the template 'for every input the law returns true; each argument reads behind the call as it read before'; 0 by the template 'total and deterministic' (their statements: YtlnlkfldlgchhaaTotals.lean).
  GIVEN WITH THE SEED: the statements are not yours to turn. If you find one false, say at which input.
  Laid BY PROGRAM, IN A SANDBOX (cutbox-rows.mjs): the forced cells as the released guide's own fill.sh prints them over the translation af0577b5ad3277fc… (all of the seat's roots in one cut). By AI agents, Wed Nov 11 2026. No macro, syntax, notation, axiom, sorry.
-/
import Derived.Test.YtlnlkfldlgchhaaChecked
import GoSem.Claim
import GoSem.ClaimJoined
import GoSem.ClaimMapViews
import Derived.JoinedTies
import Derived.KernelRfl
namespace Go.Proofs.Ytlnlkfldlgchhaa
/- THE CELL 'sum', in the pinned program and in every row, IS THE sha256 OF THE DUMP (.gsa) THAT YtlnlkfldlgchhaaProg.lean LOADS. Nothing in Lean hashes anything: it is a label: what it is worth is what the hold of that sum in a sandbox is worth. -/
noncomputable def Try.pinned : Pinned := { name := "ytlnlkfldlgchhaa", sum := "af0577b5ad3277fc955f26ac9e12a880d55c9d09ecf2bf4241e1ca9f3d2e4b18", checked := Try.checked }
namespace Rows
def none {H : Type} : Left H := { results := [], args := [] }

/-- 'laws.FnExactSwingsOf': WHATEVER THE INPUT: true; the input reads as it did. -/
def fnExactSwingsOfSpec : ChangeSpec := { name := "fnExactSwingsOf", fn := fun _ => fun
  | [d] => { results := [.lit (.bool true)], args := [d] }
  | _ => none }
def fnExactSwingsOfRow : OpenClaim := { program := "ytlnlkfldlgchhaa", sum := "af0577b5ad3277fc955f26ac9e12a880d55c9d09ecf2bf4241e1ca9f3d2e4b18", func := "loop.example/g01275/laws.FnExactSwingsOf", spec := "fnExactSwingsOf", unfollowed := true, recurses := true, apart := false }
def FnExactSwingsOfSaid : Prop := fnExactSwingsOfRow.holds Try.pinned (OpenSpec.ofChange fnExactSwingsOfSpec)

/-- ITS FALSE NEIGHBOUR: 'it returns false'. Refute it at one input. -/
def fnExactSwingsOfWrong : ChangeSpec := { name := "fnExactSwingsOf", fn := fun _ => fun
  | [d] => { results := [.lit (.bool false)], args := [d] }
  | _ => none }
def FnExactSwingsOfWrongFalsely : Prop := fnExactSwingsOfRow.holds Try.pinned (OpenSpec.ofChange fnExactSwingsOfWrong)

/-- 'laws.FnExactPivotCounts': WHATEVER THE INPUT: true; the input reads as it did. -/
def fnExactPivotCountsSpec : ChangeSpec := { name := "fnExactPivotCounts", fn := fun _ => fun
  | [d] => { results := [.lit (.bool true)], args := [d] }
  | _ => none }
def fnExactPivotCountsRow : OpenClaim := { program := "ytlnlkfldlgchhaa", sum := "af0577b5ad3277fc955f26ac9e12a880d55c9d09ecf2bf4241e1ca9f3d2e4b18", func := "loop.example/g01275/laws.FnExactPivotCounts", spec := "fnExactPivotCounts", unfollowed := true, recurses := true, apart := false }
def FnExactPivotCountsSaid : Prop := fnExactPivotCountsRow.holds Try.pinned (OpenSpec.ofChange fnExactPivotCountsSpec)

/-- ITS FALSE NEIGHBOUR: 'it returns false'. Refute it at one input. -/
def fnExactPivotCountsWrong : ChangeSpec := { name := "fnExactPivotCounts", fn := fun _ => fun
  | [d] => { results := [.lit (.bool false)], args := [d] }
  | _ => none }
def FnExactPivotCountsWrongFalsely : Prop := fnExactPivotCountsRow.holds Try.pinned (OpenSpec.ofChange fnExactPivotCountsWrong)

/-- 'laws.FnExactSwingsBySize': WHATEVER THE INPUT: true; the input reads as it did. -/
def fnExactSwingsBySizeSpec : ChangeSpec := { name := "fnExactSwingsBySize", fn := fun _ => fun
  | [d1, d2] => { results := [.lit (.bool true)], args := [d1, d2] }
  | _ => none }
def fnExactSwingsBySizeRow : OpenClaim := { program := "ytlnlkfldlgchhaa", sum := "af0577b5ad3277fc955f26ac9e12a880d55c9d09ecf2bf4241e1ca9f3d2e4b18", func := "loop.example/g01275/laws.FnExactSwingsBySize", spec := "fnExactSwingsBySize", unfollowed := true, recurses := true, apart := false }
def FnExactSwingsBySizeSaid : Prop := fnExactSwingsBySizeRow.holds Try.pinned (OpenSpec.ofChange fnExactSwingsBySizeSpec)

/-- ITS FALSE NEIGHBOUR: 'it returns false'. Refute it at one input. -/
def fnExactSwingsBySizeWrong : ChangeSpec := { name := "fnExactSwingsBySize", fn := fun _ => fun
  | [d1, d2] => { results := [.lit (.bool false)], args := [d1, d2] }
  | _ => none }
def FnExactSwingsBySizeWrongFalsely : Prop := fnExactSwingsBySizeRow.holds Try.pinned (OpenSpec.ofChange fnExactSwingsBySizeWrong)

/-- 'laws.FnExactDecidePower': WHATEVER THE INPUT: true; the input reads as it did. -/
def fnExactDecidePowerSpec : ChangeSpec := { name := "fnExactDecidePower", fn := fun _ => fun
  | [d] => { results := [.lit (.bool true)], args := [d] }
  | _ => none }
def fnExactDecidePowerRow : OpenClaim := { program := "ytlnlkfldlgchhaa", sum := "af0577b5ad3277fc955f26ac9e12a880d55c9d09ecf2bf4241e1ca9f3d2e4b18", func := "loop.example/g01275/laws.FnExactDecidePower", spec := "fnExactDecidePower", unfollowed := true, recurses := true, apart := false }
def FnExactDecidePowerSaid : Prop := fnExactDecidePowerRow.holds Try.pinned (OpenSpec.ofChange fnExactDecidePowerSpec)

/-- ITS FALSE NEIGHBOUR: 'it returns false'. Refute it at one input. -/
def fnExactDecidePowerWrong : ChangeSpec := { name := "fnExactDecidePower", fn := fun _ => fun
  | [d] => { results := [.lit (.bool false)], args := [d] }
  | _ => none }
def FnExactDecidePowerWrongFalsely : Prop := fnExactDecidePowerRow.holds Try.pinned (OpenSpec.ofChange fnExactDecidePowerWrong)

/-- 'laws.FnExactSwingPowers': WHATEVER THE INPUT: true; the input reads as it did. -/
def fnExactSwingPowersSpec : ChangeSpec := { name := "fnExactSwingPowers", fn := fun _ => fun
  | [d] => { results := [.lit (.bool true)], args := [d] }
  | _ => none }
def fnExactSwingPowersRow : OpenClaim := { program := "ytlnlkfldlgchhaa", sum := "af0577b5ad3277fc955f26ac9e12a880d55c9d09ecf2bf4241e1ca9f3d2e4b18", func := "loop.example/g01275/laws.FnExactSwingPowers", spec := "fnExactSwingPowers", unfollowed := true, recurses := true, apart := false }
def FnExactSwingPowersSaid : Prop := fnExactSwingPowersRow.holds Try.pinned (OpenSpec.ofChange fnExactSwingPowersSpec)

/-- ITS FALSE NEIGHBOUR: 'it returns false'. Refute it at one input. -/
def fnExactSwingPowersWrong : ChangeSpec := { name := "fnExactSwingPowers", fn := fun _ => fun
  | [d] => { results := [.lit (.bool false)], args := [d] }
  | _ => none }
def FnExactSwingPowersWrongFalsely : Prop := fnExactSwingPowersRow.holds Try.pinned (OpenSpec.ofChange fnExactSwingPowersWrong)

/-- 'laws.FnExactSwingShares': WHATEVER THE INPUT: true; the input reads as it did. -/
def fnExactSwingSharesSpec : ChangeSpec := { name := "fnExactSwingShares", fn := fun _ => fun
  | [d] => { results := [.lit (.bool true)], args := [d] }
  | _ => none }
def fnExactSwingSharesRow : OpenClaim := { program := "ytlnlkfldlgchhaa", sum := "af0577b5ad3277fc955f26ac9e12a880d55c9d09ecf2bf4241e1ca9f3d2e4b18", func := "loop.example/g01275/laws.FnExactSwingShares", spec := "fnExactSwingShares", unfollowed := true, recurses := true, apart := false }
def FnExactSwingSharesSaid : Prop := fnExactSwingSharesRow.holds Try.pinned (OpenSpec.ofChange fnExactSwingSharesSpec)

/-- ITS FALSE NEIGHBOUR: 'it returns false'. Refute it at one input. -/
def fnExactSwingSharesWrong : ChangeSpec := { name := "fnExactSwingShares", fn := fun _ => fun
  | [d] => { results := [.lit (.bool false)], args := [d] }
  | _ => none }
def FnExactSwingSharesWrongFalsely : Prop := fnExactSwingSharesRow.holds Try.pinned (OpenSpec.ofChange fnExactSwingSharesWrong)

/-- 'laws.FnExactOrderPowers': WHATEVER THE INPUT: true; the input reads as it did. -/
def fnExactOrderPowersSpec : ChangeSpec := { name := "fnExactOrderPowers", fn := fun _ => fun
  | [d] => { results := [.lit (.bool true)], args := [d] }
  | _ => none }
def fnExactOrderPowersRow : OpenClaim := { program := "ytlnlkfldlgchhaa", sum := "af0577b5ad3277fc955f26ac9e12a880d55c9d09ecf2bf4241e1ca9f3d2e4b18", func := "loop.example/g01275/laws.FnExactOrderPowers", spec := "fnExactOrderPowers", unfollowed := true, recurses := true, apart := false }
def FnExactOrderPowersSaid : Prop := fnExactOrderPowersRow.holds Try.pinned (OpenSpec.ofChange fnExactOrderPowersSpec)

/-- ITS FALSE NEIGHBOUR: 'it returns false'. Refute it at one input. -/
def fnExactOrderPowersWrong : ChangeSpec := { name := "fnExactOrderPowers", fn := fun _ => fun
  | [d] => { results := [.lit (.bool false)], args := [d] }
  | _ => none }
def FnExactOrderPowersWrongFalsely : Prop := fnExactOrderPowersRow.holds Try.pinned (OpenSpec.ofChange fnExactOrderPowersWrong)

/-- 'laws.FnExactBlockPowers': WHATEVER THE INPUT: true; the input reads as it did. -/
def fnExactBlockPowersSpec : ChangeSpec := { name := "fnExactBlockPowers", fn := fun _ => fun
  | [d] => { results := [.lit (.bool true)], args := [d] }
  | _ => none }
def fnExactBlockPowersRow : OpenClaim := { program := "ytlnlkfldlgchhaa", sum := "af0577b5ad3277fc955f26ac9e12a880d55c9d09ecf2bf4241e1ca9f3d2e4b18", func := "loop.example/g01275/laws.FnExactBlockPowers", spec := "fnExactBlockPowers", unfollowed := true, recurses := true, apart := false }
def FnExactBlockPowersSaid : Prop := fnExactBlockPowersRow.holds Try.pinned (OpenSpec.ofChange fnExactBlockPowersSpec)

/-- ITS FALSE NEIGHBOUR: 'it returns false'. Refute it at one input. -/
def fnExactBlockPowersWrong : ChangeSpec := { name := "fnExactBlockPowers", fn := fun _ => fun
  | [d] => { results := [.lit (.bool false)], args := [d] }
  | _ => none }
def FnExactBlockPowersWrongFalsely : Prop := fnExactBlockPowersRow.holds Try.pinned (OpenSpec.ofChange fnExactBlockPowersWrong)

/-- 'laws.FnExactStartPowers': WHATEVER THE INPUT: true; the input reads as it did. -/
def fnExactStartPowersSpec : ChangeSpec := { name := "fnExactStartPowers", fn := fun _ => fun
  | [d] => { results := [.lit (.bool true)], args := [d] }
  | _ => none }
def fnExactStartPowersRow : OpenClaim := { program := "ytlnlkfldlgchhaa", sum := "af0577b5ad3277fc955f26ac9e12a880d55c9d09ecf2bf4241e1ca9f3d2e4b18", func := "loop.example/g01275/laws.FnExactStartPowers", spec := "fnExactStartPowers", unfollowed := true, recurses := true, apart := false }
def FnExactStartPowersSaid : Prop := fnExactStartPowersRow.holds Try.pinned (OpenSpec.ofChange fnExactStartPowersSpec)

/-- ITS FALSE NEIGHBOUR: 'it returns false'. Refute it at one input. -/
def fnExactStartPowersWrong : ChangeSpec := { name := "fnExactStartPowers", fn := fun _ => fun
  | [d] => { results := [.lit (.bool false)], args := [d] }
  | _ => none }
def FnExactStartPowersWrongFalsely : Prop := fnExactStartPowersRow.holds Try.pinned (OpenSpec.ofChange fnExactStartPowersWrong)

/-- 'laws.FnExactAgreeChances': WHATEVER THE INPUT: true; the input reads as it did. -/
def fnExactAgreeChancesSpec : ChangeSpec := { name := "fnExactAgreeChances", fn := fun _ => fun
  | [d] => { results := [.lit (.bool true)], args := [d] }
  | _ => none }
def fnExactAgreeChancesRow : OpenClaim := { program := "ytlnlkfldlgchhaa", sum := "af0577b5ad3277fc955f26ac9e12a880d55c9d09ecf2bf4241e1ca9f3d2e4b18", func := "loop.example/g01275/laws.FnExactAgreeChances", spec := "fnExactAgreeChances", unfollowed := true, recurses := true, apart := false }
def FnExactAgreeChancesSaid : Prop := fnExactAgreeChancesRow.holds Try.pinned (OpenSpec.ofChange fnExactAgreeChancesSpec)

/-- ITS FALSE NEIGHBOUR: 'it returns false'. Refute it at one input. -/
def fnExactAgreeChancesWrong : ChangeSpec := { name := "fnExactAgreeChances", fn := fun _ => fun
  | [d] => { results := [.lit (.bool false)], args := [d] }
  | _ => none }
def FnExactAgreeChancesWrongFalsely : Prop := fnExactAgreeChancesRow.holds Try.pinned (OpenSpec.ofChange fnExactAgreeChancesWrong)

/-- 'laws.FnExactStrongestByOrders': WHATEVER THE INPUT: true; the input reads as it did. -/
def fnExactStrongestByOrdersSpec : ChangeSpec := { name := "fnExactStrongestByOrders", fn := fun _ => fun
  | [d] => { results := [.lit (.bool true)], args := [d] }
  | _ => none }
def fnExactStrongestByOrdersRow : OpenClaim := { program := "ytlnlkfldlgchhaa", sum := "af0577b5ad3277fc955f26ac9e12a880d55c9d09ecf2bf4241e1ca9f3d2e4b18", func := "loop.example/g01275/laws.FnExactStrongestByOrders", spec := "fnExactStrongestByOrders", unfollowed := true, recurses := true, apart := false }
def FnExactStrongestByOrdersSaid : Prop := fnExactStrongestByOrdersRow.holds Try.pinned (OpenSpec.ofChange fnExactStrongestByOrdersSpec)

/-- ITS FALSE NEIGHBOUR: 'it returns false'. Refute it at one input. -/
def fnExactStrongestByOrdersWrong : ChangeSpec := { name := "fnExactStrongestByOrders", fn := fun _ => fun
  | [d] => { results := [.lit (.bool false)], args := [d] }
  | _ => none }
def FnExactStrongestByOrdersWrongFalsely : Prop := fnExactStrongestByOrdersRow.holds Try.pinned (OpenSpec.ofChange fnExactStrongestByOrdersWrong)

/-- 'laws.FnExactPowerSigns': WHATEVER THE INPUT: true; the input reads as it did. -/
def fnExactPowerSignsSpec : ChangeSpec := { name := "fnExactPowerSigns", fn := fun _ => fun
  | [d] => { results := [.lit (.bool true)], args := [d] }
  | _ => none }
def fnExactPowerSignsRow : OpenClaim := { program := "ytlnlkfldlgchhaa", sum := "af0577b5ad3277fc955f26ac9e12a880d55c9d09ecf2bf4241e1ca9f3d2e4b18", func := "loop.example/g01275/laws.FnExactPowerSigns", spec := "fnExactPowerSigns", unfollowed := true, recurses := true, apart := false }
def FnExactPowerSignsSaid : Prop := fnExactPowerSignsRow.holds Try.pinned (OpenSpec.ofChange fnExactPowerSignsSpec)

/-- ITS FALSE NEIGHBOUR: 'it returns false'. Refute it at one input. -/
def fnExactPowerSignsWrong : ChangeSpec := { name := "fnExactPowerSigns", fn := fun _ => fun
  | [d] => { results := [.lit (.bool false)], args := [d] }
  | _ => none }
def FnExactPowerSignsWrongFalsely : Prop := fnExactPowerSignsRow.holds Try.pinned (OpenSpec.ofChange fnExactPowerSignsWrong)

/- THE SECOND FORM. 'bulk': how many values and letters a reading holds, each counted each time it is reached (what is shared counts as often as it is met; a slice's spare places count too). A statement '..UptoSaid' is the law's where the arguments, and the package variables that the reading takes, are together of bulk at most 1048576: NARROWER than '..Said'. Prove '..Said' where nothing that the law and all that it calls make is longer than what came in: it says more and counts as full. Else prove '..UptoSaid'. A law counts once. -/
mutual
def uptoBulk {H : Type} : DataW H → Nat
  | .lit (.string bytes) => bytes.length + 1
  | .lit _ => 1
  | .nil => 1
  | .ptr d => uptoBulk d + 1
  | .slice elems spare => uptoBulkAll elems + uptoBulkAll spare + 1
  | .agg parts => uptoBulkAll parts + 1
  | .iface _ d => uptoBulk d + 1
  | .map entries => uptoBulkEntries entries + 1
  | .held _ => 1
def uptoBulkAll {H : Type} : List (DataW H) → Nat
  | [] => 0
  | d :: r => uptoBulk d + uptoBulkAll r
def uptoBulkEntries {H : Type} : List (Lit × DataW H) → Nat
  | [] => 0
  | x :: r => uptoBulkEntry x + uptoBulkEntries r
def uptoBulkEntry {H : Type} : Lit × DataW H → Nat
  | (.string bytes, d) => bytes.length + uptoBulk d + 1
  | (_, d) => uptoBulk d + 1
 end
def uptoSmall : (H : Type) → List (DataW H) → Bool := fun _ ds => decide (uptoBulkAll ds ≤ 1048576)
def OpenSpec.upto (s : _root_.Go.ChangeSpec) : _root_.Go.OpenSpec := { _root_.Go.OpenSpec.ofChange s with cond := some uptoSmall }

/-- 'laws.FnExactSwingsOf', WHERE WHAT IT READS IS OF BULK AT MOST 1048576: true; the input reads as it did. -/
def fnExactSwingsOfUptoRow : OpenClaim := { program := "ytlnlkfldlgchhaa", sum := "af0577b5ad3277fc955f26ac9e12a880d55c9d09ecf2bf4241e1ca9f3d2e4b18", func := "loop.example/g01275/laws.FnExactSwingsOf", spec := "fnExactSwingsOf", unfollowed := true, recurses := true, apart := false, narrowed := true }
def FnExactSwingsOfUptoSaid : Prop := fnExactSwingsOfUptoRow.holds Try.pinned (OpenSpec.upto fnExactSwingsOfSpec)

/-- 'laws.FnExactPivotCounts', WHERE WHAT IT READS IS OF BULK AT MOST 1048576: true; the input reads as it did. -/
def fnExactPivotCountsUptoRow : OpenClaim := { program := "ytlnlkfldlgchhaa", sum := "af0577b5ad3277fc955f26ac9e12a880d55c9d09ecf2bf4241e1ca9f3d2e4b18", func := "loop.example/g01275/laws.FnExactPivotCounts", spec := "fnExactPivotCounts", unfollowed := true, recurses := true, apart := false, narrowed := true }
def FnExactPivotCountsUptoSaid : Prop := fnExactPivotCountsUptoRow.holds Try.pinned (OpenSpec.upto fnExactPivotCountsSpec)

/-- 'laws.FnExactSwingsBySize', WHERE WHAT IT READS IS OF BULK AT MOST 1048576: true; the input reads as it did. -/
def fnExactSwingsBySizeUptoRow : OpenClaim := { program := "ytlnlkfldlgchhaa", sum := "af0577b5ad3277fc955f26ac9e12a880d55c9d09ecf2bf4241e1ca9f3d2e4b18", func := "loop.example/g01275/laws.FnExactSwingsBySize", spec := "fnExactSwingsBySize", unfollowed := true, recurses := true, apart := false, narrowed := true }
def FnExactSwingsBySizeUptoSaid : Prop := fnExactSwingsBySizeUptoRow.holds Try.pinned (OpenSpec.upto fnExactSwingsBySizeSpec)

/-- 'laws.FnExactDecidePower', WHERE WHAT IT READS IS OF BULK AT MOST 1048576: true; the input reads as it did. -/
def fnExactDecidePowerUptoRow : OpenClaim := { program := "ytlnlkfldlgchhaa", sum := "af0577b5ad3277fc955f26ac9e12a880d55c9d09ecf2bf4241e1ca9f3d2e4b18", func := "loop.example/g01275/laws.FnExactDecidePower", spec := "fnExactDecidePower", unfollowed := true, recurses := true, apart := false, narrowed := true }
def FnExactDecidePowerUptoSaid : Prop := fnExactDecidePowerUptoRow.holds Try.pinned (OpenSpec.upto fnExactDecidePowerSpec)

/-- 'laws.FnExactSwingPowers', WHERE WHAT IT READS IS OF BULK AT MOST 1048576: true; the input reads as it did. -/
def fnExactSwingPowersUptoRow : OpenClaim := { program := "ytlnlkfldlgchhaa", sum := "af0577b5ad3277fc955f26ac9e12a880d55c9d09ecf2bf4241e1ca9f3d2e4b18", func := "loop.example/g01275/laws.FnExactSwingPowers", spec := "fnExactSwingPowers", unfollowed := true, recurses := true, apart := false, narrowed := true }
def FnExactSwingPowersUptoSaid : Prop := fnExactSwingPowersUptoRow.holds Try.pinned (OpenSpec.upto fnExactSwingPowersSpec)

/-- 'laws.FnExactSwingShares', WHERE WHAT IT READS IS OF BULK AT MOST 1048576: true; the input reads as it did. -/
def fnExactSwingSharesUptoRow : OpenClaim := { program := "ytlnlkfldlgchhaa", sum := "af0577b5ad3277fc955f26ac9e12a880d55c9d09ecf2bf4241e1ca9f3d2e4b18", func := "loop.example/g01275/laws.FnExactSwingShares", spec := "fnExactSwingShares", unfollowed := true, recurses := true, apart := false, narrowed := true }
def FnExactSwingSharesUptoSaid : Prop := fnExactSwingSharesUptoRow.holds Try.pinned (OpenSpec.upto fnExactSwingSharesSpec)

/-- 'laws.FnExactOrderPowers', WHERE WHAT IT READS IS OF BULK AT MOST 1048576: true; the input reads as it did. -/
def fnExactOrderPowersUptoRow : OpenClaim := { program := "ytlnlkfldlgchhaa", sum := "af0577b5ad3277fc955f26ac9e12a880d55c9d09ecf2bf4241e1ca9f3d2e4b18", func := "loop.example/g01275/laws.FnExactOrderPowers", spec := "fnExactOrderPowers", unfollowed := true, recurses := true, apart := false, narrowed := true }
def FnExactOrderPowersUptoSaid : Prop := fnExactOrderPowersUptoRow.holds Try.pinned (OpenSpec.upto fnExactOrderPowersSpec)

/-- 'laws.FnExactBlockPowers', WHERE WHAT IT READS IS OF BULK AT MOST 1048576: true; the input reads as it did. -/
def fnExactBlockPowersUptoRow : OpenClaim := { program := "ytlnlkfldlgchhaa", sum := "af0577b5ad3277fc955f26ac9e12a880d55c9d09ecf2bf4241e1ca9f3d2e4b18", func := "loop.example/g01275/laws.FnExactBlockPowers", spec := "fnExactBlockPowers", unfollowed := true, recurses := true, apart := false, narrowed := true }
def FnExactBlockPowersUptoSaid : Prop := fnExactBlockPowersUptoRow.holds Try.pinned (OpenSpec.upto fnExactBlockPowersSpec)

/-- 'laws.FnExactStartPowers', WHERE WHAT IT READS IS OF BULK AT MOST 1048576: true; the input reads as it did. -/
def fnExactStartPowersUptoRow : OpenClaim := { program := "ytlnlkfldlgchhaa", sum := "af0577b5ad3277fc955f26ac9e12a880d55c9d09ecf2bf4241e1ca9f3d2e4b18", func := "loop.example/g01275/laws.FnExactStartPowers", spec := "fnExactStartPowers", unfollowed := true, recurses := true, apart := false, narrowed := true }
def FnExactStartPowersUptoSaid : Prop := fnExactStartPowersUptoRow.holds Try.pinned (OpenSpec.upto fnExactStartPowersSpec)

/-- 'laws.FnExactAgreeChances', WHERE WHAT IT READS IS OF BULK AT MOST 1048576: true; the input reads as it did. -/
def fnExactAgreeChancesUptoRow : OpenClaim := { program := "ytlnlkfldlgchhaa", sum := "af0577b5ad3277fc955f26ac9e12a880d55c9d09ecf2bf4241e1ca9f3d2e4b18", func := "loop.example/g01275/laws.FnExactAgreeChances", spec := "fnExactAgreeChances", unfollowed := true, recurses := true, apart := false, narrowed := true }
def FnExactAgreeChancesUptoSaid : Prop := fnExactAgreeChancesUptoRow.holds Try.pinned (OpenSpec.upto fnExactAgreeChancesSpec)

/-- 'laws.FnExactStrongestByOrders', WHERE WHAT IT READS IS OF BULK AT MOST 1048576: true; the input reads as it did. -/
def fnExactStrongestByOrdersUptoRow : OpenClaim := { program := "ytlnlkfldlgchhaa", sum := "af0577b5ad3277fc955f26ac9e12a880d55c9d09ecf2bf4241e1ca9f3d2e4b18", func := "loop.example/g01275/laws.FnExactStrongestByOrders", spec := "fnExactStrongestByOrders", unfollowed := true, recurses := true, apart := false, narrowed := true }
def FnExactStrongestByOrdersUptoSaid : Prop := fnExactStrongestByOrdersUptoRow.holds Try.pinned (OpenSpec.upto fnExactStrongestByOrdersSpec)

/-- 'laws.FnExactPowerSigns', WHERE WHAT IT READS IS OF BULK AT MOST 1048576: true; the input reads as it did. -/
def fnExactPowerSignsUptoRow : OpenClaim := { program := "ytlnlkfldlgchhaa", sum := "af0577b5ad3277fc955f26ac9e12a880d55c9d09ecf2bf4241e1ca9f3d2e4b18", func := "loop.example/g01275/laws.FnExactPowerSigns", spec := "fnExactPowerSigns", unfollowed := true, recurses := true, apart := false, narrowed := true }
def FnExactPowerSignsUptoSaid : Prop := fnExactPowerSignsUptoRow.holds Try.pinned (OpenSpec.upto fnExactPowerSignsSpec)

end Rows
end Go.Proofs.Ytlnlkfldlgchhaa
