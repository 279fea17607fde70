/- The model's order of sets, and sets put in order. -/
import Derived.Test.YtlnlkfldlgchhaaR7
import Derived.Deep.AppendLies
namespace Go.Proofs.Ytlnlkfldlgchhaa
open Go.RowKit Vo

theorem before_short {a b : List Int} (h : a.length = 0 ∨ b.length = 0) : before a b = decide (a.length < b.length) := by
  cases a <;> cases b <;> simp [before] at h ⊢
theorem before_drop {a b : List Int} {j : Nat} (ha : j < a.length) (hb : j < b.length) :
    before (a.drop j) (b.drop j) = if a.getD j 0 = b.getD j 0 then before (a.drop (j+1)) (b.drop (j+1)) else decide (a.getD j 0 < b.getD j 0) := by
  rw [List.drop_eq_getElem_cons ha, List.drop_eq_getElem_cons hb]
  simp [before, List.getD_eq_getElem?_getD, ha, hb]
theorem before_end {a b : List Int} {j : Nat} (ha : j ≤ a.length) (hb : j ≤ b.length) (h : a.length ≤ j ∨ b.length ≤ j) : before (a.drop j) (b.drop j) = decide (a.length < b.length) := by
  rw [before_short (by simp only [List.length_drop]; omega)]
  simp only [List.length_drop]
  congr 1
  exact propext (by omega)
end Go.Proofs.Ytlnlkfldlgchhaa
