/- Contracts of the model's SwingShares and AgreeChances. -/
import Derived.Outline
import Derived.Test.YtlnlkfldlgchhabN9
import Derived.Test.YtlnlkfldlgchhabN7
namespace Go.Proofs.Ytlnlkfldlgchhab
open Go.RowKit Vo

theorem cnt_not (p : Nat → Bool) (N : Nat) : cnt (fun s => !p s) N + cnt p N = N := by
  induction N with
  | zero => rfl
  | succ N ih => 
    simp only [cnt]
    by_cases h : p N = true
    · simp [h]; omega
    · simp at h; simp [h]; omega

end Go.Proofs.Ytlnlkfldlgchhab

namespace Go.Proofs.Ytlnlkfldlgchhab
open Go.RowKit Vo

theorem sumK_perL (f : Nat → Nat) {n k : Nat} (h : k ≤ n) : sumK (perL f n) k = ((sumN f k : Nat) : Int) := by
  induction k with
  | zero => rfl
  | succ k ih => simp only [sumK, sumN]; rw [ih (by omega), perL_get (by omega)]; simp
theorem inK_perL {f : Nat → Nat} {n : Nat} (h : ∀ k, f k ≤ 1000) : InK 0 1000 (perL f n) n := by
  intro j hj
  rw [perL_get hj]
  have := h j
  omega

end Go.Proofs.Ytlnlkfldlgchhab
