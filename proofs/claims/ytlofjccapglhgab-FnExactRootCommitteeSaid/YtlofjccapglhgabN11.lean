/- Contracts of the model's SwingShares and AgreeChances. -/
import Derived.Test.YtlofjccapglhgabN10
import Derived.Outline
namespace Go.Proofs.Ytlofjccapglhgab
open Go.RowKit Vo

theorem sumK_perL (f : Nat → Nat) {n k : Nat} (h : k ≤ n) : sumK (perL f n) k = ((sumN f k : Nat) : Int) := by
  induction k with
  | zero => rfl
  | succ k ih => simp only [sumK, sumN]; rw [ih (by omega), perL_get (by omega)]; simp
theorem inK_perL {f : Nat → Nat} {n : Nat} (h : ∀ k, f k ≤ 1000) : InK 0 1000 (perL f n) n := by
  intro j hj
  rw [perL_get hj]
  have := h j
  omega

end Go.Proofs.Ytlofjccapglhgab
