/- Contract of the program's sum of numbers. -/
import Derived.Test.YtbkjogehcoobaaaW2
namespace Go.Proofs.Ytbkjogehcoobaaa
open Go.RowKit Vo

theorem Sl.congr {w : World} {b off n : Nat} {xs ys : List Int} (h : Sl w b off n xs) (e : ∀ j, j < n → xs.getD j 0 = ys.getD j 0) : Sl w b off n ys :=
  ⟨h.lt, fun j hj => by rw [h.cell j hj, e j hj]⟩

theorem sumK_bd2 {B : Int} {ws : List Int} {k : Nat} (h : InK 0 B ws k) : 0 ≤ sumK ws k ∧ sumK ws k ≤ B * k := by
  induction k with
  | zero => simp [sumK]
  | succ k ih =>
    have h1 := ih (h.mono (by omega)); have h2 := h k (by omega)
    simp only [sumK]
    rw [show (B * ((k + 1 : Nat) : Int)) = B * (k : Int) + B from by push_cast; rw [Int.mul_add]; simp]
    omega
end Go.Proofs.Ytbkjogehcoobaaa
