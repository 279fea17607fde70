/- Contracts of TotalWeight, WeightOfSet, IsWinning, IsBlocking. -/
import Derived.Test.YtnldodnpakpeeaaW2
namespace Go.Proofs.Ytnldodnpakpeeaa
open Go.RowKit Vo

theorem Sl.congr {w : World} {b off n : Nat} {xs ys : List Int} (h : Sl w b off n xs) (e : ∀ j, j < n → xs.getD j 0 = ys.getD j 0) : Sl w b off n ys :=
  ⟨h.lt, fun j hj => by rw [h.cell j hj, e j hj]⟩

theorem sumK_bd2 {B : Int} {ws : List Int} {k : Nat} (h : InK 0 B ws k) : 0 ≤ sumK ws k ∧ sumK ws k ≤ B * k := by
  induction k with
  | zero => simp [sumK]
  | succ k ih =>
    have h1 := ih (h.mono (by omega)); have h2 := h k (by omega)
    simp only [sumK]
    rw [show (B * ((k + 1 : Nat) : Int)) = B * (k : Int) + B from by push_cast; rw [Int.mul_add]; simp]
    omega
end Go.Proofs.Ytnldodnpakpeeaa

namespace Go.Proofs.Ytnldodnpakpeeaa
open Go.RowKit Vo

def totB (q : Int) (ws : List Int) (n : Nat) : Int := if goodB q ws n then sumK ws n else 0
theorem totB_yes {q ws n} (h : goodB q ws n = true) : totB q ws n = sumK ws n := if_pos h
theorem totB_no {q ws n} (h : goodB q ws n = false) : totB q ws n = 0 := if_neg (by rw [h]; simp)
def wtB (q : Int) (ws : List Int) (n : Nat) (xs : List Int) (m : Nat) : Int := if okB q ws n xs m then wtK ws (ofK xs m) n else 0
theorem wtB_yes {q ws n xs m} (h : okB q ws n xs m = true) : wtB q ws n xs m = wtK ws (ofK xs m) n := if_pos h
theorem wtB_no {q ws n xs m} (h : okB q ws n xs m = false) : wtB q ws n xs m = 0 := if_neg (by rw [h]; simp)
theorem okB_parts {q : Int} {ws : List Int} {n : Nat} {xs : List Int} {m : Nat} (h : okB q ws n xs m = true) : Vo.Good q ws n ∧ RiseK n xs m := by
  unfold okB goodB riseB at h
  simpa using h

end Go.Proofs.Ytnldodnpakpeeaa
