/- Plain facts on whole square roots; nothing of any program. -/
import Derived.Test.YtlofjccapglhgabMath
namespace Go.Proofs.Ytlofjccapglhgab.Vo

theorem cnt_below (r N : Nat) : cnt (fun k => decide (k < r)) N = min r N := by
  induction N with
  | zero => simp [cnt]
  | succ N ih =>
    simp only [cnt]; rw [ih]
    by_cases h : N < r
    · simp [h]; omega
    · simp [h]; omega
/-- The whole square root, rounded down. -/
def rt (n : Nat) : Nat := cnt (fun k => decide ((k+1)*(k+1) ≤ n)) (n+1)
theorem sq_mono {a b : Nat} (h : a ≤ b) : a * a ≤ b * b := Nat.mul_le_mul h h
theorem rt_eq {n r : Nat} (h1 : r * r ≤ n) (h2 : n < (r+1)*(r+1)) : rt n = r := by
  unfold rt
  have hr : r ≤ n := by
    rcases Nat.eq_zero_or_pos r with h | h
    · omega
    · exact Nat.le_trans (Nat.le_mul_of_pos_left r h) h1
  rw [cnt_congr (q := fun k => decide (k < r)) fun j _ => by
    by_cases h : j < r
    · have := sq_mono (show j + 1 ≤ r from h)
      simp [h]; omega
    · have := sq_mono (show r + 1 ≤ j + 1 by omega)
      simp [h]; omega, cnt_below]
  omega
theorem rt_ex (n : Nat) : ∃ r, r * r ≤ n ∧ n < (r+1)*(r+1) := by
  induction n with
  | zero => exact ⟨0, by simp, by simp⟩
  | succ n ih =>
    obtain ⟨r, h1, h2⟩ := ih
    by_cases h : n + 1 < (r+1)*(r+1)
    · exact ⟨r, by omega, h⟩
    · refine ⟨r+1, by omega, ?_⟩
      have e : (r+1+1)*(r+1+1) = (r+1)*(r+1) + 2*(r+1) + 1 := by rw [Nat.add_mul, Nat.mul_add, Nat.mul_add]; omega
      omega
theorem rt_spec (n : Nat) : rt n * rt n ≤ n ∧ n < (rt n + 1)*(rt n + 1) := by
  obtain ⟨r, h1, h2⟩ := rt_ex n
  rw [rt_eq h1 h2]; exact ⟨h1, h2⟩
theorem sq_lt {a b : Nat} (h : a * a < b * b) : a < b := by
  rcases Nat.lt_or_ge a b with g | g
  · exact g
  · have := sq_mono g; omega
/-- The same, rounded up. -/
def ru (n : Nat) : Nat := if rt n * rt n < n then rt n + 1 else rt n
theorem ru_le {n x : Nat} : ru n ≤ x ↔ n ≤ x * x := by
  obtain ⟨h1, h2⟩ := rt_spec n
  unfold ru
  constructor
  · intro h
    split at h
    · have := sq_mono h; omega
    · have := sq_mono h; omega
  · intro h
    split
    · rename_i h3
      have : rt n < x := sq_lt (by omega)
      omega
    · rcases Nat.lt_or_ge x (rt n) with g | g
      · have e := sq_mono (show x + 1 ≤ rt n from g)
        have e2 : (x+1)*(x+1) = x*x + 2*x + 1 := by rw [Nat.add_mul, Nat.mul_add]; omega
        omega
      · exact g
theorem rt_le {n B : Nat} (h : n < (B+1)*(B+1)) : rt n ≤ B := by
  have h1 := (rt_spec n).1
  have : rt n < B + 1 := sq_lt (by omega)
  omega
theorem ru_bd {n B : Nat} (h : n < (B+1)*(B+1)) : ru n ≤ B + 1 := by
  have := rt_le h; unfold ru; split <;> omega
theorem rt_pos {n : Nat} (h : 1 ≤ n) : 1 ≤ rt n := by
  have h2 := (rt_spec n).2
  rcases Nat.eq_zero_or_pos (rt n) with g | g
  · rw [g] at h2; omega
  · exact g
/-- The squares of the first k weights together. -/
def sqK (ws : List Int) : Nat → Nat
  | 0 => 0
  | k+1 => sqK ws k + (ws.getD k 0).toNat * (ws.getD k 0).toNat
theorem sqK_le {ws : List Int} {k : Nat} (h : InK 0 1000 ws k) : sqK ws k ≤ 1000000 * k := by
  induction k with
  | zero => simp [sqK]
  | succ k ih =>
    have h1 := ih (h.mono (by omega)); have h2 := h k (by omega)
    have h3 : (ws.getD k 0).toNat * (ws.getD k 0).toNat ≤ 1000 * 1000 := Nat.mul_le_mul (by omega) (by omega)
    simp only [sqK]; omega
/-- The quota by square roots: T the weights, S their squares together. -/
def rq (T S : Nat) : Nat := (T + ru S + 1) / 2
theorem rq_no {T S q : Nat} (h0 : T ≤ 2 * q) (h : (2*q - T)*(2*q - T) < S) : q + 1 ≤ rq T S := by
  have : ¬ ru S ≤ 2*q - T := fun g => by have := ru_le.1 g; omega
  unfold rq; omega
theorem rq_yes {T S q : Nat} (h0 : T ≤ 2 * q) (h1 : q ≤ rq T S) (h : S ≤ (2*q - T)*(2*q - T)) : q = rq T S := by
  have := ru_le.2 h
  unfold rq at *; omega
theorem rq_start (T S : Nat) : (T + 1) / 2 ≤ rq T S := by unfold rq; omega
end Go.Proofs.Ytlofjccapglhgab.Vo
