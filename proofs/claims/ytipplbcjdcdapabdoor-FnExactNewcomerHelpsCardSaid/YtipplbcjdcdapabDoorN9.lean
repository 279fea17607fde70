/- Contracts of the program's functions that answer with shares of each member. -/
import Derived.Test.YtipplbcjdcdapabDoorN8
import Derived.Test.YtipplbcjdcdapabDoorN7
import Derived.Outline
namespace Go.Proofs.YtipplbcjdcdapabDoor
open Go.RowKit Vo

/-- A member agrees with what is decided. -/
def agreeP (p : Nat → Bool) (k s : Nat) : Bool := s.testBit k == p s
def agreeN (q : Int) (ws : List Int) (n : Nat) (k : Nat) : Nat := cnt (agreeP (winB q ws n) k) (2^n)

theorem cnt_pos {p : Nat → Bool} {k j : Nat} (hj : j < k) (h : p j = true) : 0 < cnt p k := by
  induction k with
  | zero => omega
  | succ k ih =>
    simp only [cnt]
    by_cases e : j = k
    · subst e; rw [h]; simp
    · have := ih (by omega); omega
theorem wtK_zero (ws : List Int) (k : Nat) : wtK ws 0 k = 0 := by
  induction k with
  | zero => rfl
  | succ k ih => simp only [wtK]; rw [ih]; simp
theorem Vo.Good.none {q ws n} (h : Vo.Good q ws n) : winB q ws n 0 = false := by
  unfold winB; rw [wtK_zero]; have := h.q1; simp; omega
theorem Vo.Good.every {q ws n} (h : Vo.Good q ws n) : winB q ws n (2^n - 1) = true := by
  unfold winB; rw [h.all]; have := h.q2; simpa using this
theorem turns {P : Nat → Bool} (h0 : P 0 = false) (n : Nat) (hn : P n = true) : ∃ j, j < n ∧ P j = false ∧ P (j+1) = true := by
  induction n with
  | zero => rw [h0] at hn; cases hn
  | succ n ih =>
    cases h : P n with
    | false => exact ⟨n, by omega, h, hn⟩
    | true => obtain ⟨j, h1, h2⟩ := ih h; exact ⟨j, by omega, h2⟩
theorem sumN_pos {f : Nat → Nat} {n j : Nat} (hj : j < n) (h : 0 < f j) : 0 < sumN f n := by
  induction n with
  | zero => omega
  | succ n ih =>
    simp only [sumN]
    by_cases e : j = n
    · subst e; omega
    · have := ih (by omega); omega
theorem swings_pos {q ws n} (h : Vo.Good q ws n) : 0 < sumN (swingN q ws n) n := by
  obtain ⟨j, hj, h1, h2⟩ := turns (P := fun j => winB q ws n (2^j - 1)) (by simpa using h.none) n h.every
  have hp := Nat.two_pow_pos j
  have hlt : 2^j - 1 < 2^n := by have := Nat.pow_lt_pow_right (show 1 < 2 by omega) hj; omega
  have hb : (2^j - 1).testBit j = false := by rw [Nat.testBit_two_pow_sub_one]; simp
  have hor : (2^j - 1) ||| 2^j = 2^(j+1) - 1 := by rw [← add_pow hlt hj hb, Nat.pow_succ]; omega
  refine sumN_pos hj (cnt_pos (j := 2^j - 1) hlt ?_)
  unfold swP
  rw [hb, hor, h1, h2]; rfl
theorem winning_pos {q ws n} (h : Vo.Good q ws n) : 0 < cnt (winB q ws n) (2^n) := cnt_pos (j := 2^n - 1) (by have := Nat.two_pow_pos n; omega) h.every
theorem losing_pos {q ws n} (h : Vo.Good q ws n) : 0 < cnt (fun s => !winB q ws n s) (2^n) := cnt_pos (j := 0) (Nat.two_pow_pos n) (by rw [h.none]; rfl)

def swingPowersL (q : Int) (ws : List Int) (n : Nat) : List (Int × Int) := okSh (goodB q ws n) (shL (swingN q ws n) (2^(n-1)) n)
theorem swingPowers_ok {q ws n} (hg : Vo.Good q ws n) : (∀ j, j < n → swingN q ws n j < 4611686018427387904) ∧ 0 < 2^(n-1) ∧ 2^(n-1) < 4611686018427387904 :=
  ⟨fun _ _ => Nat.lt_of_le_of_lt (Nat.le_trans (cnt_le _ _) (pow_lt hg.hi)) (by omega), Nat.two_pow_pos _, Nat.lt_of_le_of_lt (pow_lt (n := n - 1) (by have := hg.hi; omega)) (by omega)⟩
theorem swingPowersL_len (q : Int) (ws : List Int) (n : Nat) : 2 * (swingPowersL q ws n).length ≤ 1048576 := by
  by_cases hg : Vo.Good q ws n
  · unfold swingPowersL; rw [okSh_yes (goodB_true hg), shL_len]; have := hg.hi; omega
  · unfold swingPowersL; rw [okSh_no (goodB_false hg)]; simp
def swingSharesL (q : Int) (ws : List Int) (n : Nat) : List (Int × Int) := okSh (goodB q ws n) (shL (swingN q ws n) (sumN (swingN q ws n) n) n)
theorem swingShares_ok {q ws n} (hg : Vo.Good q ws n) : (∀ j, j < n → swingN q ws n j < 4611686018427387904) ∧ 0 < sumN (swingN q ws n) n ∧ sumN (swingN q ws n) n < 4611686018427387904 :=
  ⟨fun _ _ => Nat.lt_of_le_of_lt (Nat.le_trans (cnt_le _ _) (pow_lt hg.hi)) (by omega), swings_pos hg, Nat.lt_of_le_of_lt (sumN_le2 (B := 512) (n := 9) (fun k => Nat.le_trans (cnt_le _ _) (pow_lt hg.hi)) hg.hi) (by omega)⟩
theorem swingSharesL_len (q : Int) (ws : List Int) (n : Nat) : 2 * (swingSharesL q ws n).length ≤ 1048576 := by
  by_cases hg : Vo.Good q ws n
  · unfold swingSharesL; rw [okSh_yes (goodB_true hg), shL_len]; have := hg.hi; omega
  · unfold swingSharesL; rw [okSh_no (goodB_false hg)]; simp
def orderPowersL (q : Int) (ws : List Int) (n : Nat) : List (Int × Int) := okSh (goodB q ws n) (shL (pivotN q ws n) (fact n) n)
theorem orderPowers_ok {q ws n} (hg : Vo.Good q ws n) : (∀ j, j < n → pivotN q ws n j < 4611686018427387904) ∧ 0 < fact n ∧ fact n < 4611686018427387904 :=
  ⟨fun _ _ => Nat.lt_of_le_of_lt (pivN_le hg.hi (pow_lt hg.hi)) (by omega), fact_pos n, Nat.lt_of_le_of_lt (fact_le hg.hi) (by omega)⟩
theorem orderPowersL_len (q : Int) (ws : List Int) (n : Nat) : 2 * (orderPowersL q ws n).length ≤ 1048576 := by
  by_cases hg : Vo.Good q ws n
  · unfold orderPowersL; rw [okSh_yes (goodB_true hg), shL_len]; have := hg.hi; omega
  · unfold orderPowersL; rw [okSh_no (goodB_false hg)]; simp
def blockPowersL (q : Int) (ws : List Int) (n : Nat) : List (Int × Int) := okSh (goodB q ws n) (shL (swingN q ws n) (cnt (winB q ws n) (2^n)) n)
theorem blockPowers_ok {q ws n} (hg : Vo.Good q ws n) : (∀ j, j < n → swingN q ws n j < 4611686018427387904) ∧ 0 < cnt (winB q ws n) (2^n) ∧ cnt (winB q ws n) (2^n) < 4611686018427387904 :=
  ⟨fun _ _ => Nat.lt_of_le_of_lt (Nat.le_trans (cnt_le _ _) (pow_lt hg.hi)) (by omega), winning_pos hg, Nat.lt_of_le_of_lt (Nat.le_trans (cnt_le _ _) (pow_lt hg.hi)) (by omega)⟩
theorem blockPowersL_len (q : Int) (ws : List Int) (n : Nat) : 2 * (blockPowersL q ws n).length ≤ 1048576 := by
  by_cases hg : Vo.Good q ws n
  · unfold blockPowersL; rw [okSh_yes (goodB_true hg), shL_len]; have := hg.hi; omega
  · unfold blockPowersL; rw [okSh_no (goodB_false hg)]; simp
def startPowersL (q : Int) (ws : List Int) (n : Nat) : List (Int × Int) := okSh (goodB q ws n) (shL (swingN q ws n) (cnt (fun s => !winB q ws n s) (2^n)) n)
theorem startPowers_ok {q ws n} (hg : Vo.Good q ws n) : (∀ j, j < n → swingN q ws n j < 4611686018427387904) ∧ 0 < cnt (fun s => !winB q ws n s) (2^n) ∧ cnt (fun s => !winB q ws n s) (2^n) < 4611686018427387904 :=
  ⟨fun _ _ => Nat.lt_of_le_of_lt (Nat.le_trans (cnt_le _ _) (pow_lt hg.hi)) (by omega), losing_pos hg, Nat.lt_of_le_of_lt (Nat.le_trans (cnt_le _ _) (pow_lt hg.hi)) (by omega)⟩
theorem startPowersL_len (q : Int) (ws : List Int) (n : Nat) : 2 * (startPowersL q ws n).length ≤ 1048576 := by
  by_cases hg : Vo.Good q ws n
  · unfold startPowersL; rw [okSh_yes (goodB_true hg), shL_len]; have := hg.hi; omega
  · unfold startPowersL; rw [okSh_no (goodB_false hg)]; simp
def agreeChancesL (q : Int) (ws : List Int) (n : Nat) : List (Int × Int) := okSh (goodB q ws n) (shL (agreeN q ws n) (2^n) n)
theorem agreeChances_ok {q ws n} (hg : Vo.Good q ws n) : (∀ j, j < n → agreeN q ws n j < 4611686018427387904) ∧ 0 < 2^n ∧ 2^n < 4611686018427387904 :=
  ⟨fun _ _ => Nat.lt_of_le_of_lt (Nat.le_trans (cnt_le _ _) (pow_lt hg.hi)) (by omega), Nat.two_pow_pos _, Nat.lt_of_le_of_lt (pow_lt hg.hi) (by omega)⟩
theorem agreeChancesL_len (q : Int) (ws : List Int) (n : Nat) : 2 * (agreeChancesL q ws n).length ≤ 1048576 := by
  by_cases hg : Vo.Good q ws n
  · unfold agreeChancesL; rw [okSh_yes (goodB_true hg), shL_len]; have := hg.hi; omega
  · unfold agreeChancesL; rw [okSh_no (goodB_false hg)]; simp
end Go.Proofs.YtipplbcjdcdapabDoor
