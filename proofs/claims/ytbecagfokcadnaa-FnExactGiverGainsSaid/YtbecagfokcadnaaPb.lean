/- Plain facts: shares in lowest terms compare as the fractions do. -/
import Derived.Test.YtbecagfokcadnaaQ0
namespace Go.Proofs.Ytbecagfokcadnaa
open Go.RowKit Vo

theorem sgn_mul {a x : Int} (h : 0 < a) : sgn (a * x) = sgn x := by
  unfold sgn
  rcases Int.lt_trichotomy x 0 with hx | hx | hx
  · rw [if_pos hx, if_pos (Int.mul_neg_of_pos_of_neg h hx)]
  · subst hx; simp
  · have := Int.mul_pos h hx
    rw [if_neg (by omega), if_neg (by omega), if_neg (by omega), if_neg (by omega)]
/-- A fraction in lowest terms is a share. -/
theorem low_share {a b : Nat} (h1 : a ≤ b) (h2 : 1 ≤ b) (h3 : b ≤ 1000000) : Sg ((a / Nat.gcd a b : Nat) : Int) ((b / Nat.gcd a b : Nat) : Int) := by
  have hg : 0 < Nat.gcd a b := Nat.gcd_pos_of_pos_right a (by omega)
  have hd := Nat.gcd_dvd_right a b
  have e1 : 1 ≤ b / Nat.gcd a b := Nat.div_pos (Nat.le_of_dvd (by omega) hd) hg
  have e2 : b / Nat.gcd a b ≤ b := Nat.div_le_self _ _
  have e3 : a / Nat.gcd a b ≤ b / Nat.gcd a b := Nat.div_le_div_right h1
  have e4 : Nat.gcd (a / Nat.gcd a b) (b / Nat.gcd a b) = 1 := Nat.coprime_div_gcd_div_gcd hg
  generalize a / Nat.gcd a b = x at *
  generalize b / Nat.gcd a b = y at *
  refine ⟨by omega, by omega, by omega, by omega, ?_⟩
  rw [Int.toNat_natCast, Int.toNat_natCast]
  exact e4
/-- Shares in lowest terms compare as the fractions do. -/
theorem cmp_low {a b c d : Nat} (h1 : a ≤ b) (h2 : 1 ≤ b) (h3 : b ≤ 1000000) (h4 : c ≤ d) (h5 : 1 ≤ d) (h6 : d ≤ 1000000) :
    cmpR ((a / Nat.gcd a b : Nat) : Int) ((b / Nat.gcd a b : Nat) : Int) ((c / Nat.gcd c d : Nat) : Int) ((d / Nat.gcd c d : Nat) : Int) = sgn ((a : Int) * d - (c : Int) * b) := by
  rw [cmpR_yes (by unfold cmpOk; rw [sgB_yes (low_share h1 h2 h3), sgB_yes (low_share h4 h5 h6)]; rfl)]
  have hg : 0 < Nat.gcd a b := Nat.gcd_pos_of_pos_right a (by omega)
  have hh : 0 < Nat.gcd c d := Nat.gcd_pos_of_pos_right c (by omega)
  have ea := Nat.mul_div_cancel' (Nat.gcd_dvd_left a b)
  have eb := Nat.mul_div_cancel' (Nat.gcd_dvd_right a b)
  have ec := Nat.mul_div_cancel' (Nat.gcd_dvd_left c d)
  have ed := Nat.mul_div_cancel' (Nat.gcd_dvd_right c d)
  generalize Nat.gcd a b = g at *
  generalize Nat.gcd c d = h at *
  generalize a / g = a' at *
  generalize b / g = b' at *
  generalize c / h = c' at *
  generalize d / h = d' at *
  subst ea; subst eb; subst ec; subst ed
  unfold cmpV
  rw [← sgn_mul (a := (g : Int) * h) (by have := Nat.mul_pos hg hh; exact_mod_cast this)]
  congr 1
  push_cast
  rw [Int.mul_sub]
  congr 1 <;> ac_rfl
end Go.Proofs.Ytbecagfokcadnaa
