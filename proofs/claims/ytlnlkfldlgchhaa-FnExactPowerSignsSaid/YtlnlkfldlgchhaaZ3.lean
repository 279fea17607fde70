/- Plain facts on numbers among a whole: lowest terms, signs of differences; nothing of any program. -/
import Derived.Test.YtlnlkfldlgchhaaN8
import Derived.Test.YtlnlkfldlgchhaaQ0
import Derived.Test.YtlnlkfldlgchhaaZ1
namespace Go.Proofs.Ytlnlkfldlgchhaa
open Go.RowKit Vo

theorem share1_scale {x D g : Nat} (hg : 0 < g) : share1 (g * x) (g * D) = share1 x D := by
  unfold share1
  rw [Nat.gcd_mul_left, Nat.mul_div_mul_left _ _ hg, Nat.mul_div_mul_left _ _ hg]
theorem share1_parts {x D : Nat} (hD : 0 < D) : ∃ a b g : Nat, share1 x D = ((a : Int), (b : Int)) ∧ 0 < g ∧ x = g * a ∧ D = g * b ∧ 0 < b ∧ a = x / Nat.gcd x D ∧ b = D / Nat.gcd x D := by
  have hg : 0 < Nat.gcd x D := Nat.gcd_pos_of_pos_right _ hD
  have hb : D = Nat.gcd x D * (D / Nat.gcd x D) := (Nat.mul_div_cancel' (Nat.gcd_dvd_right x D)).symm
  refine ⟨x / Nat.gcd x D, D / Nat.gcd x D, Nat.gcd x D, rfl, hg, (Nat.mul_div_cancel' (Nat.gcd_dvd_left x D)).symm, hb, ?_, rfl, rfl⟩
  exact Nat.div_pos (Nat.le_of_dvd hD (Nat.gcd_dvd_right x D)) hg
theorem sgn_mul {g x : Int} (hg : 0 < g) : sgn (g * x) = sgn x := by
  rcases Int.lt_trichotomy x 0 with h | h | h
  · rw [sgn_neg h, sgn_neg (Int.mul_neg_of_pos_of_neg hg h)]
  · subst h; simp
  · rw [sgn_pos h, sgn_pos (Int.mul_pos hg h)]
/-- How two parts stand to each other does not turn when both are put in lowest terms. -/
theorem sgn_shares {x D y E a b c d : Nat} (hD : 0 < D) (hE : 0 < E) (h1 : share1 x D = ((a : Int), (b : Int))) (h2 : share1 y E = ((c : Int), (d : Int))) : sgn ((a : Int) * d - c * b) = sgn ((x : Int) * E - y * D) := by
  obtain ⟨a', b', g, e1, hg, hx, hb, _⟩ := share1_parts (x := x) hD
  obtain ⟨c', d', h, e2, hh, hy, hd, _⟩ := share1_parts (x := y) hE
  rw [h1] at e1; rw [h2] at e2
  simp only [Prod.mk.injEq, Int.natCast_inj] at e1 e2
  obtain ⟨rfl, rfl⟩ := e1
  obtain ⟨rfl, rfl⟩ := e2
  have e : (x : Int) * E - y * D = ((g : Int) * h) * ((a : Int) * d - c * b) := by
    rw [hx, hy, hb, hd]; push_cast; rw [Int.mul_sub]
    congr 1 <;> ac_rfl
  rw [e, sgn_mul (Int.mul_pos (by omega) (by omega))]
/-- How far two parts are off. -/
theorem off_shares {x D y E a b c d : Nat} (hD : 0 < D) (hE : 0 < E) (h1 : share1 x D = ((a : Int), (b : Int))) (h2 : share1 y E = ((c : Int), (d : Int))) : share1 ((a : Int) * d - c * b).natAbs (b * d) = share1 ((x : Int) * E - y * D).natAbs (D * E) := by
  obtain ⟨a', b', g, e1, hg, hx, hb, _⟩ := share1_parts (x := x) hD
  obtain ⟨c', d', h, e2, hh, hy, hd, _⟩ := share1_parts (x := y) hE
  rw [h1] at e1; rw [h2] at e2
  simp only [Prod.mk.injEq, Int.natCast_inj] at e1 e2
  obtain ⟨rfl, rfl⟩ := e1
  obtain ⟨rfl, rfl⟩ := e2
  have e : (x : Int) * E - y * D = ((g * h : Nat) : Int) * ((a : Int) * d - c * b) := by
    rw [hx, hy, hb, hd]; push_cast; rw [Int.mul_sub]
    congr 1 <;> ac_rfl
  have e3 : D * E = (g * h) * (b * d) := by rw [hb, hd]; ac_rfl
  rw [e, Int.natAbs_mul, Int.natAbs_natCast, e3, share1_scale (Nat.mul_pos hg hh)]
end Go.Proofs.Ytlnlkfldlgchhaa
