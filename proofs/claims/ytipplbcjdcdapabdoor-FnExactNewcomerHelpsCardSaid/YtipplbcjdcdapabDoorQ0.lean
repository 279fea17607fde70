/- Shares, and how the model compares them. -/
import Derived.Test.YtipplbcjdcdapabDoorN2
import Derived.Test.YtipplbcjdcdapabDoorS1
import Derived.Laws.StructEq
import Derived.Deep.RegionHeld3
import Derived.Outline
namespace Go.Proofs.YtipplbcjdcdapabDoor
open Go.RowKit Vo

/-- Is Num / Den a share? -/
def Sg (x y : Int) : Prop := 1 ≤ y ∧ y ≤ 1000000 ∧ 0 ≤ x ∧ x ≤ y ∧ Nat.gcd x.toNat y.toNat = 1
instance (x y : Int) : Decidable (Sg x y) := by unfold Sg; infer_instance
def sgB (x y : Int) : Bool := decide (Sg x y)
theorem sgB_yes {x y} (h : Sg x y) : sgB x y = true := decide_eq_true h
theorem sgB_no {x y} (h : ¬ Sg x y) : sgB x y = false := decide_eq_false h

def sgn (x : Int) : Int := if x < 0 then -1 else if x = 0 then 0 else 1
theorem sgn_neg {x : Int} (h : x < 0) : sgn x = -1 := if_pos h
theorem sgn_pos {x : Int} (h : 0 < x) : sgn x = 1 := by unfold sgn; rw [if_neg (by omega), if_neg (by omega)]
/-- Which of two shares is less. -/
def cmpV (x y u v : Int) : Int := sgn (x * v - u * y)
theorem same_share {x y u v : Int} (h1 : Sg x y) (h2 : Sg u v) (h : x * v = u * y) : x = u ∧ y = v := by
  obtain ⟨a, rfl⟩ : ∃ a : Nat, x = a := ⟨x.toNat, by have := h1.2.2.1; omega⟩
  obtain ⟨b, rfl⟩ : ∃ b : Nat, y = b := ⟨y.toNat, by have := h1.1; omega⟩
  obtain ⟨c, rfl⟩ : ∃ c : Nat, u = c := ⟨u.toNat, by have := h2.2.2.1; omega⟩
  obtain ⟨d, rfl⟩ : ∃ d : Nat, v = d := ⟨v.toNat, by have := h2.1; omega⟩
  have g1 : Nat.Coprime a b := by simpa using h1.2.2.2.2
  have g2 : Nat.Coprime c d := by simpa using h2.2.2.2.2
  have e : a * d = c * b := by exact_mod_cast h
  have hb : 0 < b := by have := h1.1; omega
  have d1 : b ∣ d := Nat.Coprime.dvd_of_dvd_mul_left g1.symm (by rw [e]; exact Nat.dvd_mul_left b c)
  have d2 : d ∣ b := Nat.Coprime.dvd_of_dvd_mul_left g2.symm (by rw [← e]; exact Nat.dvd_mul_left d a)
  have hbd := Nat.dvd_antisymm d1 d2
  subst hbd
  exact ⟨by rw [Nat.eq_of_mul_eq_mul_right hb e], rfl⟩
theorem mul_bd {x v : Int} (h1 : 0 ≤ x) (h2 : x ≤ 1000000) (h3 : 0 ≤ v) (h4 : v ≤ 1000000) : 0 ≤ x * v ∧ x * v ≤ 1000000000000 := by
  refine ⟨Int.mul_nonneg h1 h3, ?_⟩
  have := Int.mul_le_mul h2 h4 h3 (by omega)
  omega
def cmpOk (x y u v : Int) : Bool := sgB x y && sgB u v
def cmpR (x y u v : Int) : Int := if cmpOk x y u v then cmpV x y u v else 0
theorem cmpR_yes {x y u v} (h : cmpOk x y u v = true) : cmpR x y u v = cmpV x y u v := if_pos h
theorem cmpR_no {x y u v} (h : cmpOk x y u v = false) : cmpR x y u v = 0 := if_neg (by rw [h]; simp)

set_option maxHeartbeats 1000000 in
theorem l1Sign_any (x : Int) (w : World) : Calls Tryd.prog 32 #[.int .i64 x] w fun e w' => e = .returned (.int .i64 (sgn x)) ∧ w = w' := by
  rcases Int.lt_trichotomy x 0 with h | h | h
  · have HV := Lib.hid (sgn_neg h)
    have hd : decide (0 < x) = false := by simp; omega
    go_enter Tryd.func32, Tryd.ntmps32
    go_wp2
    go_ret
    exact ⟨by rw [HV.out]; rfl, rfl⟩
  · subst h
    go_enter Tryd.func32, Tryd.ntmps32
    go_wp2
    go_ret
    exact ⟨rfl, rfl⟩
  · have HV := Lib.hid (sgn_pos h)
    go_enter Tryd.func32, Tryd.ntmps32
    go_wp2
    go_ret
    exact ⟨by rw [HV.out]; rfl, rfl⟩

theorem Sg.prods {x y u v : Int} (h1 : Sg x y) (h2 : Sg u v) : (0 ≤ x * v ∧ x * v ≤ 1000000000000) ∧ (0 ≤ u * y ∧ u * y ≤ 1000000000000) := by
  obtain ⟨a1, a2, a3, a4, _⟩ := h1
  obtain ⟨b1, b2, b3, b4, _⟩ := h2
  exact ⟨mul_bd a3 (by omega) (by omega) b2, mul_bd b3 (by omega) (by omega) a2⟩

end Go.Proofs.YtipplbcjdcdapabDoor
