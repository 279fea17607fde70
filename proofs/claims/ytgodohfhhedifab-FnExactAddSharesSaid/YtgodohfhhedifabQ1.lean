/- Contracts of shares compared, the program's and the model's; the walk of its law. -/
import Derived.Test.YtgodohfhhedifabN2
import Derived.Test.YtgodohfhhedifabS1
import Derived.Laws.StructEq
import Derived.Deep.RegionHeld3
import Derived.Outline
namespace Go.Proofs.Ytgodohfhhedifab
open Go.RowKit Vo

/-- Is Num / Den a share? -/
def Sg (x y : Int) : Prop := 1 ≤ y ∧ y ≤ 1000000 ∧ 0 ≤ x ∧ x ≤ y ∧ Nat.gcd x.toNat y.toNat = 1
instance (x y : Int) : Decidable (Sg x y) := by unfold Sg; infer_instance
def sgB (x y : Int) : Bool := decide (Sg x y)
theorem sgB_yes {x y} (h : Sg x y) : sgB x y = true := decide_eq_true h
theorem sgB_no {x y} (h : ¬ Sg x y) : sgB x y = false := decide_eq_false h

set_option maxHeartbeats 1000000 in
theorem isShare_any (x y : Int) (w : World) :
    Calls Try.prog 82 #[.agg #[.int .i64 x, .int .i64 y]] w fun e w' => e = .returned (.bool (sgB x y)) ∧ Below w.heap.size w w' := by
  have hb0 := below1 w (.cells #[.int .i64 x, .int .i64 y] 54)
  by_cases h1 : 1 ≤ y
  · by_cases h2 : y ≤ 1000000
    · by_cases h3 : 0 ≤ x
      · by_cases h4 : x ≤ y
        · obtain ⟨a, rfl⟩ : ∃ a : Nat, x = a := ⟨x.toNat, by omega⟩
          obtain ⟨b, rfl⟩ : ∃ b : Nat, y = b := ⟨y.toNat, by omega⟩
          have HV := Lib.hid (show sgB (a : Int) (b : Int) = (((Nat.gcd a b : Nat) : Int) == 1) from by
            by_cases h : Nat.gcd a b = 1
            · rw [sgB_yes (show Sg (a : Int) (b : Int) from ⟨by omega, by omega, by omega, by omega, by simpa using h⟩), h]; rfl
            · rw [sgB_no (fun g : Sg (a : Int) (b : Int) => h (by simpa using g.2.2.2.2))]; symm; simp; omega)
          have HG := Lib.hid (fun W => greatestDivisor_any a b W (by omega) (by omega))
          go_enter Try.func82, Try.ntmps82
          go_wp2_with (go_at_call 105; refine (HG.out _).mono ?_; rintro e w1 ⟨rfl, hb1⟩)
          go_ret
          exact ⟨by rw [HV.out]; simp, bfrom hb0 hb1⟩
        · have HV := Lib.hid (sgB_no (fun h : Sg x y => h4 h.2.2.2.1))
          go_enter Try.func82, Try.ntmps82
          go_wp2
          go_ret
          exact ⟨by rw [HV.out]; rfl, hb0⟩
      · have HV := Lib.hid (sgB_no (fun h : Sg x y => h3 h.2.2.1))
        have hd : decide (0 ≤ x) = false := by simpa using h3
        go_enter Try.func82, Try.ntmps82
        go_wp2
        go_ret
        exact ⟨by rw [HV.out]; simp, hb0⟩
    · have HV := Lib.hid (sgB_no (fun h : Sg x y => h2 h.2.1))
      have hd : decide (y ≤ 1000000) = false := by simpa using h2
      go_enter Try.func82, Try.ntmps82
      go_wp2
      go_ret
      exact ⟨by rw [HV.out]; simp, hb0⟩
  · have HV := Lib.hid (sgB_no (fun h : Sg x y => h1 h.1))
    have hd : decide (1 ≤ y) = false := by simpa using h1
    go_enter Try.func82, Try.ntmps82
    go_wp2
    go_ret
    exact ⟨by rw [HV.out]; simp, hb0⟩

set_option maxHeartbeats 1000000 in
theorem pwGood_any (x y : Int) (w : World) :
    Calls Try.prog 80 #[.agg #[.int .i64 x, .int .i64 y]] w fun e w' => e = .returned (.bool (sgB x y)) ∧ Below w.heap.size w w' := by
  have hb0 := below1 w (.cells #[.int .i64 x, .int .i64 y] 54)
  by_cases h1 : 1 ≤ y ∧ y ≤ 1000000
  · have HI := Lib.hid (inB_yes h1.1 h1.2)
    by_cases h3 : 0 ≤ x ∧ x ≤ y
    · have HJ := Lib.hid (inB_yes h3.1 h3.2)
      obtain ⟨a, rfl⟩ : ∃ a : Nat, x = a := ⟨x.toNat, by omega⟩
      obtain ⟨b, rfl⟩ : ∃ b : Nat, y = b := ⟨y.toNat, by omega⟩
      have HV := Lib.hid (show sgB (a : Int) (b : Int) = (((Nat.gcd a b : Nat) : Int) == 1) from by
        by_cases h : Nat.gcd a b = 1
        · rw [sgB_yes (show Sg (a : Int) (b : Int) from ⟨by omega, by omega, by omega, by omega, by simpa using h⟩), h]; rfl
        · rw [sgB_no (fun g : Sg (a : Int) (b : Int) => h (by simpa using g.2.2.2.2))]; symm; simp; omega)
      have HG := Lib.hid (fun W => pwCommon_any a b W (by omega) (by omega))
      clear h1 h3
      go_enter Try.func80, Try.ntmps80
      go_wp2_with (first
        | (go_at_call 70; (with_reducible refine (l1In_any (b : Int) 1 1000000 _).mono ?_); rintro e w1 ⟨rfl, rfl⟩; rw [HI.out])
        | (go_at_call 70; (with_reducible refine (l1In_any (a : Int) 0 b _).mono ?_); rintro e w1 ⟨rfl, rfl⟩; rw [HJ.out])
        | (go_at_call 103; refine (HG.out _).mono ?_; rintro e w1 ⟨rfl, hb1⟩))
      go_ret
      exact ⟨by rw [HV.out]; simp, bfrom hb0 hb1⟩
    · have HJ := Lib.hid (inB_no h3)
      have HV := Lib.hid (sgB_no (fun h : Sg x y => h3 ⟨h.2.2.1, h.2.2.2.1⟩))
      clear h1 h3
      go_enter Try.func80, Try.ntmps80
      go_wp2_with (first
        | (go_at_call 70; (with_reducible refine (l1In_any y 1 1000000 _).mono ?_); rintro e w1 ⟨rfl, rfl⟩; rw [HI.out])
        | (go_at_call 70; (with_reducible refine (l1In_any x 0 y _).mono ?_); rintro e w1 ⟨rfl, rfl⟩; rw [HJ.out]))
      go_ret
      exact ⟨by rw [HV.out]; rfl, hb0⟩
  · have HI := Lib.hid (inB_no h1)
    have HV := Lib.hid (sgB_no (fun h : Sg x y => h1 ⟨h.1, h.2.1⟩))
    clear h1
    go_enter Try.func80, Try.ntmps80
    go_wp2_with (first
      | (go_at_call 70; (with_reducible refine (l1In_any y 1 1000000 _).mono ?_); rintro e w1 ⟨rfl, rfl⟩; rw [HI.out]))
    go_ret
    exact ⟨by rw [HV.out]; rfl, hb0⟩

def sgn (x : Int) : Int := if x < 0 then -1 else if x = 0 then 0 else 1
theorem sgn_neg {x : Int} (h : x < 0) : sgn x = -1 := if_pos h
theorem sgn_pos {x : Int} (h : 0 < x) : sgn x = 1 := by unfold sgn; rw [if_neg (by omega), if_neg (by omega)]
/-- Which of two shares is less. -/
def cmpV (x y u v : Int) : Int := sgn (x * v - u * y)
theorem same_share {x y u v : Int} (h1 : Sg x y) (h2 : Sg u v) (h : x * v = u * y) : x = u ∧ y = v := by
  obtain ⟨a, rfl⟩ : ∃ a : Nat, x = a := ⟨x.toNat, by have := h1.2.2.1; omega⟩
  obtain ⟨b, rfl⟩ : ∃ b : Nat, y = b := ⟨y.toNat, by have := h1.1; omega⟩
  obtain ⟨c, rfl⟩ : ∃ c : Nat, u = c := ⟨u.toNat, by have := h2.2.2.1; omega⟩
  obtain ⟨d, rfl⟩ : ∃ d : Nat, v = d := ⟨v.toNat, by have := h2.1; omega⟩
  have g1 : Nat.Coprime a b := by simpa using h1.2.2.2.2
  have g2 : Nat.Coprime c d := by simpa using h2.2.2.2.2
  have e : a * d = c * b := by exact_mod_cast h
  have hb : 0 < b := by have := h1.1; omega
  have d1 : b ∣ d := Nat.Coprime.dvd_of_dvd_mul_left g1.symm (by rw [e]; exact Nat.dvd_mul_left b c)
  have d2 : d ∣ b := Nat.Coprime.dvd_of_dvd_mul_left g2.symm (by rw [← e]; exact Nat.dvd_mul_left d a)
  have hbd := Nat.dvd_antisymm d1 d2
  subst hbd
  exact ⟨by rw [Nat.eq_of_mul_eq_mul_right hb e], rfl⟩
theorem mul_bd {x v : Int} (h1 : 0 ≤ x) (h2 : x ≤ 1000000) (h3 : 0 ≤ v) (h4 : v ≤ 1000000) : 0 ≤ x * v ∧ x * v ≤ 1000000000000 := by
  refine ⟨Int.mul_nonneg h1 h3, ?_⟩
  have := Int.mul_le_mul h2 h4 h3 (by omega)
  omega
def cmpOk (x y u v : Int) : Bool := sgB x y && sgB u v
def cmpR (x y u v : Int) : Int := if cmpOk x y u v then cmpV x y u v else 0
theorem cmpR_yes {x y u v} (h : cmpOk x y u v = true) : cmpR x y u v = cmpV x y u v := if_pos h
theorem cmpR_no {x y u v} (h : cmpOk x y u v = false) : cmpR x y u v = 0 := if_neg (by rw [h]; simp)

set_option maxHeartbeats 1000000 in
theorem l1Sign_any (x : Int) (w : World) : Calls Try.prog 104 #[.int .i64 x] w fun e w' => e = .returned (.int .i64 (sgn x)) ∧ w = w' := by
  rcases Int.lt_trichotomy x 0 with h | h | h
  · have HV := Lib.hid (sgn_neg h)
    have hd : decide (0 < x) = false := by simp; omega
    go_enter Try.func104, Try.ntmps104
    go_wp2
    go_ret
    exact ⟨by rw [HV.out]; rfl, rfl⟩
  · subst h
    go_enter Try.func104, Try.ntmps104
    go_wp2
    go_ret
    exact ⟨rfl, rfl⟩
  · have HV := Lib.hid (sgn_pos h)
    go_enter Try.func104, Try.ntmps104
    go_wp2
    go_ret
    exact ⟨by rw [HV.out]; rfl, rfl⟩

theorem Sg.prods {x y u v : Int} (h1 : Sg x y) (h2 : Sg u v) : (0 ≤ x * v ∧ x * v ≤ 1000000000000) ∧ (0 ≤ u * y ∧ u * y ≤ 1000000000000) := by
  obtain ⟨a1, a2, a3, a4, _⟩ := h1
  obtain ⟨b1, b2, b3, b4, _⟩ := h2
  exact ⟨mul_bd a3 (by omega) (by omega) b2, mul_bd b3 (by omega) (by omega) a2⟩

set_option maxHeartbeats 2000000 in
theorem pwCompare_any (x y u v : Int) (w : World) (h1 : Sg x y) (h2 : Sg u v) :
    Calls Try.prog 81 #[.agg #[.int .i64 x, .int .i64 y], .agg #[.int .i64 u, .int .i64 v]] w fun e w' => e = .returned (.int .i64 (cmpV x y u v)) ∧ Below w.heap.size w w' := by
  have hb0 : Below w.heap.size w ((w.alloc (.cells #[.int .i64 x, .int .i64 y] 54)).alloc (.cells #[.int .i64 u, .int .i64 v] 54)) := (below1 w _).alloc (by simp) _
  obtain ⟨m1, m2⟩ := h1.prods h2
  have HV := Lib.hid (show cmpV x y u v = sgn (x * v - u * y) from rfl)
  have HW := Lib.hid (show wrap64 (wrap64 (x * v) - wrap64 (u * y)) = x * v - u * y from by rw [IntWalk.wrap64_in _ (show -9223372036854775808 ≤ x * v ∧ x * v ≤ 9223372036854775807 by omega), IntWalk.wrap64_in (u * y) (by omega), IntWalk.wrap64_in _ (by omega)])
  clear h1 h2 m1 m2
  go_enter Try.func81, Try.ntmps81
  go_wp2_with (go_at_call 104; trace_state; rw [HW.out]; refine (l1Sign_any (x * v - u * y) _).mono ?_; rintro e w1 ⟨rfl, rfl⟩)
  go_ret
  exact ⟨by rw [HV.out]; rfl, hb0⟩
end Go.Proofs.Ytgodohfhhedifab
