/- Contracts of whole square roots, the program's (which begins with a float) and the model's. -/
import Derived.Test.YtlofjccapglhgabS2
import Derived.Test.YtlofjccapglhgabF1
import Derived.Test.YtlofjccapglhgabF2
import Derived.Laws.Externs
import Derived.Laws.FloatArith
namespace Go.Proofs.Ytlofjccapglhgab
open Go.RowKit Vo

theorem floatOf_nat (n : Nat) : floatOfInt .f64 (n : Int) = Ieee.double.write (.number false n 0) := by
  show Ieee.double.write (.number (decide ((n : Int) < 0)) (n : Int).natAbs 0) = _
  have h1 : decide ((n : Int) < 0) = false := by simp
  rw [h1, Int.natAbs_natCast]
theorem sqrt_run (x b : Nat) (h : Ieee.double.sqrt x = some b) (W : World) : (callFunc 109 #[.float .f64 x]).run Try.prog W = .ok (.value (.float .f64 b)) W := by
  rw [run_callFunc_extern (f := 109) (fn := Try.f109) (e := Extern.MathSqrt.sqrt) Try.func109 (by kernel_rfl) (by kernel_rfl) (by kernel_rfl) (by kernel_rfl)]
  have e : Extern.MathSqrt.sqrt #[.float .f64 x] = (match Ieee.double.sqrt x with
    | some r => pure (.float .f64 r)
    | none => do pure (.float .f64 (← choose (.nanBits .f64 x x)))) := rfl
  rw [e, h]
  rfl
theorem toInt_run (b r : Nat) (h : (Ieee.double.read b).toInt .zero = some (r : Int)) (hr : r < 8192) (W : World) : (convert 83 3 (.float .f64 b)).run Try.prog W = .ok (.int .i64 r) W := by
  refine run_convert_float_int W 83 3 .f64 .i64 b r (by kernel_rfl) Try.underlying3 ?_
  unfold floatToIntVal
  rw [show FloatKind.f64.decode b = Ieee.double.read b from rfl, h]
  simp only
  rw [if_pos]
  constructor
  · show (-9223372036854775808 : Int) ≤ r; omega
  · show (r : Int) ≤ 9223372036854775807; omega

theorem sq_bd {r B : Nat} (h : r ≤ B) : r * r ≤ B * B := Nat.mul_le_mul h h
set_option maxHeartbeats 2000000 in
theorem rootDown_any (n : Nat) (w : World) (hn : n < 16777216) : Calls Try.prog 61 #[.int .i64 n] w fun e w' => e = .returned (.int .i64 (rt n : Nat)) ∧ w = w' := by
  obtain ⟨b, hb, r0, hr0, hr1⟩ := fl_all n hn
  have hfl := floatOf_nat n
  have hsq := sqrt_run _ b hb
  have hti := toInt_run b r0 hr0 hr1
  rw [← hfl] at hsq
  obtain ⟨x, hx⟩ : ∃ x, x = floatOfInt .f64 (n : Int) := ⟨_, rfl⟩
  have hif : ∀ W, (convert 3 83 (.int .i64 n)).run Try.prog W = .ok (.float .f64 x) W := fun W => by
    rw [hx]; exact run_convert_int_float W 3 83 .i64 .f64 n (by kernel_rfl) Try.underlying83
  rw [← hx] at hsq
  have HRT := Lib.hid (fun r (h1 : r * r ≤ n) (h2 : n < (r+1)*(r+1)) => rt_eq h1 h2)
  clear hb hr0 hfl hx
  go_enter Try.func61, Try.ntmps61
  go_wp2
  go_loop [3] (fun v => ∃ r : Nat, v = .int .i64 r ∧ r < 8192) (fun v => (intOf v).toNat)
  case atStart => exact ⟨r0, rfl, hr1⟩
  case round =>
    obtain ⟨r, rfl, hr⟩ := hrel
    obtain ⟨s, hs⟩ : ∃ s, s = r * r := ⟨_, rfl⟩
    have hsb : s ≤ 8191 * 8191 := by rw [hs]; exact sq_bd (by omega)
    have hmul : (r : Int) * (r : Int) = (s : Int) := by rw [hs]; simp
    have HS := Lib.hid hs
    clear hs
    by_cases hgt : n < s
    · have hr0' : 1 ≤ r := by
        rcases Nat.eq_zero_or_pos r with e | e
        · have := HS.out; rw [e] at this; omega
        · exact e
      go_wp2
      go_round
      case rel => exact ⟨r - 1, by go_num, by omega⟩
      case measure => simp [intOf]; omega
    · have HLE := Lib.hid (show r * r ≤ n from by have := HS.out; omega)
      clear HS
      go_wp2
      go_loop [3] (fun v => ∃ r : Nat, v = .int .i64 r ∧ r < 8192 ∧ r * r ≤ n) (fun v => 8192 - (intOf v).toNat)
      case atStart => exact ⟨r, rfl, hr, HLE.out⟩
      case round =>
        obtain ⟨r2, rfl, hr2, hle⟩ := hrel
        have HLE2 := Lib.hid hle
        obtain ⟨s2, hs2⟩ : ∃ s2, s2 = (r2 + 1) * (r2 + 1) := ⟨_, rfl⟩
        have hs2b : s2 ≤ 8192 * 8192 := by rw [hs2]; exact sq_bd (by omega)
        have hmul2 : ((r2 : Int) + 1) * ((r2 : Int) + 1) = (s2 : Int) := by rw [hs2]; simp
        have HS2 := Lib.hid hs2
        clear hle hs2
        by_cases hle2 : s2 ≤ n
        · have hr4 : r2 + 1 < 4097 := by
            rcases Nat.lt_or_ge (r2 + 1) 4097 with g | g
            · exact g
            · have := sq_bd (r := 4097) g; have := HS2.out; omega
          go_wp2
          go_round
          case rel => exact ⟨r2 + 1, by go_num, by omega, by have := HS2.out; omega⟩
          case measure => simp [intOf]; omega
        · have HE := Lib.hid (HRT.out r2 HLE2.out (by have := HS2.out; omega))
          go_wp2
          go_ret
          exact ⟨by rw [HE.out]; rfl, rfl⟩

set_option maxHeartbeats 1000000 in
theorem rootUp_any (n : Nat) (w : World) (hn : n < 16777216) : Calls Try.prog 63 #[.int .i64 n] w fun e w' => e = .returned (.int .i64 (ru n : Nat)) ∧ w = w' := by
  have hle := rt_le (n := n) (B := 4095) (by omega)
  have HU := Lib.hid (show ru n = if rt n * rt n < n then rt n + 1 else rt n from rfl)
  have HC := Lib.hid (fun W => rootDown_any n W hn)
  generalize rt n = r at *
  obtain ⟨s, hs⟩ : ∃ s, s = r * r := ⟨_, rfl⟩
  have hsb : s ≤ 4095 * 4095 := by rw [hs]; exact sq_bd hle
  have hmul : (r : Int) * (r : Int) = (s : Int) := by rw [hs]; simp
  rw [← hs] at HU
  clear hs
  by_cases h : s < n
  · have HE := Lib.hid (HU.out.trans (if_pos h))
    go_enter Try.func63, Try.ntmps63
    go_wp2_with (go_at_call 61; refine (HC.out _).mono ?_; rintro e w1 ⟨rfl, rfl⟩)
    go_ret
    exact ⟨by rw [HE.out]; simp, rfl⟩
  · have HE := Lib.hid (HU.out.trans (if_neg h))
    go_enter Try.func63, Try.ntmps63
    go_wp2_with (go_at_call 61; refine (HC.out _).mono ?_; rintro e w1 ⟨rfl, rfl⟩)
    go_ret
    exact ⟨by rw [HE.out]; rfl, rfl⟩

set_option maxHeartbeats 1000000 in
theorem shRoot_any (n : Nat) (w : World) (hn : n < 16777216) : Calls Try.prog 58 #[.int .i64 n] w fun e w' => e = .returned (.int .i64 (rt n : Nat)) ∧ w = w' := by
  have HRT := Lib.hid (fun r (h1 : r * r ≤ n) (h2 : n < (r+1)*(r+1)) => rt_eq h1 h2)
  go_enter Try.func58, Try.ntmps58
  go_wp2
  go_loop [3] (fun v => ∃ r : Nat, v = .int .i64 r ∧ r < 8192 ∧ r * r ≤ n) (fun v => 8192 - (intOf v).toNat)
  case atStart => exact ⟨0, rfl, by omega, by omega⟩
  case round =>
    obtain ⟨r2, rfl, hr2, hle⟩ := hrel
    have HLE2 := Lib.hid hle
    obtain ⟨s2, hs2⟩ : ∃ s2, s2 = (r2 + 1) * (r2 + 1) := ⟨_, rfl⟩
    have hs2b : s2 ≤ 8192 * 8192 := by rw [hs2]; exact sq_bd (by omega)
    have hmul2 : ((r2 : Int) + 1) * ((r2 : Int) + 1) = (s2 : Int) := by rw [hs2]; simp
    have HS2 := Lib.hid hs2
    clear hle hs2
    by_cases hle2 : s2 ≤ n
    · have hr4 : r2 + 1 < 4097 := by
        rcases Nat.lt_or_ge (r2 + 1) 4097 with g | g
        · exact g
        · have := sq_bd (r := 4097) g; have := HS2.out; omega
      go_wp2
      go_round
      case rel => exact ⟨r2 + 1, by go_num, by omega, by have := HS2.out; omega⟩
      case measure => simp [intOf]; omega
    · have HE := Lib.hid (HRT.out r2 HLE2.out (by have := HS2.out; omega))
      go_wp2
      go_ret
      exact ⟨by rw [HE.out]; rfl, rfl⟩
end Go.Proofs.Ytlofjccapglhgab
