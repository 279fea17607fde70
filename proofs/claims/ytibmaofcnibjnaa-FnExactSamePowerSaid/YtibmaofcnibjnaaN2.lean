/- Contracts of greatest common divisors, lowest terms and factorials, the program's and the model's. -/
import Derived.Test.YtibmaofcnibjnaaBase
import Derived.Test.YtibmaofcnibjnaaN1
import Derived.Lib.Hide
import Derived.Outline
namespace Go.Proofs.Ytibmaofcnibjnaa
open Go.RowKit Vo

theorem rem_nat (a b : Nat) : Int.tmod (a : Int) (b : Int) = ((a % b : Nat) : Int) := by
  rw [Int.tmod_eq_emod_of_nonneg (Int.natCast_nonneg a)]; simp
theorem quo_nat (a b : Nat) : Int.tdiv (a : Int) (b : Int) = ((a / b : Nat) : Int) := by
  rw [Int.tdiv_eq_ediv_of_nonneg (Int.natCast_nonneg a)]; simp

theorem frozen2 {t : TypeId} {w : World} {g : Nat} {u v : Value} (h : BoxT t w g u v) : w.frozen? ⟨g, 0, none⟩ = false ∧ w.frozen? ⟨g, 1, none⟩ = false := by
  unfold BoxT at h; exact ⟨by simp [World.frozen?, h], by simp [World.frozen?, h]⟩


set_option maxHeartbeats 1000000 in
theorem factorial_any (n : Nat) (w : World) (hn : n ≤ 9) :
    Calls Try.prog 103 #[.int .i64 n] w fun e w' => e = .returned (.int .i64 (fact n : Nat)) ∧ w = w' := by
  go_enter Try.func103, Try.ntmps103
  go_wp2
  go_loop [3, 6] (fun t i => ∃ k : Nat, k ≤ n ∧ i = .int .i64 k ∧ t = .int .i64 (fact k : Nat)) (fun _ i => n - (intOf i).toNat)
  case atStart => exact ⟨0, Nat.zero_le _, rfl, rfl⟩
  case round =>
    obtain ⟨k, hk, rfl, rfl⟩ := hrel
    have hf := fact_le (n := k) (by omega)
    by_cases hlt : k < n
    · have hf2 := fact_le (n := k + 1) (by omega)
      have HS := Lib.hid (show ((fact (k+1) : Nat) : Int) = (fact k : Int) * ((k : Int) + 1) from by simp [fact])
      have HW := Lib.hid (show wrap64 ((fact k : Int) * ((k : Int) + 1)) = (fact k : Int) * ((k : Int) + 1) from by rw [← HS.out]; exact IntWalk.wrap64_in _ (by omega))
      clear hf2
      generalize fact k = x at *
      go_wp2
      go_round
      case rel => exact ⟨k + 1, by omega, by go_num, by rw [HS.out]; simp [HW.out]⟩
      case measure => simp [intOf]; omega
    · obtain rfl : k = n := by omega
      go_wp2
      go_ret
      exact ⟨rfl, rfl⟩

set_option maxHeartbeats 1000000 in
theorem pwTimes_any (n : Nat) (w : World) (hn : n ≤ 9) :
    Calls Try.prog 93 #[.int .i64 n] w fun e w' => e = .returned (.int .i64 (fact n : Nat)) ∧ w = w' := by
  go_enter Try.func93, Try.ntmps93
  go_wp2
  go_loop [3, 4] (fun t i => ∃ k : Nat, (k ≤ n ∨ k = 1) ∧ 1 ≤ k ∧ i = .int .i64 ((k : Int) + 1) ∧ t = .int .i64 (fact k : Nat)) (fun _ i => n + 2 - (intOf i).toNat)
  case atStart => exact ⟨1, Or.inr rfl, Nat.le_refl _, rfl, rfl⟩
  case round =>
    obtain ⟨k, hk, hk1, rfl, rfl⟩ := hrel
    have hf := fact_le (n := k) (by omega)
    by_cases hlt : k + 1 ≤ n
    · have hlt2 : (k : Int) + 1 ≤ n := by omega
      have hf2 := fact_le (n := k + 1) (by omega)
      have HS := Lib.hid (show ((fact (k+1) : Nat) : Int) = (fact k : Int) * ((k : Int) + 1) from by simp [fact])
      have HW := Lib.hid (show wrap64 ((fact k : Int) * ((k : Int) + 1)) = (fact k : Int) * ((k : Int) + 1) from by rw [← HS.out]; exact IntWalk.wrap64_in _ (by omega))
      clear hf2
      generalize fact k = x at *
      go_wp2
      go_round
      case rel => exact ⟨k + 1, Or.inl hlt, by omega, by go_num, by rw [HS.out]; simp [HW.out]⟩
      case measure => simp [intOf]; omega
    · have hlt2 : ¬ (k : Int) + 1 ≤ n := by omega
      have HE := Lib.hid (show fact k = fact n from by
        rcases Nat.lt_or_ge n 1 with h | h
        · have : n = 0 := by omega
          have : k = 1 := by omega
          subst k n; rfl
        · rw [show k = n by omega])
      go_wp2
      go_ret
      exact ⟨by rw [HE.out]; rfl, rfl⟩
end Go.Proofs.Ytibmaofcnibjnaa
