/- Contracts of greatest common divisors, lowest terms and factorials, the program's and the model's. -/
import Derived.Test.YtlnlkfldlgchhaaBase
import Derived.Test.YtlnlkfldlgchhaaN1
import Derived.Lib.Hide
import Derived.Outline
namespace Go.Proofs.Ytlnlkfldlgchhaa
open Go.RowKit Vo

theorem rem_nat (a b : Nat) : Int.tmod (a : Int) (b : Int) = ((a % b : Nat) : Int) := by
  rw [Int.tmod_eq_emod_of_nonneg (Int.natCast_nonneg a)]; simp
theorem quo_nat (a b : Nat) : Int.tdiv (a : Int) (b : Int) = ((a / b : Nat) : Int) := by
  rw [Int.tdiv_eq_ediv_of_nonneg (Int.natCast_nonneg a)]; simp

set_option maxHeartbeats 1000000 in
theorem greatestDivisor_any (a b : Nat) (w : World) (ha : a < 4611686018427387904) (hb : b < 4611686018427387904) :
    Calls Try.prog 102 #[.int .i64 a, .int .i64 b] w fun e w' => e = .returned (.int .i64 (Nat.gcd a b : Nat)) ∧ Below w.heap.size w w' := by
  go_enter Try.func102, Try.ntmps102
  go_wp2
  go_loopw [0, 1] (fun x y wr => ∃ c d : Nat, x = .int .i64 c ∧ y = .int .i64 d ∧ c < 4611686018427387904 ∧ d < 4611686018427387904 ∧ Nat.gcd c d = Nat.gcd a b ∧ Below w.heap.size w wr) (fun _ y _ => (intOf y).toNat)
  case atStart => exact ⟨a, b, rfl, rfl, ha, hb, rfl, Below.refl _ _⟩
  case round =>
    obtain ⟨c, d, rfl, rfl, hc, hd, hg, hbw⟩ := hrel
    have HG := Lib.hid hg
    clear hg
    by_cases h0 : d = 0
    · subst h0
      have HE := Lib.hid (show Nat.gcd a b = c from by rw [← HG.out]; simp)
      go_wp2
      go_ret
      exact ⟨by rw [HE.out]; rfl, hbw⟩
    · have hne : ((d : Int) == 0) = false := by simp; omega
      have hne2 : ((d : Int) != 0) = true := by simp; omega
      have hml := Nat.mod_lt c (show 0 < d by omega)
      have HR := Lib.hid (show Nat.gcd d (c % d) = Nat.gcd a b from by rw [← HG.out, Nat.gcd_comm c d, Nat.gcd_rec d c, Nat.gcd_comm])
      go_wp2_with fail
      go_quiet (fail)
      go_wp2
      go_roundw
      case rel => exact ⟨d, c % d, by go_num, by simp, hd, by omega, HR.out, below_drewN hbw _⟩
      case measure => simp [intOf]; omega

theorem frozen2 {t : TypeId} {w : World} {g : Nat} {u v : Value} (h : BoxT t w g u v) : w.frozen? ⟨g, 0, none⟩ = false ∧ w.frozen? ⟨g, 1, none⟩ = false := by
  unfold BoxT at h; exact ⟨by simp [World.frozen?, h], by simp [World.frozen?, h]⟩


set_option maxHeartbeats 1000000 in
theorem lowestTerms_any (a b : Nat) (w : World) (hp : 0 < b) (ha : a < 4611686018427387904) (hb : b < 4611686018427387904) :
    Calls Try.prog 67 #[.int .i64 a, .int .i64 b] w fun e w' => e = .returned (.agg #[.int .i64 (a / Nat.gcd a b : Nat), .int .i64 (b / Nat.gcd a b : Nat)]) ∧ Below w.heap.size w w' := by
  have hr := BoxT.new 38 w (.int .i64 0) (.int .i64 0)
  have hb0 := below1 w (.cells #[.int .i64 0, .int .i64 0] 38)
  have HC := Lib.hid (fun W => greatestDivisor_any a b W ha hb)
  have hg0 : 0 < Nat.gcd a b := Nat.gcd_pos_of_pos_right _ hp
  generalize Nat.gcd a b = g at *
  have hq1 : a / g ≤ a := Nat.div_le_self _ _
  have hq2 : b / g ≤ b := Nat.div_le_self _ _
  have e1 : (a : Int) / (g : Int) = ((a / g : Nat) : Int) := by simp
  have e2 : (b : Int) / (g : Int) = ((b / g : Nat) : Int) := by simp
  have HW1 := Lib.hid (show wrap64 ((a : Int) / (g : Int)) = (a : Int) / (g : Int) from by rw [e1]; generalize a / g = z at *; exact IntWalk.wrap64_in _ (by omega))
  have HW2 := Lib.hid (show wrap64 ((b : Int) / (g : Int)) = (b : Int) / (g : Int) from by rw [e2]; generalize b / g = z at *; exact IntWalk.wrap64_in _ (by omega))
  clear e1 e2
  go_enter Try.func67, Try.ntmps67
  go_wp2_with fail
  refine (HC.out _).mono ?_
  rintro e w1 ⟨rfl, hb1⟩
  have hr1 := hr.now hb1
  obtain ⟨c0, c1⟩ := hr1.cells
  obtain ⟨f0, f1⟩ := frozen2 hr1
  have hne : ((g : Int) == 0) = false := by simp; omega
  have hlt := hr1.lt
  go_wp2_with fail
  go_region
  all_goals
    go_wp2
    refine bodyPost_ret (v := .agg #[.int .i64 (a / g : Nat), .int .i64 (b / g : Nat)]) (by simp [results, Try.results67, go_sem, c0, c1, HW1.out, HW2.out]) rfl ⟨rfl, ?_⟩
    exact (((bfrom hb0 hb1).setCell (by simp) _).setCell (by simp) _).drew

set_option maxHeartbeats 1000000 in
theorem pwCommon_any (a b : Nat) (w : World) (ha : a < 4611686018427387904) (hb : b < 4611686018427387904) :
    Calls Try.prog 100 #[.int .i64 a, .int .i64 b] w fun e w' => e = .returned (.int .i64 (Nat.gcd a b : Nat)) ∧ Below w.heap.size w w' := by
  go_enter Try.func100, Try.ntmps100
  go_wp2
  go_loopw [0, 1] (fun x y wr => ∃ c d : Nat, x = .int .i64 c ∧ y = .int .i64 d ∧ c < 4611686018427387904 ∧ d < 4611686018427387904 ∧ Nat.gcd c d = Nat.gcd a b ∧ Below w.heap.size w wr) (fun _ y _ => (intOf y).toNat)
  case atStart => exact ⟨a, b, rfl, rfl, ha, hb, rfl, Below.refl _ _⟩
  case round =>
    obtain ⟨c, d, rfl, rfl, hc, hd, hg, hbw⟩ := hrel
    have HG := Lib.hid hg
    clear hg
    by_cases h0 : d = 0
    · subst h0
      have HE := Lib.hid (show Nat.gcd a b = c from by rw [← HG.out]; simp)
      go_wp2
      go_ret
      exact ⟨by rw [HE.out]; rfl, hbw⟩
    · have hne : ((d : Int) == 0) = false := by simp; omega
      have hgt : (0 : Int) < d := by omega
      have hml := Nat.mod_lt c (show 0 < d by omega)
      have HR := Lib.hid (show Nat.gcd d (c % d) = Nat.gcd a b from by rw [← HG.out, Nat.gcd_comm c d, Nat.gcd_rec d c, Nat.gcd_comm])
      go_wp2_with fail
      go_quiet (fail)
      go_wp2
      go_roundw
      case rel => exact ⟨d, c % d, by go_num, by simp, hd, by omega, HR.out, below_drewN hbw _⟩
      case measure => simp [intOf]; omega


set_option maxHeartbeats 1000000 in
theorem pwShare_any (a b : Nat) (w : World) (hp : 0 < b) (ha : a < 4611686018427387904) (hb : b < 4611686018427387904) :
    Calls Try.prog 64 #[.int .i64 a, .int .i64 b] w fun e w' => e = .returned (.agg #[.int .i64 (a / Nat.gcd a b : Nat), .int .i64 (b / Nat.gcd a b : Nat)]) ∧ Below w.heap.size w w' := by
  have hr := BoxT.new 38 w (.int .i64 0) (.int .i64 0)
  have hb0 := below1 w (.cells #[.int .i64 0, .int .i64 0] 38)
  have HC := Lib.hid (fun W => pwCommon_any a b W ha hb)
  have hg0 : 0 < Nat.gcd a b := Nat.gcd_pos_of_pos_right _ hp
  generalize Nat.gcd a b = g at *
  have hq1 : a / g ≤ a := Nat.div_le_self _ _
  have hq2 : b / g ≤ b := Nat.div_le_self _ _
  have e1 : (a : Int) / (g : Int) = ((a / g : Nat) : Int) := by simp
  have e2 : (b : Int) / (g : Int) = ((b / g : Nat) : Int) := by simp
  have HW1 := Lib.hid (show wrap64 ((a : Int) / (g : Int)) = (a : Int) / (g : Int) from by rw [e1]; generalize a / g = z at *; exact IntWalk.wrap64_in _ (by omega))
  have HW2 := Lib.hid (show wrap64 ((b : Int) / (g : Int)) = (b : Int) / (g : Int) from by rw [e2]; generalize b / g = z at *; exact IntWalk.wrap64_in _ (by omega))
  clear e1 e2
  go_enter Try.func64, Try.ntmps64
  go_wp2_with fail
  refine (HC.out _).mono ?_
  rintro e w1 ⟨rfl, hb1⟩
  have hr1 := hr.now hb1
  obtain ⟨c0, c1⟩ := hr1.cells
  obtain ⟨f0, f1⟩ := frozen2 hr1
  have hne : ((g : Int) == 0) = false := by simp; omega
  have hlt := hr1.lt
  go_wp2_with fail
  go_region
  all_goals
    go_wp2
    refine bodyPost_ret (v := .agg #[.int .i64 (a / g : Nat), .int .i64 (b / g : Nat)]) (by simp [results, Try.results64, go_sem, c0, c1, HW1.out, HW2.out]) rfl ⟨rfl, ?_⟩
    exact (((bfrom hb0 hb1).setCell (by simp) _).setCell (by simp) _).drew

set_option maxHeartbeats 1000000 in
theorem factorial_any (n : Nat) (w : World) (hn : n ≤ 9) :
    Calls Try.prog 107 #[.int .i64 n] w fun e w' => e = .returned (.int .i64 (fact n : Nat)) ∧ w = w' := by
  go_enter Try.func107, Try.ntmps107
  go_wp2
  go_loop [3, 6] (fun t i => ∃ k : Nat, k ≤ n ∧ i = .int .i64 k ∧ t = .int .i64 (fact k : Nat)) (fun _ i => n - (intOf i).toNat)
  case atStart => exact ⟨0, Nat.zero_le _, rfl, rfl⟩
  case round =>
    obtain ⟨k, hk, rfl, rfl⟩ := hrel
    have hf := fact_le (n := k) (by omega)
    by_cases hlt : k < n
    · have hf2 := fact_le (n := k + 1) (by omega)
      have HS := Lib.hid (show ((fact (k+1) : Nat) : Int) = (fact k : Int) * ((k : Int) + 1) from by simp [fact])
      have HW := Lib.hid (show wrap64 ((fact k : Int) * ((k : Int) + 1)) = (fact k : Int) * ((k : Int) + 1) from by rw [← HS.out]; exact IntWalk.wrap64_in _ (by omega))
      clear hf2
      generalize fact k = x at *
      go_wp2
      go_round
      case rel => exact ⟨k + 1, by omega, by go_num, by rw [HS.out]; simp [HW.out]⟩
      case measure => simp [intOf]; omega
    · obtain rfl : k = n := by omega
      go_wp2
      go_ret
      exact ⟨rfl, rfl⟩

set_option maxHeartbeats 1000000 in
theorem pwTimes_any (n : Nat) (w : World) (hn : n ≤ 9) :
    Calls Try.prog 74 #[.int .i64 n] w fun e w' => e = .returned (.int .i64 (fact n : Nat)) ∧ w = w' := by
  go_enter Try.func74, Try.ntmps74
  go_wp2
  go_loop [3, 4] (fun t i => ∃ k : Nat, (k ≤ n ∨ k = 1) ∧ 1 ≤ k ∧ i = .int .i64 ((k : Int) + 1) ∧ t = .int .i64 (fact k : Nat)) (fun _ i => n + 2 - (intOf i).toNat)
  case atStart => exact ⟨1, Or.inr rfl, Nat.le_refl _, rfl, rfl⟩
  case round =>
    obtain ⟨k, hk, hk1, rfl, rfl⟩ := hrel
    have hf := fact_le (n := k) (by omega)
    by_cases hlt : k + 1 ≤ n
    · have hlt2 : (k : Int) + 1 ≤ n := by omega
      have hf2 := fact_le (n := k + 1) (by omega)
      have HS := Lib.hid (show ((fact (k+1) : Nat) : Int) = (fact k : Int) * ((k : Int) + 1) from by simp [fact])
      have HW := Lib.hid (show wrap64 ((fact k : Int) * ((k : Int) + 1)) = (fact k : Int) * ((k : Int) + 1) from by rw [← HS.out]; exact IntWalk.wrap64_in _ (by omega))
      clear hf2
      generalize fact k = x at *
      go_wp2
      go_round
      case rel => exact ⟨k + 1, Or.inl hlt, by omega, by go_num, by rw [HS.out]; simp [HW.out]⟩
      case measure => simp [intOf]; omega
    · have hlt2 : ¬ (k : Int) + 1 ≤ n := by omega
      have HE := Lib.hid (show fact k = fact n from by
        rcases Nat.lt_or_ge n 1 with h | h
        · have : n = 0 := by omega
          have : k = 1 := by omega
          subst k n; rfl
        · rw [show k = n by omega])
      go_wp2
      go_ret
      exact ⟨by rw [HE.out]; rfl, rfl⟩
end Go.Proofs.Ytlnlkfldlgchhaa
