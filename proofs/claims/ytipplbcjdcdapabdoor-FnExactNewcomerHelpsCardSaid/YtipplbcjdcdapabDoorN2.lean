/- Contracts of greatest common divisors, lowest terms and factorials, the program's and the model's. -/
import Derived.Test.YtipplbcjdcdapabDoorBase
import Derived.Test.YtipplbcjdcdapabDoorN1
import Derived.Lib.Hide
import Derived.Outline
namespace Go.Proofs.YtipplbcjdcdapabDoor
open Go.RowKit Vo

theorem rem_nat (a b : Nat) : Int.tmod (a : Int) (b : Int) = ((a % b : Nat) : Int) := by
  rw [Int.tmod_eq_emod_of_nonneg (Int.natCast_nonneg a)]; simp
theorem quo_nat (a b : Nat) : Int.tdiv (a : Int) (b : Int) = ((a / b : Nat) : Int) := by
  rw [Int.tdiv_eq_ediv_of_nonneg (Int.natCast_nonneg a)]; simp

set_option maxHeartbeats 1000000 in
theorem greatestDivisor_any (a b : Nat) (w : World) (ha : a < 4611686018427387904) (hb : b < 4611686018427387904) :
    Calls Tryd.prog 64 #[.int .i64 a, .int .i64 b] w fun e w' => e = .returned (.int .i64 (Nat.gcd a b : Nat)) ∧ Below w.heap.size w w' := by
  go_enter Tryd.func64, Tryd.ntmps64
  go_wp2
  go_loopw [0, 1] (fun x y wr => ∃ c d : Nat, x = .int .i64 c ∧ y = .int .i64 d ∧ c < 4611686018427387904 ∧ d < 4611686018427387904 ∧ Nat.gcd c d = Nat.gcd a b ∧ Below w.heap.size w wr) (fun _ y _ => (intOf y).toNat)
  case atStart => exact ⟨a, b, rfl, rfl, ha, hb, rfl, Below.refl _ _⟩
  case round =>
    obtain ⟨c, d, rfl, rfl, hc, hd, hg, hbw⟩ := hrel
    have HG := Lib.hid hg
    clear hg
    by_cases h0 : d = 0
    · subst h0
      have HE := Lib.hid (show Nat.gcd a b = c from by rw [← HG.out]; simp)
      go_wp2
      go_ret
      exact ⟨by rw [HE.out]; rfl, hbw⟩
    · have hne : ((d : Int) == 0) = false := by simp; omega
      have hne2 : ((d : Int) != 0) = true := by simp; omega
      have hml := Nat.mod_lt c (show 0 < d by omega)
      have HR := Lib.hid (show Nat.gcd d (c % d) = Nat.gcd a b from by rw [← HG.out, Nat.gcd_comm c d, Nat.gcd_rec d c, Nat.gcd_comm])
      go_wp2_with fail
      go_quiet (fail)
      go_wp2
      go_roundw
      case rel => exact ⟨d, c % d, by go_num, by simp, hd, by omega, HR.out, below_drewN hbw _⟩
      case measure => simp [intOf]; omega

theorem frozen2 {t : TypeId} {w : World} {g : Nat} {u v : Value} (h : BoxT t w g u v) : w.frozen? ⟨g, 0, none⟩ = false ∧ w.frozen? ⟨g, 1, none⟩ = false := by
  unfold BoxT at h; exact ⟨by simp [World.frozen?, h], by simp [World.frozen?, h]⟩


set_option maxHeartbeats 1000000 in
theorem lowestTerms_any (a b : Nat) (w : World) (hp : 0 < b) (ha : a < 4611686018427387904) (hb : b < 4611686018427387904) :
    Calls Tryd.prog 54 #[.int .i64 a, .int .i64 b] w fun e w' => e = .returned (.agg #[.int .i64 (a / Nat.gcd a b : Nat), .int .i64 (b / Nat.gcd a b : Nat)]) ∧ Below w.heap.size w w' := by
  have hr := BoxT.new 65 w (.int .i64 0) (.int .i64 0)
  have hb0 := below1 w (.cells #[.int .i64 0, .int .i64 0] 65)
  have HC := Lib.hid (fun W => greatestDivisor_any a b W ha hb)
  have hg0 : 0 < Nat.gcd a b := Nat.gcd_pos_of_pos_right _ hp
  generalize Nat.gcd a b = g at *
  have hq1 : a / g ≤ a := Nat.div_le_self _ _
  have hq2 : b / g ≤ b := Nat.div_le_self _ _
  have e1 : (a : Int) / (g : Int) = ((a / g : Nat) : Int) := by simp
  have e2 : (b : Int) / (g : Int) = ((b / g : Nat) : Int) := by simp
  have HW1 := Lib.hid (show wrap64 ((a : Int) / (g : Int)) = (a : Int) / (g : Int) from by rw [e1]; generalize a / g = z at *; exact IntWalk.wrap64_in _ (by omega))
  have HW2 := Lib.hid (show wrap64 ((b : Int) / (g : Int)) = (b : Int) / (g : Int) from by rw [e2]; generalize b / g = z at *; exact IntWalk.wrap64_in _ (by omega))
  clear e1 e2
  go_enter Tryd.func54, Tryd.ntmps54
  go_wp2_with fail
  refine (HC.out _).mono ?_
  rintro e w1 ⟨rfl, hb1⟩
  have hr1 := hr.now hb1
  obtain ⟨c0, c1⟩ := hr1.cells
  obtain ⟨f0, f1⟩ := frozen2 hr1
  have hne : ((g : Int) == 0) = false := by simp; omega
  have hlt := hr1.lt
  go_wp2_with fail
  go_region
  all_goals
    go_wp2
    refine bodyPost_ret (v := .agg #[.int .i64 (a / g : Nat), .int .i64 (b / g : Nat)]) (by simp [results, Tryd.results54, go_sem, c0, c1, HW1.out, HW2.out]) rfl ⟨rfl, ?_⟩
    exact (((bfrom hb0 hb1).setCell (by simp) _).setCell (by simp) _).drew

end Go.Proofs.YtipplbcjdcdapabDoor
