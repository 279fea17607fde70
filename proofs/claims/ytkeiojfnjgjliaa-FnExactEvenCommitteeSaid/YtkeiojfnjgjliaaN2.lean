/- Contracts of greatest common divisors, lowest terms and factorials, the program's and the model's. -/
import Derived.Test.YtkeiojfnjgjliaaBase
import Derived.Test.YtkeiojfnjgjliaaN1
import Derived.Lib.Hide
import Derived.Outline
namespace Go.Proofs.Ytkeiojfnjgjliaa
open Go.RowKit Vo

theorem rem_nat (a b : Nat) : Int.tmod (a : Int) (b : Int) = ((a % b : Nat) : Int) := by
  rw [Int.tmod_eq_emod_of_nonneg (Int.natCast_nonneg a)]; simp
theorem quo_nat (a b : Nat) : Int.tdiv (a : Int) (b : Int) = ((a / b : Nat) : Int) := by
  rw [Int.tdiv_eq_ediv_of_nonneg (Int.natCast_nonneg a)]; simp

set_option maxHeartbeats 1000000 in
theorem greatestDivisor_any (a b : Nat) (w : World) (ha : a < 4611686018427387904) (hb : b < 4611686018427387904) :
    Calls Try.prog 73 #[.int .i64 a, .int .i64 b] w fun e w' => e = .returned (.int .i64 (Nat.gcd a b : Nat)) ∧ Below w.heap.size w w' := by
  go_enter Try.func73, Try.ntmps73
  go_wp2
  go_loopw [0, 1] (fun x y wr => ∃ c d : Nat, x = .int .i64 c ∧ y = .int .i64 d ∧ c < 4611686018427387904 ∧ d < 4611686018427387904 ∧ Nat.gcd c d = Nat.gcd a b ∧ Below w.heap.size w wr) (fun _ y _ => (intOf y).toNat)
  case atStart => exact ⟨a, b, rfl, rfl, ha, hb, rfl, Below.refl _ _⟩
  case round =>
    obtain ⟨c, d, rfl, rfl, hc, hd, hg, hbw⟩ := hrel
    have HG := Lib.hid hg
    clear hg
    by_cases h0 : d = 0
    · subst h0
      have HE := Lib.hid (show Nat.gcd a b = c from by rw [← HG.out]; simp)
      go_wp2
      go_ret
      exact ⟨by rw [HE.out]; rfl, hbw⟩
    · have hne : ((d : Int) == 0) = false := by simp; omega
      have hne2 : ((d : Int) != 0) = true := by simp; omega
      have hml := Nat.mod_lt c (show 0 < d by omega)
      have HR := Lib.hid (show Nat.gcd d (c % d) = Nat.gcd a b from by rw [← HG.out, Nat.gcd_comm c d, Nat.gcd_rec d c, Nat.gcd_comm])
      go_wp2_with fail
      go_quiet (fail)
      go_wp2
      go_roundw
      case rel => exact ⟨d, c % d, by go_num, by simp, hd, by omega, HR.out, below_drewN hbw _⟩
      case measure => simp [intOf]; omega

theorem frozen2 {t : TypeId} {w : World} {g : Nat} {u v : Value} (h : BoxT t w g u v) : w.frozen? ⟨g, 0, none⟩ = false ∧ w.frozen? ⟨g, 1, none⟩ = false := by
  unfold BoxT at h; exact ⟨by simp [World.frozen?, h], by simp [World.frozen?, h]⟩


set_option maxHeartbeats 1000000 in
theorem pwCommon_any (a b : Nat) (w : World) (ha : a < 4611686018427387904) (hb : b < 4611686018427387904) :
    Calls Try.prog 72 #[.int .i64 a, .int .i64 b] w fun e w' => e = .returned (.int .i64 (Nat.gcd a b : Nat)) ∧ Below w.heap.size w w' := by
  go_enter Try.func72, Try.ntmps72
  go_wp2
  go_loopw [0, 1] (fun x y wr => ∃ c d : Nat, x = .int .i64 c ∧ y = .int .i64 d ∧ c < 4611686018427387904 ∧ d < 4611686018427387904 ∧ Nat.gcd c d = Nat.gcd a b ∧ Below w.heap.size w wr) (fun _ y _ => (intOf y).toNat)
  case atStart => exact ⟨a, b, rfl, rfl, ha, hb, rfl, Below.refl _ _⟩
  case round =>
    obtain ⟨c, d, rfl, rfl, hc, hd, hg, hbw⟩ := hrel
    have HG := Lib.hid hg
    clear hg
    by_cases h0 : d = 0
    · subst h0
      have HE := Lib.hid (show Nat.gcd a b = c from by rw [← HG.out]; simp)
      go_wp2
      go_ret
      exact ⟨by rw [HE.out]; rfl, hbw⟩
    · have hne : ((d : Int) == 0) = false := by simp; omega
      have hgt : (0 : Int) < d := by omega
      have hml := Nat.mod_lt c (show 0 < d by omega)
      have HR := Lib.hid (show Nat.gcd d (c % d) = Nat.gcd a b from by rw [← HG.out, Nat.gcd_comm c d, Nat.gcd_rec d c, Nat.gcd_comm])
      go_wp2_with fail
      go_quiet (fail)
      go_wp2
      go_roundw
      case rel => exact ⟨d, c % d, by go_num, by simp, hd, by omega, HR.out, below_drewN hbw _⟩
      case measure => simp [intOf]; omega


end Go.Proofs.Ytkeiojfnjgjliaa
