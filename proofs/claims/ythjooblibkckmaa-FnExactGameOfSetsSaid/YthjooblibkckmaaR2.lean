/- Contracts of sets that are of a kind no more without one of them. -/
import Derived.Test.YthjooblibkckmaaR1
import Derived.Test.YthjooblibkckmaaW4
import Derived.Deep.AppendLies
namespace Go.Proofs.Ythjooblibkckmaa
open Go.RowKit Vo

/-- The set without the member k. -/
def out (s k : Nat) : Nat := s &&& (18446744073709551615 - 2 ^ k)
theorem out_le (s k : Nat) : out s k ≤ s := Nat.and_le_left
theorem testBit_out {s k j : Nat} (hk : k < 64) (hj : j < 64) : (out s k).testBit j = (s.testBit j && decide (j ≠ k)) := by
  unfold out
  have hp : 2 ^ k < 2 ^ 64 := Nat.pow_lt_pow_right (by omega) hk
  rw [Nat.testBit_and]
  have := @Nat.testBit_two_pow_sub_succ (2^k) 64 hp j
  rw [show 18446744073709551615 - 2^k = 2^64 - (2^k + 1) by omega, this, Nat.testBit_two_pow]
  simp [hj]
  by_cases h : k = j
  · subst h; simp
  · have h2 : j ≠ k := fun e => h e.symm
    simp [h, h2]

theorem and_not_pow (s k : Nat) (hk : k < 10) (hs : s < 512) : bits BinOp.andNot IntKind.u64 (s : Int) (IntKind.u64.wrap (2 ^ k)) = ((out s k : Nat) : Int) := by
  have h1 : (2:Nat)^k ≤ 2^9 := Nat.pow_le_pow_right (by omega) (by omega)
  have e : IntKind.u64.wrap (2 ^ k) = ((2 ^ k : Nat) : Int) := by
    have : k = 0 ∨ k = 1 ∨ k = 2 ∨ k = 3 ∨ k = 4 ∨ k = 5 ∨ k = 6 ∨ k = 7 ∨ k = 8 ∨ k = 9 := by omega
    rcases this with h | h | h | h | h | h | h | h | h | h <;> subst h <;> rfl
  rw [e, u64_andNot_nat _ _ (by omega) (by omega)]; rfl

set_option maxHeartbeats 400000 in
theorem without_any (s k : Nat) (w : World) (hk : k < 10) (hs : s < 512) :
    Calls Try.prog 129 #[.int .u64 s, .int .i64 k] w fun e w' => e = .returned (.int .u64 ((out s k : Nat) : Int)) ∧ w = w' := by
  go_enter Try.func129, Try.ntmps129
  go_wp2
  go_ret
  exact ⟨ret_int (and_not_pow s k hk hs), rfl⟩

/-- No set that one member leaves is of the kind. -/
def noneOut (p : Nat → Bool) (s : Nat) (k : Nat) : Bool := allK (fun j => !(s.testBit j && p (out s j))) k

set_option maxHeartbeats 1000000 in
theorem isKindWithoutOne_any (p : Nat → Bool) (k : Nat) (first cap : Array Value) (n s : Nat) (w : World) (hn : n < 10) (hs : s < 2^n) (ha : Asks p k first cap n w) :
    Calls Try.prog 115 #[.int .i64 n, .int .u64 s, .func (.func k) first cap] w fun e w' => e = .returned (.bool (!noneOut p s n)) ∧ Below w.heap.size w w' := by
  have HA := Lib.hid ha
  have eg := ha.enters
  have h512 := pow_lt (n := n) (by omega)
  have HS2 := Lib.hid hs
  have hs512 : s < 512 := by omega
  clear ha hs h512
  go_enter Try.func115, Try.ntmps115
  go_wp2_with fail
  go_loopw [6, 9] (fun _ i wr => ∃ j : Nat, j ≤ n ∧ i = .int .i64 j ∧ noneOut p s j = true ∧ Below w.heap.size w wr) (fun _ i _ => n - (intOf i).toNat)
  case atStart => exact ⟨0, Nat.zero_le _, rfl, rfl, Below.refl _ _⟩
  case round =>
    obtain ⟨j, hj, rfl, hall, hb⟩ := hrel
    have HL := Lib.hid hall
    clear hall
    by_cases hlt : j < n
    · cases hbit : s.testBit j
      · have HB := Lib.hid hbit
        have HN := Lib.hid (show noneOut p s (j+1) = true from by have := HL.out; unfold noneOut at this ⊢; simp only [allK]; rw [this, hbit]; rfl)
        clear hbit
        go_wp2_with (go_at_call 92; refine (has_any s j _ (by omega) hs512).mono ?_; rintro e w' ⟨rfl, rfl⟩; rw [HB.out])
        go_roundw
        case rel => exact ⟨j + 1, by omega, by go_num, HN.out, hb⟩
        case measure => simp [intOf]; omega
      · have HB := Lib.hid hbit
        have HO := Lib.hid (show out s j < 2^n from Nat.lt_of_le_of_lt (out_le s j) HS2.out)
        cases hp : p (out s j)
        · have HP := Lib.hid hp
          have HN := Lib.hid (show noneOut p s (j+1) = true from by have := HL.out; unfold noneOut at this ⊢; simp only [allK]; rw [this, hbit, hp]; rfl)
          clear hbit hp
          go_wp2_with (first | (go_at_call 92; refine (has_any s j _ (by omega) hs512).mono ?_; rintro e w' ⟨rfl, rfl⟩; rw [HB.out]) | (go_at_call 129; refine (without_any s j _ (by omega) hs512).mono ?_; rintro e w' ⟨rfl, rfl⟩) | (go_at_fn k; refine (HA.out.gives _ (out s j) HO.out hb).mono ?_; rintro e w' ⟨rfl, hb'⟩; rw [HP.out]))
          go_roundw
          case rel => exact ⟨j + 1, by omega, by go_num, HN.out, bfrom hb hb'⟩
          case measure => simp [intOf]; omega
        · have HP := Lib.hid hp
          have HN := Lib.hid (show noneOut p s n = false from allK_false (k := n) j hlt (by rw [hbit, hp]; rfl))
          clear hbit hp
          go_wp2_with (first | (go_at_call 92; refine (has_any s j _ (by omega) hs512).mono ?_; rintro e w' ⟨rfl, rfl⟩; rw [HB.out]) | (go_at_call 129; refine (without_any s j _ (by omega) hs512).mono ?_; rintro e w' ⟨rfl, rfl⟩) | (go_at_fn k; refine (HA.out.gives _ (out s j) HO.out hb).mono ?_; rintro e w' ⟨rfl, hb'⟩; rw [HP.out]))
          go_ret
          exact ⟨by rw [HN.out]; rfl, bfrom hb hb'⟩
    · obtain rfl : j = n := by omega
      go_wp2
      go_ret
      exact ⟨by rw [HL.out]; rfl, hb⟩
end Go.Proofs.Ythjooblibkckmaa
