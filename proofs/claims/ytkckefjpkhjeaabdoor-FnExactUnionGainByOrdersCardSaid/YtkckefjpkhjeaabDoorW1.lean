/- Contracts of the smallest functions: a set's bits; members; weights of sets; who wins. -/
import Derived.Test.YtkckefjpkhjeaabDoorBase
import Derived.Deep.RegionHeld3
import Derived.Laws.BitsAllLaws
import Derived.Lib.Hide
namespace Go.Proofs.YtkckefjpkhjeaabDoor
open Go.RowKit Vo

theorem bit_and (s k : Nat) (hs : s < 512) : (bits BinOp.and IntKind.u64 (↑s / 2 ^ k) 1 == 1) = s.testBit k := by
  have e : ((s : Int) / 2 ^ k) = ((s / 2 ^ k : Nat) : Int) := by simp
  have hle : s / 2 ^ k ≤ s := Nat.div_le_self _ _
  rw [e]
  generalize hm : s / 2 ^ k = m at *
  rw [and_one_u64 _ (by omega) (by omega)]
  rw [Nat.testBit_eq_decide_div_mod_eq, hm]
  by_cases h : m % 2 = 1
  · have : (m : Int) % 2 = 1 := by omega
    simp [h, this]
  · have h0 : m % 2 = 0 := by omega
    have : (m : Int) % 2 = 0 := by omega
    simp [h0, this]

theorem all_wrap (n : Nat) (hn : n < 10) : IntKind.u64.wrap (IntKind.u64.wrap (2 ^ n) - 1) = ((2 ^ n - 1 : Nat) : Int) := by
  have : n = 0 ∨ n = 1 ∨ n = 2 ∨ n = 3 ∨ n = 4 ∨ n = 5 ∨ n = 6 ∨ n = 7 ∨ n = 8 ∨ n = 9 := by omega
  rcases this with h | h | h | h | h | h | h | h | h | h <;> subst h <;> rfl

theorem and_not (n s : Nat) (hn : n < 10) (hs : s < 2^n) : bits BinOp.andNot IntKind.u64 ((2^n - 1 : Nat) : Int) (s : Int) = ((co n s : Nat) : Int) := by
  have h512 := pow_lt (n := n) (by omega)
  rw [u64_andNot_nat _ _ (by omega) (by omega)]
  congr 1
  apply Nat.eq_of_testBit_eq
  intro j
  rw [testBit_co hs, Nat.testBit_and, Nat.testBit_two_pow_sub_one]
  by_cases hj : j < n
  · have e : (18446744073709551615 - s).testBit j = !s.testBit j := by
      have := @Nat.testBit_two_pow_sub_succ s 64 (by omega) j
      rw [show 18446744073709551615 - s = 2^64 - (s + 1) by omega, this]
      have : decide (j < 64) = true := by simp; omega
      simp [this]
    rw [e]
  · simp [hj]

set_option maxHeartbeats 400000 in
theorem has_any (s k : Nat) (w : World) (hk : k < 64) (hs : s < 512) :
    Calls Tryd.prog 101 #[.int .u64 s, .int .i64 k] w fun e w' => e = .returned (.bool (s.testBit k)) ∧ w = w' := by
  go_enter Tryd.func101, Tryd.ntmps101
  go_wp2
  go_ret
  exact ⟨ret_bool (bit_and s k hs), rfl⟩

set_option maxHeartbeats 400000 in
theorem allMembers_any (n : Nat) (w : World) (hn : n < 10) :
    Calls Tryd.prog 100 #[.int .i64 n] w fun e w' => e = .returned (.int .u64 ((2^n - 1 : Nat) : Int)) ∧ w = w' := by
  go_enter Tryd.func100, Tryd.ntmps100
  go_wp2
  go_ret
  exact ⟨ret_int (all_wrap n hn), rfl⟩

set_option maxHeartbeats 400000 in
theorem members_any (v : Value) (a : Option Addr) (n cap : Nat) (w : World) :
    Calls Tryd.prog 41 #[.agg #[v, .slice a n cap]] w fun e w' => e = .returned (.int .i64 n) ∧ Below w.heap.size w w' := by
  go_enter Tryd.func41, Tryd.ntmps41
  go_wp2
  go_ret
  exact ⟨rfl, below1 _ _⟩

set_option maxHeartbeats 400000 in
theorem everybody_any (v : Value) (a : Option Addr) (n cap : Nat) (w : World) (hn : n < 10) :
    Calls Tryd.prog 87 #[.agg #[v, .slice a n cap]] w fun e w' => e = .returned (.int .u64 ((2^n - 1 : Nat) : Int)) ∧ Below w.heap.size w w' := by
  go_enter Tryd.func87, Tryd.ntmps87
  go_wp2_with fail
  refine (members_any _ _ _ _ _).mono ?_
  rintro e w1 ⟨rfl, hb⟩
  go_wp2_with fail
  refine (allMembers_any _ _ hn).mono ?_
  rintro e w2 ⟨rfl, rfl⟩
  go_wp2
  go_ret
  exact ⟨rfl, bfrom (below1 _ _) hb⟩

set_option maxHeartbeats 400000 in
theorem of_any (b off n cap : Nat) (ws : List Int) (s : Nat) (w : World) (hn : n < 10) (hs : s < 512) (hok : InK 0 1000 ws n) (hsl : Sl w b off n ws) :
    Calls Tryd.prog 88 #[.slice (some ⟨b, off, none⟩) n cap, .int .u64 s] w fun e w' => e = .returned (.int .i64 (wtK ws s n)) ∧ w = w' := by
  obtain ⟨hlt, hc⟩ := hsl
  have HOK := Lib.hid hok
  clear hok
  have HC := Lib.hid hc
  clear hc
  go_enter Tryd.func88, Tryd.ntmps88
  go_wp2
  go_loop [5, 10] (fun t i => ∃ k : Nat, k ≤ n ∧ i = .int .i64 k ∧ t = .int .i64 (wtK ws s k)) (fun _ i => n - (intOf i).toNat)
  case atStart => exact ⟨0, Nat.zero_le _, rfl, rfl⟩
  case round =>
    obtain ⟨k, hk, rfl, rfl⟩ := hrel
    have w0 := wtK_bd (s := s) (InK.mono HOK.out hk)
    have s0 := sumK_bd (InK.mono HOK.out hk)
    by_cases hlt : k < n
    · have w1 := HOK.out k hlt
      have hcell : w.cell? ⟨b, off + k, none⟩ = some (.int .i64 (ws.getD k 0)) := HC.out k hlt
      have HS := Lib.hid (show wtK ws s (k+1) = wtK ws s k + if s.testBit k then ws.getD k 0 else 0 from rfl)
      generalize ws.getD k 0 = x at *
      generalize wtK ws s k = t at *
      cases hbit : s.testBit k
      all_goals
        have HB := Lib.hid hbit
        clear hbit
        rw [HB.out] at HS
        go_wp2_with (go_at_call 101; refine (has_any _ _ _ (by omega) (by omega)).mono ?_; rintro e w' ⟨rfl, rfl⟩; rw [HB.out])
        go_round
        case rel => exact ⟨k + 1, by omega, by go_num, by rw [HS.out]; simp⟩
        case measure => simp [intOf]; omega
    · obtain rfl : k = n := by omega
      go_wp2
      go_ret
      exact ⟨rfl, rfl⟩

set_option maxHeartbeats 400000 in
theorem weights_any (v : Value) (a : Option Addr) (n cap : Nat) (w : World) :
    Calls Tryd.prog 69 #[.agg #[v, .slice a n cap]] w fun e w' => e = .returned (.slice a n cap) ∧ Below w.heap.size w w' := by
  go_enter Tryd.func69, Tryd.ntmps69
  go_wp2
  go_ret
  exact ⟨rfl, below1 _ _⟩

set_option maxHeartbeats 400000 in
theorem weightOf_any (v : Value) (b off n cap : Nat) (ws : List Int) (s : Nat) (w : World) (hn : n < 10) (hs : s < 512) (hok : InK 0 1000 ws n) (hsl : Sl w b off n ws) :
    Calls Tryd.prog 81 #[.agg #[v, .slice (some ⟨b, off, none⟩) n cap], .int .u64 s] w fun e w' => e = .returned (.int .i64 (wtK ws s n)) ∧ Below w.heap.size w w' := by
  have HOK := Lib.hid hok
  have HSL := Lib.hid hsl
  clear hok hsl
  have hb0 := below1 w (.cells #[v, .slice (some ⟨b, off, none⟩) n cap] 26)
  go_enter Tryd.func81, Tryd.ntmps81
  go_wp2_with fail
  refine (weights_any v _ n cap _).mono ?_
  rintro e w1 ⟨rfl, hb1⟩
  have g1 := bfrom hb0 hb1
  go_wp2_with fail
  refine (of_any b off n cap ws s _ hn hs HOK.out (HSL.out.now g1)).mono ?_
  rintro e w2 ⟨rfl, rfl⟩
  go_wp2
  go_ret
  exact ⟨rfl, g1⟩

set_option maxHeartbeats 1000000 in
theorem wins_any (q : Int) (b off n cap : Nat) (ws : List Int) (s : Nat) (w : World) (hn : n < 10) (hs : s < 512) (hok : InK 0 1000 ws n) (hsl : Sl w b off n ws) :
    Calls Tryd.prog 56 #[.agg #[.int .i64 q, .slice (some ⟨b, off, none⟩) n cap], .int .u64 s] w fun e w' => e = .returned (.bool (decide (q ≤ wtK ws s n))) ∧ Below w.heap.size w w' := by
  have HOK := Lib.hid hok
  have HSL := Lib.hid hsl
  clear hok hsl
  go_enter Tryd.func56, Tryd.ntmps56
  go_wp2_with fail
  have hx := Box.new w (.int .i64 q) (.slice (some ⟨b, off, none⟩) n cap)
  go_region_held3 (fun w' => w'.cell? ⟨w.heap.size, 0, none⟩ = some (.int .i64 q) ∧ w'.cell? ⟨w.heap.size, 1, none⟩ = some (.slice (some ⟨b, off, none⟩) n cap))
    (first | go_keep | exact hc)
    (first | (go_at_call 81; refine (weightOf_any _ b off n cap ws s _ hn hs HOK.out ((HSL.out.alloc _).drew)).mono ?_; rintro e w1 ⟨rfl, hb⟩; have hc := (hx.drew.now hb).cells))
  go_wp2
  go_ret
  exact ⟨rfl, bfrom ((below1 w _).drew) hb⟩

end Go.Proofs.YtkckefjpkhjeaabDoor
