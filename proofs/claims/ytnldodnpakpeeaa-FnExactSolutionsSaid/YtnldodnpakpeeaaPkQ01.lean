/- Texts of W2, L1. -/
import Derived.Test.YtnldodnpakpeeaaPkQ00
import Derived.Deep.RegionHeld3
import Derived.Laws.BitsAllLaws
import Derived.Lib.Hide
namespace Go.Proofs.Ytnldodnpakpeeaa
open Go.RowKit Vo

theorem bit_and (s k : Nat) (hs : s < 512) : (bits BinOp.and IntKind.u64 (↑s / 2 ^ k) 1 == 1) = s.testBit k := by
  have e : ((s : Int) / 2 ^ k) = ((s / 2 ^ k : Nat) : Int) := by simp
  have hle : s / 2 ^ k ≤ s := Nat.div_le_self _ _
  rw [e]
  generalize hm : s / 2 ^ k = m at *
  rw [and_one_u64 _ (by omega) (by omega)]
  rw [Nat.testBit_eq_decide_div_mod_eq, hm]
  by_cases h : m % 2 = 1
  · have : (m : Int) % 2 = 1 := by omega
    simp [h, this]
  · have h0 : m % 2 = 0 := by omega
    have : (m : Int) % 2 = 0 := by omega
    simp [h0, this]

theorem all_wrap (n : Nat) (hn : n < 10) : IntKind.u64.wrap (IntKind.u64.wrap (2 ^ n) - 1) = ((2 ^ n - 1 : Nat) : Int) := by
  have : n = 0 ∨ n = 1 ∨ n = 2 ∨ n = 3 ∨ n = 4 ∨ n = 5 ∨ n = 6 ∨ n = 7 ∨ n = 8 ∨ n = 9 := by omega
  rcases this with h | h | h | h | h | h | h | h | h | h <;> subst h <;> rfl

theorem and_not (n s : Nat) (hn : n < 10) (hs : s < 2^n) : bits BinOp.andNot IntKind.u64 ((2^n - 1 : Nat) : Int) (s : Int) = ((co n s : Nat) : Int) := by
  have h512 := pow_lt (n := n) (by omega)
  rw [u64_andNot_nat _ _ (by omega) (by omega)]
  congr 1
  apply Nat.eq_of_testBit_eq
  intro j
  rw [testBit_co hs, Nat.testBit_and, Nat.testBit_two_pow_sub_one]
  by_cases hj : j < n
  · have e : (18446744073709551615 - s).testBit j = !s.testBit j := by
      have := @Nat.testBit_two_pow_sub_succ s 64 (by omega) j
      rw [show 18446744073709551615 - s = 2^64 - (s + 1) by omega, this]
      have : decide (j < 64) = true := by simp; omega
      simp [this]
    rw [e]
  · simp [hj]

set_option maxHeartbeats 400000 in
theorem has_any (s k : Nat) (w : World) (hk : k < 64) (hs : s < 512) :
    Calls Try.prog 123 #[.int .u64 s, .int .i64 k] w fun e w' => e = .returned (.bool (s.testBit k)) ∧ w = w' := by
  go_enter Try.func123, Try.ntmps123
  go_wp2
  go_ret
  exact ⟨ret_bool (bit_and s k hs), rfl⟩

set_option maxHeartbeats 400000 in
theorem allMembers_any (n : Nat) (w : World) (hn : n < 10) :
    Calls Try.prog 235 #[.int .i64 n] w fun e w' => e = .returned (.int .u64 ((2^n - 1 : Nat) : Int)) ∧ w = w' := by
  go_enter Try.func235, Try.ntmps235
  go_wp2
  go_ret
  exact ⟨ret_int (all_wrap n hn), rfl⟩

set_option maxHeartbeats 400000 in
theorem members_any (v : Value) (a : Option Addr) (n cap : Nat) (w : World) :
    Calls Try.prog 133 #[.agg #[v, .slice a n cap]] w fun e w' => e = .returned (.int .i64 n) ∧ Below w.heap.size w w' := by
  go_enter Try.func133, Try.ntmps133
  go_wp2
  go_ret
  exact ⟨rfl, below1 _ _⟩

set_option maxHeartbeats 400000 in
theorem everybody_any (v : Value) (a : Option Addr) (n cap : Nat) (w : World) (hn : n < 10) :
    Calls Try.prog 214 #[.agg #[v, .slice a n cap]] w fun e w' => e = .returned (.int .u64 ((2^n - 1 : Nat) : Int)) ∧ Below w.heap.size w w' := by
  go_enter Try.func214, Try.ntmps214
  go_wp2_with fail
  refine (members_any _ _ _ _ _).mono ?_
  rintro e w1 ⟨rfl, hb⟩
  go_wp2_with fail
  refine (allMembers_any _ _ hn).mono ?_
  rintro e w2 ⟨rfl, rfl⟩
  go_wp2
  go_ret
  exact ⟨rfl, bfrom (below1 _ _) hb⟩

set_option maxHeartbeats 400000 in
theorem of_any (b off n cap : Nat) (ws : List Int) (s : Nat) (w : World) (hn : n < 10) (hs : s < 512) (hok : InK 0 1000 ws n) (hsl : Sl w b off n ws) :
    Calls Try.prog 216 #[.slice (some ⟨b, off, none⟩) n cap, .int .u64 s] w fun e w' => e = .returned (.int .i64 (wtK ws s n)) ∧ w = w' := by
  obtain ⟨hlt, hc⟩ := hsl
  have HOK := Lib.hid hok
  clear hok
  have HC := Lib.hid hc
  clear hc
  go_enter Try.func216, Try.ntmps216
  go_wp2
  go_loop [5, 10] (fun t i => ∃ k : Nat, k ≤ n ∧ i = .int .i64 k ∧ t = .int .i64 (wtK ws s k)) (fun _ i => n - (intOf i).toNat)
  case atStart => exact ⟨0, Nat.zero_le _, rfl, rfl⟩
  case round =>
    obtain ⟨k, hk, rfl, rfl⟩ := hrel
    have w0 := wtK_bd (s := s) (InK.mono HOK.out hk)
    have s0 := sumK_bd (InK.mono HOK.out hk)
    by_cases hlt : k < n
    · have w1 := HOK.out k hlt
      have hcell : w.cell? ⟨b, off + k, none⟩ = some (.int .i64 (ws.getD k 0)) := HC.out k hlt
      have HS := Lib.hid (show wtK ws s (k+1) = wtK ws s k + if s.testBit k then ws.getD k 0 else 0 from rfl)
      generalize ws.getD k 0 = x at *
      generalize wtK ws s k = t at *
      cases hbit : s.testBit k
      all_goals
        have HB := Lib.hid hbit
        clear hbit
        rw [HB.out] at HS
        go_wp2_with (go_at_call 123; refine (has_any _ _ _ (by omega) (by omega)).mono ?_; rintro e w' ⟨rfl, rfl⟩; rw [HB.out])
        go_round
        case rel => exact ⟨k + 1, by omega, by go_num, by rw [HS.out]; simp⟩
        case measure => simp [intOf]; omega
    · obtain rfl : k = n := by omega
      go_wp2
      go_ret
      exact ⟨rfl, rfl⟩

set_option maxHeartbeats 400000 in
theorem weights_any (v : Value) (a : Option Addr) (n cap : Nat) (w : World) :
    Calls Try.prog 215 #[.agg #[v, .slice a n cap]] w fun e w' => e = .returned (.slice a n cap) ∧ Below w.heap.size w w' := by
  go_enter Try.func215, Try.ntmps215
  go_wp2
  go_ret
  exact ⟨rfl, below1 _ _⟩

set_option maxHeartbeats 400000 in
theorem weightOf_any (v : Value) (b off n cap : Nat) (ws : List Int) (s : Nat) (w : World) (hn : n < 10) (hs : s < 512) (hok : InK 0 1000 ws n) (hsl : Sl w b off n ws) :
    Calls Try.prog 199 #[.agg #[v, .slice (some ⟨b, off, none⟩) n cap], .int .u64 s] w fun e w' => e = .returned (.int .i64 (wtK ws s n)) ∧ Below w.heap.size w w' := by
  have HOK := Lib.hid hok
  have HSL := Lib.hid hsl
  clear hok hsl
  have hb0 := below1 w (.cells #[v, .slice (some ⟨b, off, none⟩) n cap] 116)
  go_enter Try.func199, Try.ntmps199
  go_wp2_with fail
  refine (weights_any v _ n cap _).mono ?_
  rintro e w1 ⟨rfl, hb1⟩
  have g1 := bfrom hb0 hb1
  go_wp2_with fail
  refine (of_any b off n cap ws s _ hn hs HOK.out (HSL.out.now g1)).mono ?_
  rintro e w2 ⟨rfl, rfl⟩
  go_wp2
  go_ret
  exact ⟨rfl, g1⟩

set_option maxHeartbeats 1000000 in
theorem wins_any (q : Int) (b off n cap : Nat) (ws : List Int) (s : Nat) (w : World) (hn : n < 10) (hs : s < 512) (hok : InK 0 1000 ws n) (hsl : Sl w b off n ws) :
    Calls Try.prog 174 #[.agg #[.int .i64 q, .slice (some ⟨b, off, none⟩) n cap], .int .u64 s] w fun e w' => e = .returned (.bool (decide (q ≤ wtK ws s n))) ∧ Below w.heap.size w w' := by
  have HOK := Lib.hid hok
  have HSL := Lib.hid hsl
  clear hok hsl
  go_enter Try.func174, Try.ntmps174
  go_wp2_with fail
  have hx := Box.new w (.int .i64 q) (.slice (some ⟨b, off, none⟩) n cap)
  go_region_held3 (fun w' => w'.cell? ⟨w.heap.size, 0, none⟩ = some (.int .i64 q) ∧ w'.cell? ⟨w.heap.size, 1, none⟩ = some (.slice (some ⟨b, off, none⟩) n cap))
    (first | go_keep | exact hc)
    (first | (go_at_call 199; refine (weightOf_any _ b off n cap ws s _ hn hs HOK.out ((HSL.out.alloc _).drew)).mono ?_; rintro e w1 ⟨rfl, hb⟩; have hc := (hx.drew.now hb).cells))
  go_wp2
  go_ret
  exact ⟨rfl, bfrom ((below1 w _).drew) hb⟩

set_option maxHeartbeats 400000 in
theorem loses_any (q : Int) (b off n cap : Nat) (ws : List Int) (s : Nat) (w : World) (hn : n < 10) (hs : s < 512) (hok : InK 0 1000 ws n) (hsl : Sl w b off n ws) :
    Calls Try.prog 136 #[.agg #[.int .i64 q, .slice (some ⟨b, off, none⟩) n cap], .int .u64 s] w fun e w' => e = .returned (.bool (!decide (q ≤ wtK ws s n))) ∧ Below w.heap.size w w' := by
  have HOK := Lib.hid hok
  have HSL := Lib.hid hsl
  clear hok hsl
  go_enter Try.func136, Try.ntmps136
  go_wp2_with fail
  refine (wins_any q b off n cap ws s _ hn hs HOK.out (HSL.out.alloc _)).mono ?_
  rintro e w1 ⟨rfl, hb⟩
  go_wp2
  go_ret
  exact ⟨by simp, bfrom (below1 w _) hb⟩

end Go.Proofs.Ytnldodnpakpeeaa

namespace Go.Proofs.Ytnldodnpakpeeaa
open Go.RowKit Vo

/-- A number for each of so many members as a committee may have, all of them in lo .. hi. -/
def numsB (lo hi : Int) (xs : List Int) (n : Nat) : Bool := decide (1 ≤ n ∧ n ≤ 9 ∧ InK lo hi xs n)
theorem numsB_yes {lo hi : Int} {xs : List Int} {n : Nat} (h1 : 1 ≤ n) (h2 : n ≤ 9) (h : InK lo hi xs n) : numsB lo hi xs n = true := decide_eq_true ⟨h1, h2, h⟩
theorem numsB_no {lo hi : Int} {xs : List Int} {n : Nat} (h : ¬ InK lo hi xs n) : numsB lo hi xs n = false := decide_eq_false fun g => h g.2.2
theorem numsB_len {lo hi : Int} {xs : List Int} {n : Nat} (h : n < 1 ∨ 9 < n) : numsB lo hi xs n = false := decide_eq_false fun g => by omega
theorem numsB_parts {lo hi : Int} {xs : List Int} {n : Nat} (h : numsB lo hi xs n = true) : 1 ≤ n ∧ n ≤ 9 ∧ InK lo hi xs n := of_decide_eq_true h

set_option maxHeartbeats 400000 in
theorem areNumbers_len (A : Option Addr) (n cap : Nat) (lo hi : Int) (w : World) (hm : n ≤ 9223372036854775807) (h : n < 1 ∨ 9 < n) :
    Calls Try.prog 213 #[.slice A n cap, .int .i64 lo, .int .i64 hi] w fun e w' => e = .returned (.bool false) ∧ w = w' := by
  rcases h with h | h
  · go_enter Try.func213, Try.ntmps213
    go_wp2
    go_ret
    exact ⟨rfl, rfl⟩
  · have h' : ¬ n < 1 := by omega
    go_enter Try.func213, Try.ntmps213
    go_wp2
    go_ret
    exact ⟨rfl, rfl⟩

set_option maxHeartbeats 1000000 in
theorem areNumbers_in (b off n cap : Nat) (lo hi : Int) (xs : List Int) (w : World) (h1 : 1 ≤ n) (h9 : n ≤ 9) (hsl : Sl w b off n xs) :
    Calls Try.prog 213 #[.slice (some ⟨b, off, none⟩) n cap, .int .i64 lo, .int .i64 hi] w fun e w' => e = .returned (.bool (numsB lo hi xs n)) ∧ w = w' := by
  have HSL := Lib.hid hsl
  clear hsl
  have hlt0 := HSL.out.lt
  have h2 : ¬ n < 1 := by omega
  have hl9 : ¬ 9 < n := by omega
  go_enter Try.func213, Try.ntmps213
  go_wp2
  go_loop [8, 19] (fun _ i => ∃ k : Nat, k ≤ n ∧ i = .int .i64 k ∧ InK lo hi xs k) (fun _ i => n - (intOf i).toNat)
  case atStart => exact ⟨0, Nat.zero_le _, rfl, InK.zero⟩
  case round =>
    obtain ⟨k, hk, rfl, hin⟩ := hrel
    have HIN := Lib.hid hin
    clear hin
    by_cases hlt : k < n
    · have hcell : w.cell? ⟨b, off + k, none⟩ = some (.int .i64 (xs.getD k 0)) := HSL.out.cell k hlt
      by_cases hw : lo ≤ xs.getD k 0 ∧ xs.getD k 0 ≤ hi
      · have HS := Lib.hid (HIN.out.succ hw.1 hw.2)
        generalize xs.getD k 0 = x at *
        obtain ⟨hw1, hw2⟩ := hw
        go_wp2
        go_round
        case rel => exact ⟨k + 1, by omega, by go_num, HS.out⟩
        case measure => simp [intOf]; omega
      · have HB := Lib.hid (numsB_no (lo := lo) (hi := hi) (xs := xs) (n := n) (fun g => hw (g k hlt)))
        have hw' : xs.getD k 0 < lo ∨ (lo ≤ xs.getD k 0 ∧ hi < xs.getD k 0) := by omega
        clear hw
        generalize xs.getD k 0 = x at *
        rcases hw' with hw | ⟨hwa, hw⟩
        all_goals
          go_wp2
          go_ret
          exact ⟨by rw [HB.out]; rfl, rfl⟩
    · obtain rfl : k = n := by omega
      go_wp2
      go_ret
      exact ⟨by rw [numsB_yes h1 h9 HIN.out]; rfl, rfl⟩

/-- The slice of a committee with n members is known where n lies in 1 .. 9. -/
def Known (w : World) (A : Option Addr) (n : Nat) (ws : List Int) : Prop := ∃ b off, (1 ≤ n → A = some ⟨b, off, none⟩) ∧ (1 ≤ n → Sl w b off n ws)
theorem Known.get {w : World} {A : Option Addr} {n : Nat} {ws : List Int} (h : Known w A n ws) (h1 : 1 ≤ n) : ∃ b off, A = some ⟨b, off, none⟩ ∧ Sl w b off n ws := by
  obtain ⟨b, off, h2, h3⟩ := h; exact ⟨b, off, h2 h1, h3 h1⟩
theorem Known.of {w : World} {b off n : Nat} {ws : List Int} (h : Sl w b off n ws) : Known w (some ⟨b, off, none⟩) n ws := ⟨b, off, fun _ => rfl, fun _ => h⟩
theorem Known.now {w w' : World} {A : Option Addr} {n : Nat} {ws : List Int} (h : Known w A n ws) (hb : Below w.heap.size w w') : Known w' A n ws := by
  obtain ⟨b, off, h2, h3⟩ := h; exact ⟨b, off, h2, fun h => (h3 h).now hb⟩

theorem areNumbers_any (A : Option Addr) (n cap : Nat) (lo hi : Int) (xs : List Int) (w : World) (hm : n ≤ 9223372036854775807) (hk : Known w A n xs) :
    Calls Try.prog 213 #[.slice A n cap, .int .i64 lo, .int .i64 hi] w fun e w' => e = .returned (.bool (numsB lo hi xs n)) ∧ w = w' := by
  by_cases h : n < 1 ∨ 9 < n
  · rw [numsB_len h]
    exact areNumbers_len A n cap lo hi w hm h
  · obtain ⟨b, off, rfl, hsl⟩ := hk.get (by omega)
    exact areNumbers_in b off n cap lo hi xs w (by omega) (by omega) hsl

set_option maxHeartbeats 1000000 in
theorem isCommittee_any (q : Int) (A : Option Addr) (n cap : Nat) (ws : List Int) (w : World) (hm : n ≤ 9223372036854775807) (hk : Known w A n ws) :
    Calls Try.prog 197 #[.agg #[.int .i64 q, .slice A n cap]] w fun e w' => e = .returned (.bool (goodB q ws n)) ∧ Below w.heap.size w w' := by
  have HK := Lib.hid hk
  clear hk
  have hx := Box.new w (.int .i64 q) (.slice A n cap)
  have hb0 := below1 w (.cells #[.int .i64 q, .slice A n cap] 116)
  cases hnb : numsB 0 1000 ws n with
  | false =>
    have HN := Lib.hid hnb
    have HB := Lib.hid (goodB_false (q := q) (ws := ws) (n := n) (fun g => by rw [numsB_yes g.lo g.hi g.ok] at hnb; cases hnb))
    clear hnb
    go_enter Try.func197, Try.ntmps197
    go_wp2_with fail
    refine (areNumbers_any A n cap 0 1000 ws _ hm (HK.out.now hb0)).mono ?_
    rintro e w1 ⟨rfl, rfl⟩
    rw [HN.out]
    go_wp2
    go_ret
    exact ⟨by rw [HB.out]; rfl, hb0⟩
  | true =>
    obtain ⟨h1, h9, hin⟩ := numsB_parts hnb
    have HN := Lib.hid hnb
    have HIN := Lib.hid hin
    clear hnb hin
    obtain ⟨b, off, rfl, hsl⟩ := HK.out.get h1
    have HSL := Lib.hid hsl
    clear hsl
    go_enter Try.func197, Try.ntmps197
    go_wp2_with fail
    refine (areNumbers_any _ n cap 0 1000 ws _ hm (HK.out.now hb0)).mono ?_
    rintro e w1 ⟨rfl, rfl⟩
    rw [HN.out]
    by_cases hq : 1 ≤ q
    · have HB := Lib.hid (show goodB q ws n = decide (q ≤ wtK ws (2^n-1) n) from by
        rw [wtK_full (Nat.le_refl _)]; unfold goodB
        by_cases hqq : q ≤ sumK ws n
        · rw [decide_eq_true hqq, decide_eq_true (show Vo.Good q ws n from ⟨h1, h9, HIN.out, hq, hqq⟩)]
        · rw [decide_eq_false hqq, decide_eq_false (fun g : Vo.Good q ws n => hqq g.q2)])
      have h512 := pow_lt h9
      go_wp2_with fail
      go_region_held3 (fun w' => w'.cell? ⟨w.heap.size, 0, none⟩ = some (.int .i64 q) ∧ w'.cell? ⟨w.heap.size, 1, none⟩ = some (.slice (some ⟨b, off, none⟩) n cap))
        (first | go_keep | exact hc | exact hc2)
        (first
          | (go_at_call 214; refine (everybody_any _ _ n cap _ (by omega)).mono ?_; rintro e w1 ⟨rfl, hb⟩; have hc := (hx.drew.now hb).cells)
          | (go_at_call 174; refine (wins_any q b off n cap ws (2^n-1) _ (by omega) (by omega) HIN.out ((HSL.out.alloc _).drew.now hb)).mono ?_; rintro e w2 ⟨rfl, hb2⟩; have hc2 := ((hx.drew.now hb).now hb2).cells))
      go_wp2
      go_ret
      exact ⟨by rw [HB.out]; simp, bfrom ((below1 w _).drew) (bfrom hb hb2)⟩
    · have HB := Lib.hid (goodB_false (q := q) (ws := ws) (n := n) (fun g => hq g.q1))
      have hqd : decide (1 ≤ q) = false := by simpa using hq
      go_wp2_with fail
      go_quiet (fail)
      go_wp2
      go_ret
      exact ⟨by rw [HB.out]; simp, below_drewN (below1 w _) _⟩

theorem or_pow (s k : Nat) (hk : k < 10) (hs : s < 512) : bits BinOp.or IntKind.u64 (s : Int) (IntKind.u64.wrap (2 ^ k)) = ((s ||| 2 ^ k : Nat) : Int) := by
  have h1 : (2:Nat)^k ≤ 2^9 := Nat.pow_le_pow_right (by omega) (by omega)
  have e : IntKind.u64.wrap (2 ^ k) = ((2 ^ k : Nat) : Int) := by
    have : k = 0 ∨ k = 1 ∨ k = 2 ∨ k = 3 ∨ k = 4 ∨ k = 5 ∨ k = 6 ∨ k = 7 ∨ k = 8 ∨ k = 9 := by omega
    rcases this with h | h | h | h | h | h | h | h | h | h <;> subst h <;> rfl
  rw [e, u64_or_nat _ _ (by omega) (by omega)]

set_option maxHeartbeats 400000 in
theorem with_any (s k : Nat) (w : World) (hk : k < 10) (hs : s < 512) :
    Calls Try.prog 124 #[.int .u64 s, .int .i64 k] w fun e w' => e = .returned (.int .u64 ((s ||| 2 ^ k : Nat) : Int)) ∧ w = w' := by
  go_enter Try.func124, Try.ntmps124
  go_wp2
  go_ret
  exact ⟨ret_int (or_pow s k hk hs), rfl⟩

set_option maxHeartbeats 1000000 in
theorem readSet_any (n b off m cap : Nat) (xs : List Int) (w : World) (hn : n < 10) (hm : m ≤ 9223372036854775807) (hsl : Sl w b off m xs) :
    Calls Try.prog 206 #[.int .i64 n, .slice (some ⟨b, off, none⟩) m cap] w fun e w' => e = .returned (.tuple #[.int .u64 (ofB n xs m : Nat), .bool (riseB n xs m)]) ∧ w = w' := by
  have HSL := Lib.hid hsl
  clear hsl
  have hlt0 := HSL.out.lt
  go_enter Try.func206, Try.ntmps206
  go_wp2
  go_loop [6, 7, 9, 12] (fun s l _ i => ∃ k : Nat, k ≤ m ∧ i = .int .i64 k ∧ s = .int .u64 (ofK xs k : Nat) ∧ l = .int .i64 (lastK xs k) ∧ RiseK n xs k) (fun _ _ _ i => m - (intOf i).toNat)
  case atStart => exact ⟨0, Nat.zero_le _, rfl, rfl, rfl, RiseK.zero⟩
  case round =>
    obtain ⟨k, hk, rfl, rfl, rfl, hr⟩ := hrel
    have HR := Lib.hid hr
    have hof := ofK_lt hr
    have h512 := pow_lt (n := n) (by omega)
    have hl := lastK_ge hr
    clear hr
    by_cases hlt : k < m
    · have hcell : w.cell? ⟨b, off + k, none⟩ = some (.int .i64 (xs.getD k 0)) := HSL.out.cell k hlt
      by_cases hc : lastK xs k < xs.getD k 0 ∧ xs.getD k 0 < n
      · obtain ⟨hc1, hc2⟩ := hc
        have HS := Lib.hid (rise_step HR.out hc1 hc2)
        have HO := Lib.hid (show ofK xs (k+1) = ofK xs k ||| 2 ^ (xs.getD k 0).toNat from rfl)
        have HL := Lib.hid (show lastK xs (k+1) = xs.getD k 0 from rfl)
        obtain ⟨x, hx⟩ : ∃ x : Nat, xs.getD k 0 = x := ⟨(xs.getD k 0).toNat, by omega⟩
        rw [hx] at hcell hc1 hc2 HO HL
        clear hx
        rw [Int.toNat_natCast] at HO
        generalize ofK xs k = s at *
        generalize lastK xs k = l at *
        go_wp2_with (go_at_call 124; refine (with_any s x _ (by omega) (by omega)).mono ?_; rintro e w' ⟨rfl, rfl⟩)
        go_round
        case rel => exact ⟨k + 1, by omega, by go_num, by rw [HO.out], by rw [HL.out], HS.out⟩
        case measure => simp [intOf]; omega
      · have hc' : xs.getD k 0 ≤ lastK xs k ∨ (lastK xs k < xs.getD k 0 ∧ (n : Int) ≤ xs.getD k 0) := by omega
        have HN := Lib.hid (rise_stop (n := n) (xs := xs) hlt (by omega))
        clear hc
        generalize xs.getD k 0 = x at *
        generalize lastK xs k = l at *
        rcases hc' with hc | ⟨hc1, hc⟩
        all_goals
          go_wp2
          go_ret2
          exact ⟨by rw [ofB_no HN.out, riseB_no HN.out]; rfl, rfl⟩
    · obtain rfl : k = m := by omega
      go_wp2
      go_ret2
      exact ⟨by rw [ofB_yes HR.out, riseB_yes HR.out]; rfl, rfl⟩

def okB (q : Int) (ws : List Int) (n : Nat) (xs : List Int) (m : Nat) : Bool := goodB q ws n && riseB n xs m
def okS (q : Int) (ws : List Int) (n : Nat) (xs : List Int) (m : Nat) : Nat := if okB q ws n xs m then ofK xs m else 0
theorem okS_yes {q ws n xs m} (h : okB q ws n xs m = true) : okS q ws n xs m = ofK xs m := if_pos h
theorem okS_no {q ws n xs m} (h : okB q ws n xs m = false) : okS q ws n xs m = 0 := if_neg (by rw [h]; simp)

end Go.Proofs.Ytnldodnpakpeeaa

namespace Go.Proofs.Ytnldodnpakpeeaa
open Go.RowKit Vo

set_option maxHeartbeats 400000 in
theorem szIntS_yes (A : Option Addr) (n cap : Nat) (l : Int) (w : World) (h0 : (n : Int) ≤ l) (h1 : l ≤ 1048576) :
    Calls Try.prog 112 #[.slice A n cap, .int .i64 l] w fun e w' => e = .returned (.int .i64 (l - n)) ∧ w = w' := by
  go_enter Try.func112, Try.ntmps112
  go_wp2
  go_ret
  exact ⟨rfl, rfl⟩
set_option maxHeartbeats 400000 in
theorem szIntS_no (A : Option Addr) (n cap : Nat) (l : Int) (w : World) (hm : n ≤ 9223372036854775807) (hl : 0 ≤ l) (h0 : l < (n : Int)) (h1 : l ≤ 1048576) :
    Calls Try.prog 112 #[.slice A n cap, .int .i64 l] w fun e w' => e = .returned (.int .i64 (-1)) ∧ w = w' := by
  go_enter Try.func112, Try.ntmps112
  go_wp2
  go_ret
  exact ⟨rfl, rfl⟩

set_option maxHeartbeats 400000 in
theorem szCommittee_yes (v : Value) (A : Option Addr) (n cap : Nat) (w : World) (h0 : n ≤ 1048576) :
    Calls Try.prog 78 #[.agg #[v, .slice A n cap], .int .i64 1048576] w fun e w' => e = .returned (.int .i64 (1048576 - n)) ∧ Below w.heap.size w w' := by
  go_enter Try.func78, Try.ntmps78
  go_wp2_with fail
  refine (szIntS_yes A n cap 1048576 _ (by omega) (by omega)).mono ?_
  rintro e w1 ⟨rfl, rfl⟩
  go_wp2
  go_ret
  exact ⟨rfl, below1 _ _⟩
set_option maxHeartbeats 400000 in
theorem szCommittee_no (v : Value) (A : Option Addr) (n cap : Nat) (w : World) (hm : n ≤ 9223372036854775807) (h0 : 1048576 < n) :
    Calls Try.prog 78 #[.agg #[v, .slice A n cap], .int .i64 1048576] w fun e w' => e = .returned (.int .i64 (-1)) ∧ Below w.heap.size w w' := by
  go_enter Try.func78, Try.ntmps78
  go_wp2_with fail
  refine (szIntS_no A n cap 1048576 _ hm (by omega) (by omega) (by omega)).mono ?_
  rintro e w1 ⟨rfl, rfl⟩
  go_wp2
  go_ret
  exact ⟨rfl, below1 _ _⟩

set_option maxHeartbeats 1000000 in
theorem toIntS_any (A : Option Addr) (n cap : Nat) (xs : List Int) (w : World) (hn : n ≤ 1048576) (hk : Known w A n xs) :
    Calls Try.prog 119 #[.slice A n cap] w fun e w' => e = .returned (.slice (some ⟨w.heap.size, 0, none⟩) n n) ∧ Ints w' w.heap.size n xs ∧ Below w.heap.size w w' := by
  have hmk := run_make_row' (P := Try.prog) 35 3 (.int .i64 0) 8 Try.underlying35 infoInt rfl .i64 .i64 n (by omega) (by omega)
  have HK := Lib.hid hk
  clear hk
  go_enter Try.func119, Try.ntmps119
  go_wp2
  go_loopw [4] (fun i wr => ∃ k : Nat, k ≤ n ∧ i = .int .i64 k ∧ Own wr w.heap.size 3 n (fun j => .int .i64 (if j < k then xs.getD j 0 else 0)) ∧ Below w.heap.size w wr) (fun i _ => n - (intOf i).toNat)
  case atStart =>
    refine ⟨0, Nat.zero_le _, rfl, ?_, below1 _ _⟩
    refine (Own.of_row (World.rowIs_made w (.int .i64 0) n 3)).congr fun i _ => ?_
    simp
  case round =>
    obtain ⟨k, hk, rfl, hown, hb⟩ := hrel
    have HO := Lib.hid hown
    clear hown
    by_cases hlt : k < n
    · obtain ⟨b, off, rfl, hsl⟩ := HK.out.get (by omega)
      have hcell := (hsl.now hb).cell k hlt
      have hbl := hsl.lt
      have hold := HO.out.cell hlt
      have hfr := HO.out.frozen k
      have HS := Lib.hid (HO.out.set k (.int .i64 (xs.getD k 0)))
      clear hsl
      simp only [Nat.lt_irrefl, if_false] at hold
      obtain ⟨x, hxe⟩ : ∃ x, x = xs.getD k 0 := ⟨_, rfl⟩
      rw [← hxe] at hcell HS
      have HX := Lib.hid hxe
      clear hxe
      go_wp2
      go_roundw
      case rel =>
        refine ⟨k + 1, by omega, by go_num, ?_, hb.setCell (Nat.le_refl _) _⟩
        refine HS.out.congr fun i hi => ?_
        by_cases e : i = k
        · subst e; rw [if_pos rfl, if_pos (by omega), HX.out]
        · rw [if_neg e]
          by_cases h : i < k
          · rw [if_pos h, if_pos (by omega)]
          · rw [if_neg h, if_neg (by omega)]
      case measure => simp [intOf]; omega
    · obtain rfl : k = n := by omega
      go_wp2
      go_ret
      refine ⟨rfl, HO.out.congr fun i hi => by simp [hi], hb⟩

set_option maxHeartbeats 1000000 in
theorem toCommittee_any (q : Int) (A : Option Addr) (n cap : Nat) (xs : List Int) (w : World) (hn : n ≤ 1048576) (hk : Known w A n xs) :
    Calls Try.prog 82 #[.agg #[.int .i64 q, .slice A n cap]] w fun e w' => e = .returned (.agg #[.int .i64 q, .slice (some ⟨w.heap.size + 3, 0, none⟩) n n]) ∧ Ints w' (w.heap.size + 3) n xs ∧ Below w.heap.size w w' := by
  have HK := Lib.hid hk
  clear hk
  go_enter Try.func82, Try.ntmps82
  go_wp2_with fail
  refine (toIntS_any A n cap xs _ hn (((HK.out.now (below1 _ _)).now (below1 _ _)).now (below1 _ _))).mono ?_
  rintro e w4 ⟨rfl, hI, hb⟩
  have HI := Lib.hid hI
  clear hI
  obtain ⟨hc, hf⟩ := bcell hb
  have hz := hb.size
  simp only [World.size_alloc] at hc hf hz
  go_wp2
  have hI := HI.out
  simp only [World.size_alloc] at hI
  refine bodyPost_ret (v := .agg #[.int .i64 q, .slice (some ⟨w.heap.size + 3, 0, none⟩) n n]) (by simp [results, Try.results82, go_sem, hc]) rfl ⟨rfl, ?_, ?_⟩
  · exact ((hI.far (by simp) _).far (by simp; omega) _).far (by simp; omega) _
  · exact (((bfrom (((below1 w _).alloc (by simp) _).alloc (by simp; omega) _) hb).setCell (by simp; omega) _).setCell (by simp) _).setCell (by simp) _

/-- The first n of two lists are the same. -/
def sameB (xs ys : List Int) (n : Nat) : Bool := decide (∀ j, j < n → xs.getD j 0 = ys.getD j 0)
theorem sameB_yes {xs ys : List Int} {n : Nat} (h : ∀ j, j < n → xs.getD j 0 = ys.getD j 0) : sameB xs ys n = true := decide_eq_true h
theorem sameB_no {xs ys : List Int} {n : Nat} (h : ¬ ∀ j, j < n → xs.getD j 0 = ys.getD j 0) : sameB xs ys n = false := decide_eq_false h

set_option maxHeartbeats 1000000 in
theorem eqIntS_in (b off n c b2 off2 c2 : Nat) (xs ys : List Int) (w : World) (hm : n ≤ 9223372036854775807) (hx : Sl w b off n xs) (hy : Sl w b2 off2 n ys) :
    Calls Try.prog 19 #[.slice (some ⟨b, off, none⟩) n c, .slice (some ⟨b2, off2, none⟩) n c2] w fun e w' => e = .returned (.bool (sameB xs ys n)) ∧ Below w.heap.size w w' := by
  have HX := Lib.hid hx
  have HY := Lib.hid hy
  clear hx hy
  go_enter Try.func19, Try.ntmps19
  go_wp2
  go_loopw [5] (fun i wr => ∃ k : Nat, k ≤ n ∧ i = .int .i64 k ∧ (∀ j, j < k → xs.getD j 0 = ys.getD j 0) ∧ Below w.heap.size w wr) (fun i _ => n - (intOf i).toNat)
  case atStart => exact ⟨0, Nat.zero_le _, rfl, fun _ h => by omega, Below.refl _ _⟩
  case round =>
    obtain ⟨k, hk, rfl, hsame, hb⟩ := hrel
    have HS := Lib.hid hsame
    clear hsame
    by_cases hlt : k < n
    · have hcx := (HX.out.now hb).cell k hlt
      have hcy := (HY.out.now hb).cell k hlt
      by_cases he : xs.getD k 0 = ys.getD k 0
      · have HS2 := Lib.hid (show ∀ j, j < k + 1 → xs.getD j 0 = ys.getD j 0 from fun j hj => by
          by_cases e : j = k
          · subst e; exact he
          · exact HS.out j (by omega))
        rw [he] at hcx
        clear he
        generalize ys.getD k 0 = y at *
        have hlt' : (k : Int) < n := by omega
        go_wp2_with fail
        go_quiet (fail)
        go_wp2
        go_roundw
        case rel => exact ⟨k + 1, by omega, by go_num, HS2.out, below_drewN hb _⟩
        case measure => simp [intOf]; omega
      · have HN := Lib.hid (sameB_no (fun g => he (g k hlt)))
        have hne : (xs.getD k 0 == ys.getD k 0) = false := by simpa using he
        have hne2 : (xs.getD k 0 != ys.getD k 0) = true := by simpa using he
        generalize xs.getD k 0 = x at *
        generalize ys.getD k 0 = y at *
        have hlt' : (k : Int) < n := by omega
        go_wp2_with fail
        go_quiet (fail)
        go_wp2
        go_ret
        exact ⟨by rw [HN.out]; rfl, below_drewN hb _⟩
    · obtain rfl : k = n := by omega
      go_wp2
      go_ret
      exact ⟨by rw [sameB_yes HS.out]; rfl, hb⟩

set_option maxHeartbeats 1000000 in
theorem eqCommittee_same (q : Int) (b off n c b2 off2 c2 : Nat) (ws : List Int) (w : World) (hm : n ≤ 9223372036854775807) (hx : Sl w b off n ws) (hy : Sl w b2 off2 n ws) :
    Calls Try.prog 89 #[.agg #[.int .i64 q, .slice (some ⟨b, off, none⟩) n c], .agg #[.int .i64 q, .slice (some ⟨b2, off2, none⟩) n c2]] w fun e w' => e = .returned (.bool true) ∧ Below w.heap.size w w' := by
  have HX := Lib.hid hx
  have HY := Lib.hid hy
  clear hx hy
  have HS := Lib.hid (sameB_yes (xs := ws) (ys := ws) (n := n) (fun _ _ => rfl))
  go_enter Try.func89, Try.ntmps89
  go_wp2_with fail
  refine (eqIntS_in b off n c b2 off2 c2 ws ws _ hm ((HX.out.alloc _).alloc _) ((HY.out.alloc _).alloc _)).mono ?_
  rintro e w1 ⟨rfl, hb⟩
  rw [HS.out]
  go_wp2
  go_ret
  exact ⟨rfl, bfrom ((below1 w _).alloc (by simp) _) hb⟩
end Go.Proofs.Ytnldodnpakpeeaa
