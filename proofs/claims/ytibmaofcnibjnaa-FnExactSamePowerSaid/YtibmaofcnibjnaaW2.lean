/- Contracts: what is a committee; totals; sets read; who wins and who blocks. -/
import Derived.Test.YtibmaofcnibjnaaBase
import Derived.Deep.RegionHeld3
import Derived.Laws.BitsAllLaws
import Derived.Lib.Hide
namespace Go.Proofs.Ytibmaofcnibjnaa
open Go.RowKit Vo

theorem bit_and (s k : Nat) (hs : s < 512) : (bits BinOp.and IntKind.u64 (↑s / 2 ^ k) 1 == 1) = s.testBit k := by
  have e : ((s : Int) / 2 ^ k) = ((s / 2 ^ k : Nat) : Int) := by simp
  have hle : s / 2 ^ k ≤ s := Nat.div_le_self _ _
  rw [e]
  generalize hm : s / 2 ^ k = m at *
  rw [and_one_u64 _ (by omega) (by omega)]
  rw [Nat.testBit_eq_decide_div_mod_eq, hm]
  by_cases h : m % 2 = 1
  · have : (m : Int) % 2 = 1 := by omega
    simp [h, this]
  · have h0 : m % 2 = 0 := by omega
    have : (m : Int) % 2 = 0 := by omega
    simp [h0, this]

theorem all_wrap (n : Nat) (hn : n < 10) : IntKind.u64.wrap (IntKind.u64.wrap (2 ^ n) - 1) = ((2 ^ n - 1 : Nat) : Int) := by
  have : n = 0 ∨ n = 1 ∨ n = 2 ∨ n = 3 ∨ n = 4 ∨ n = 5 ∨ n = 6 ∨ n = 7 ∨ n = 8 ∨ n = 9 := by omega
  rcases this with h | h | h | h | h | h | h | h | h | h <;> subst h <;> rfl

theorem and_not (n s : Nat) (hn : n < 10) (hs : s < 2^n) : bits BinOp.andNot IntKind.u64 ((2^n - 1 : Nat) : Int) (s : Int) = ((co n s : Nat) : Int) := by
  have h512 := pow_lt (n := n) (by omega)
  rw [u64_andNot_nat _ _ (by omega) (by omega)]
  congr 1
  apply Nat.eq_of_testBit_eq
  intro j
  rw [testBit_co hs, Nat.testBit_and, Nat.testBit_two_pow_sub_one]
  by_cases hj : j < n
  · have e : (18446744073709551615 - s).testBit j = !s.testBit j := by
      have := @Nat.testBit_two_pow_sub_succ s 64 (by omega) j
      rw [show 18446744073709551615 - s = 2^64 - (s + 1) by omega, this]
      have : decide (j < 64) = true := by simp; omega
      simp [this]
    rw [e]
  · simp [hj]

set_option maxHeartbeats 400000 in
theorem has_any (s k : Nat) (w : World) (hk : k < 64) (hs : s < 512) :
    Calls Try.prog 84 #[.int .u64 s, .int .i64 k] w fun e w' => e = .returned (.bool (s.testBit k)) ∧ w = w' := by
  go_enter Try.func84, Try.ntmps84
  go_wp2
  go_ret
  exact ⟨ret_bool (bit_and s k hs), rfl⟩

set_option maxHeartbeats 400000 in
theorem allMembers_any (n : Nat) (w : World) (hn : n < 10) :
    Calls Try.prog 79 #[.int .i64 n] w fun e w' => e = .returned (.int .u64 ((2^n - 1 : Nat) : Int)) ∧ w = w' := by
  go_enter Try.func79, Try.ntmps79
  go_wp2
  go_ret
  exact ⟨ret_int (all_wrap n hn), rfl⟩

set_option maxHeartbeats 400000 in
theorem members_any (v : Value) (a : Option Addr) (n cap : Nat) (w : World) :
    Calls Try.prog 66 #[.agg #[v, .slice a n cap]] w fun e w' => e = .returned (.int .i64 n) ∧ Below w.heap.size w w' := by
  go_enter Try.func66, Try.ntmps66
  go_wp2
  go_ret
  exact ⟨rfl, below1 _ _⟩

set_option maxHeartbeats 400000 in
theorem everybody_any (v : Value) (a : Option Addr) (n cap : Nat) (w : World) (hn : n < 10) :
    Calls Try.prog 51 #[.agg #[v, .slice a n cap]] w fun e w' => e = .returned (.int .u64 ((2^n - 1 : Nat) : Int)) ∧ Below w.heap.size w w' := by
  go_enter Try.func51, Try.ntmps51
  go_wp2_with fail
  refine (members_any _ _ _ _ _).mono ?_
  rintro e w1 ⟨rfl, hb⟩
  go_wp2_with fail
  refine (allMembers_any _ _ hn).mono ?_
  rintro e w2 ⟨rfl, rfl⟩
  go_wp2
  go_ret
  exact ⟨rfl, bfrom (below1 _ _) hb⟩

set_option maxHeartbeats 400000 in
theorem of_any (b off n cap : Nat) (ws : List Int) (s : Nat) (w : World) (hn : n < 10) (hs : s < 512) (hok : InK 0 1000 ws n) (hsl : Sl w b off n ws) :
    Calls Try.prog 76 #[.slice (some ⟨b, off, none⟩) n cap, .int .u64 s] w fun e w' => e = .returned (.int .i64 (wtK ws s n)) ∧ w = w' := by
  obtain ⟨hlt, hc⟩ := hsl
  have HOK := Lib.hid hok
  clear hok
  have HC := Lib.hid hc
  clear hc
  go_enter Try.func76, Try.ntmps76
  go_wp2
  go_loop [5, 10] (fun t i => ∃ k : Nat, k ≤ n ∧ i = .int .i64 k ∧ t = .int .i64 (wtK ws s k)) (fun _ i => n - (intOf i).toNat)
  case atStart => exact ⟨0, Nat.zero_le _, rfl, rfl⟩
  case round =>
    obtain ⟨k, hk, rfl, rfl⟩ := hrel
    have w0 := wtK_bd (s := s) (InK.mono HOK.out hk)
    have s0 := sumK_bd (InK.mono HOK.out hk)
    by_cases hlt : k < n
    · have w1 := HOK.out k hlt
      have hcell : w.cell? ⟨b, off + k, none⟩ = some (.int .i64 (ws.getD k 0)) := HC.out k hlt
      have HS := Lib.hid (show wtK ws s (k+1) = wtK ws s k + if s.testBit k then ws.getD k 0 else 0 from rfl)
      generalize ws.getD k 0 = x at *
      generalize wtK ws s k = t at *
      cases hbit : s.testBit k
      all_goals
        have HB := Lib.hid hbit
        clear hbit
        rw [HB.out] at HS
        go_wp2_with (go_at_call 84; refine (has_any _ _ _ (by omega) (by omega)).mono ?_; rintro e w' ⟨rfl, rfl⟩; rw [HB.out])
        go_round
        case rel => exact ⟨k + 1, by omega, by go_num, by rw [HS.out]; simp⟩
        case measure => simp [intOf]; omega
    · obtain rfl : k = n := by omega
      go_wp2
      go_ret
      exact ⟨rfl, rfl⟩

set_option maxHeartbeats 400000 in
theorem weights_any (v : Value) (a : Option Addr) (n cap : Nat) (w : World) :
    Calls Try.prog 75 #[.agg #[v, .slice a n cap]] w fun e w' => e = .returned (.slice a n cap) ∧ Below w.heap.size w w' := by
  go_enter Try.func75, Try.ntmps75
  go_wp2
  go_ret
  exact ⟨rfl, below1 _ _⟩

set_option maxHeartbeats 400000 in
theorem weightOf_any (v : Value) (b off n cap : Nat) (ws : List Int) (s : Nat) (w : World) (hn : n < 10) (hs : s < 512) (hok : InK 0 1000 ws n) (hsl : Sl w b off n ws) :
    Calls Try.prog 47 #[.agg #[v, .slice (some ⟨b, off, none⟩) n cap], .int .u64 s] w fun e w' => e = .returned (.int .i64 (wtK ws s n)) ∧ Below w.heap.size w w' := by
  have HOK := Lib.hid hok
  have HSL := Lib.hid hsl
  clear hok hsl
  have hb0 := below1 w (.cells #[v, .slice (some ⟨b, off, none⟩) n cap] 24)
  go_enter Try.func47, Try.ntmps47
  go_wp2_with fail
  refine (weights_any v _ n cap _).mono ?_
  rintro e w1 ⟨rfl, hb1⟩
  have g1 := bfrom hb0 hb1
  go_wp2_with fail
  refine (of_any b off n cap ws s _ hn hs HOK.out (HSL.out.now g1)).mono ?_
  rintro e w2 ⟨rfl, rfl⟩
  go_wp2
  go_ret
  exact ⟨rfl, g1⟩

set_option maxHeartbeats 1000000 in
theorem wins_any (q : Int) (b off n cap : Nat) (ws : List Int) (s : Nat) (w : World) (hn : n < 10) (hs : s < 512) (hok : InK 0 1000 ws n) (hsl : Sl w b off n ws) :
    Calls Try.prog 41 #[.agg #[.int .i64 q, .slice (some ⟨b, off, none⟩) n cap], .int .u64 s] w fun e w' => e = .returned (.bool (decide (q ≤ wtK ws s n))) ∧ Below w.heap.size w w' := by
  have HOK := Lib.hid hok
  have HSL := Lib.hid hsl
  clear hok hsl
  go_enter Try.func41, Try.ntmps41
  go_wp2_with fail
  have hx := Box.new w (.int .i64 q) (.slice (some ⟨b, off, none⟩) n cap)
  go_region_held3 (fun w' => w'.cell? ⟨w.heap.size, 0, none⟩ = some (.int .i64 q) ∧ w'.cell? ⟨w.heap.size, 1, none⟩ = some (.slice (some ⟨b, off, none⟩) n cap))
    (first | go_keep | exact hc)
    (first | (go_at_call 47; refine (weightOf_any _ b off n cap ws s _ hn hs HOK.out ((HSL.out.alloc _).drew)).mono ?_; rintro e w1 ⟨rfl, hb⟩; have hc := (hx.drew.now hb).cells))
  go_wp2
  go_ret
  exact ⟨rfl, bfrom ((below1 w _).drew) hb⟩

set_option maxHeartbeats 400000 in
theorem loses_any (q : Int) (b off n cap : Nat) (ws : List Int) (s : Nat) (w : World) (hn : n < 10) (hs : s < 512) (hok : InK 0 1000 ws n) (hsl : Sl w b off n ws) :
    Calls Try.prog 74 #[.agg #[.int .i64 q, .slice (some ⟨b, off, none⟩) n cap], .int .u64 s] w fun e w' => e = .returned (.bool (!decide (q ≤ wtK ws s n))) ∧ Below w.heap.size w w' := by
  have HOK := Lib.hid hok
  have HSL := Lib.hid hsl
  clear hok hsl
  go_enter Try.func74, Try.ntmps74
  go_wp2_with fail
  refine (wins_any q b off n cap ws s _ hn hs HOK.out (HSL.out.alloc _)).mono ?_
  rintro e w1 ⟨rfl, hb⟩
  go_wp2
  go_ret
  exact ⟨by simp, bfrom (below1 w _) hb⟩

set_option maxHeartbeats 1000000 in
theorem blocks_any (q : Int) (b off n cap : Nat) (ws : List Int) (s : Nat) (w : World) (hn : n < 10) (hs : s < 2^n) (hok : InK 0 1000 ws n) (hsl : Sl w b off n ws) :
    Calls Try.prog 45 #[.agg #[.int .i64 q, .slice (some ⟨b, off, none⟩) n cap], .int .u64 s] w fun e w' => e = .returned (.bool (!decide (q ≤ wtK ws (co n s) n))) ∧ Below w.heap.size w w' := by
  have HOK := Lib.hid hok
  have HSL := Lib.hid hsl
  have h512 := pow_lt (n := n) (by omega)
  have hco := co_lt hs
  have HE := Lib.hid (and_not n s (by omega) hs)
  clear hok hsl
  have hx := Box.new w (.int .i64 q) (.slice (some ⟨b, off, none⟩) n cap)
  go_enter Try.func45, Try.ntmps45
  go_wp2_with fail
  go_region_held3 (fun w' => w'.cell? ⟨w.heap.size, 0, none⟩ = some (.int .i64 q) ∧ w'.cell? ⟨w.heap.size, 1, none⟩ = some (.slice (some ⟨b, off, none⟩) n cap))
    (first | go_keep | exact hc | exact hc2)
    (first
      | (go_at_call 51; refine (everybody_any _ _ n cap _ hn).mono ?_; rintro e w1 ⟨rfl, hb⟩; have hc := (hx.drew.now hb).cells)
      | (go_at_call 74; rw [HE.out]; refine (loses_any q b off n cap ws (co n s) _ hn (by omega) HOK.out ((HSL.out.alloc _).drew.now hb)).mono ?_; rintro e w2 ⟨rfl, hb2⟩; have hc2 := ((hx.drew.now hb).now hb2).cells))
  go_wp2
  go_ret
  exact ⟨rfl, bfrom ((below1 w _).drew) (bfrom hb hb2)⟩
end Go.Proofs.Ytibmaofcnibjnaa

namespace Go.Proofs.Ytibmaofcnibjnaa
open Go.RowKit Vo

/-- A number for each of so many members as a committee may have, all of them in lo .. hi. -/
def numsB (lo hi : Int) (xs : List Int) (n : Nat) : Bool := decide (1 ≤ n ∧ n ≤ 9 ∧ InK lo hi xs n)
theorem numsB_yes {lo hi : Int} {xs : List Int} {n : Nat} (h1 : 1 ≤ n) (h2 : n ≤ 9) (h : InK lo hi xs n) : numsB lo hi xs n = true := decide_eq_true ⟨h1, h2, h⟩
theorem numsB_no {lo hi : Int} {xs : List Int} {n : Nat} (h : ¬ InK lo hi xs n) : numsB lo hi xs n = false := decide_eq_false fun g => h g.2.2
theorem numsB_len {lo hi : Int} {xs : List Int} {n : Nat} (h : n < 1 ∨ 9 < n) : numsB lo hi xs n = false := decide_eq_false fun g => by omega
theorem numsB_parts {lo hi : Int} {xs : List Int} {n : Nat} (h : numsB lo hi xs n = true) : 1 ≤ n ∧ n ≤ 9 ∧ InK lo hi xs n := of_decide_eq_true h

set_option maxHeartbeats 400000 in
theorem areNumbers_len (A : Option Addr) (n cap : Nat) (lo hi : Int) (w : World) (hm : n ≤ 9223372036854775807) (h : n < 1 ∨ 9 < n) :
    Calls Try.prog 50 #[.slice A n cap, .int .i64 lo, .int .i64 hi] w fun e w' => e = .returned (.bool false) ∧ w = w' := by
  rcases h with h | h
  · go_enter Try.func50, Try.ntmps50
    go_wp2
    go_ret
    exact ⟨rfl, rfl⟩
  · have h' : ¬ n < 1 := by omega
    go_enter Try.func50, Try.ntmps50
    go_wp2
    go_ret
    exact ⟨rfl, rfl⟩

set_option maxHeartbeats 1000000 in
theorem areNumbers_in (b off n cap : Nat) (lo hi : Int) (xs : List Int) (w : World) (h1 : 1 ≤ n) (h9 : n ≤ 9) (hsl : Sl w b off n xs) :
    Calls Try.prog 50 #[.slice (some ⟨b, off, none⟩) n cap, .int .i64 lo, .int .i64 hi] w fun e w' => e = .returned (.bool (numsB lo hi xs n)) ∧ w = w' := by
  have HSL := Lib.hid hsl
  clear hsl
  have hlt0 := HSL.out.lt
  have h2 : ¬ n < 1 := by omega
  have hl9 : ¬ 9 < n := by omega
  go_enter Try.func50, Try.ntmps50
  go_wp2
  go_loop [8, 19] (fun _ i => ∃ k : Nat, k ≤ n ∧ i = .int .i64 k ∧ InK lo hi xs k) (fun _ i => n - (intOf i).toNat)
  case atStart => exact ⟨0, Nat.zero_le _, rfl, InK.zero⟩
  case round =>
    obtain ⟨k, hk, rfl, hin⟩ := hrel
    have HIN := Lib.hid hin
    clear hin
    by_cases hlt : k < n
    · have hcell : w.cell? ⟨b, off + k, none⟩ = some (.int .i64 (xs.getD k 0)) := HSL.out.cell k hlt
      by_cases hw : lo ≤ xs.getD k 0 ∧ xs.getD k 0 ≤ hi
      · have HS := Lib.hid (HIN.out.succ hw.1 hw.2)
        generalize xs.getD k 0 = x at *
        obtain ⟨hw1, hw2⟩ := hw
        go_wp2
        go_round
        case rel => exact ⟨k + 1, by omega, by go_num, HS.out⟩
        case measure => simp [intOf]; omega
      · have HB := Lib.hid (numsB_no (lo := lo) (hi := hi) (xs := xs) (n := n) (fun g => hw (g k hlt)))
        have hw' : xs.getD k 0 < lo ∨ (lo ≤ xs.getD k 0 ∧ hi < xs.getD k 0) := by omega
        clear hw
        generalize xs.getD k 0 = x at *
        rcases hw' with hw | ⟨hwa, hw⟩
        all_goals
          go_wp2
          go_ret
          exact ⟨by rw [HB.out]; rfl, rfl⟩
    · obtain rfl : k = n := by omega
      go_wp2
      go_ret
      exact ⟨by rw [numsB_yes h1 h9 HIN.out]; rfl, rfl⟩

/-- The slice of a committee with n members is known where n lies in 1 .. 9. -/
def Known (w : World) (A : Option Addr) (n : Nat) (ws : List Int) : Prop := ∃ b off, (1 ≤ n → A = some ⟨b, off, none⟩) ∧ (1 ≤ n → Sl w b off n ws)
theorem Known.get {w : World} {A : Option Addr} {n : Nat} {ws : List Int} (h : Known w A n ws) (h1 : 1 ≤ n) : ∃ b off, A = some ⟨b, off, none⟩ ∧ Sl w b off n ws := by
  obtain ⟨b, off, h2, h3⟩ := h; exact ⟨b, off, h2 h1, h3 h1⟩
theorem Known.of {w : World} {b off n : Nat} {ws : List Int} (h : Sl w b off n ws) : Known w (some ⟨b, off, none⟩) n ws := ⟨b, off, fun _ => rfl, fun _ => h⟩
theorem Known.now {w w' : World} {A : Option Addr} {n : Nat} {ws : List Int} (h : Known w A n ws) (hb : Below w.heap.size w w') : Known w' A n ws := by
  obtain ⟨b, off, h2, h3⟩ := h; exact ⟨b, off, h2, fun h => (h3 h).now hb⟩

theorem areNumbers_any (A : Option Addr) (n cap : Nat) (lo hi : Int) (xs : List Int) (w : World) (hm : n ≤ 9223372036854775807) (hk : Known w A n xs) :
    Calls Try.prog 50 #[.slice A n cap, .int .i64 lo, .int .i64 hi] w fun e w' => e = .returned (.bool (numsB lo hi xs n)) ∧ w = w' := by
  by_cases h : n < 1 ∨ 9 < n
  · rw [numsB_len h]
    exact areNumbers_len A n cap lo hi w hm h
  · obtain ⟨b, off, rfl, hsl⟩ := hk.get (by omega)
    exact areNumbers_in b off n cap lo hi xs w (by omega) (by omega) hsl

set_option maxHeartbeats 1000000 in
theorem isCommittee_any (q : Int) (A : Option Addr) (n cap : Nat) (ws : List Int) (w : World) (hm : n ≤ 9223372036854775807) (hk : Known w A n ws) :
    Calls Try.prog 14 #[.agg #[.int .i64 q, .slice A n cap]] w fun e w' => e = .returned (.bool (goodB q ws n)) ∧ Below w.heap.size w w' := by
  have HK := Lib.hid hk
  clear hk
  have hx := Box.new w (.int .i64 q) (.slice A n cap)
  have hb0 := below1 w (.cells #[.int .i64 q, .slice A n cap] 24)
  cases hnb : numsB 0 1000 ws n with
  | false =>
    have HN := Lib.hid hnb
    have HB := Lib.hid (goodB_false (q := q) (ws := ws) (n := n) (fun g => by rw [numsB_yes g.lo g.hi g.ok] at hnb; cases hnb))
    clear hnb
    go_enter Try.func14, Try.ntmps14
    go_wp2_with fail
    refine (areNumbers_any A n cap 0 1000 ws _ hm (HK.out.now hb0)).mono ?_
    rintro e w1 ⟨rfl, rfl⟩
    rw [HN.out]
    go_wp2
    go_ret
    exact ⟨by rw [HB.out]; rfl, hb0⟩
  | true =>
    obtain ⟨h1, h9, hin⟩ := numsB_parts hnb
    have HN := Lib.hid hnb
    have HIN := Lib.hid hin
    clear hnb hin
    obtain ⟨b, off, rfl, hsl⟩ := HK.out.get h1
    have HSL := Lib.hid hsl
    clear hsl
    go_enter Try.func14, Try.ntmps14
    go_wp2_with fail
    refine (areNumbers_any _ n cap 0 1000 ws _ hm (HK.out.now hb0)).mono ?_
    rintro e w1 ⟨rfl, rfl⟩
    rw [HN.out]
    by_cases hq : 1 ≤ q
    · have HB := Lib.hid (show goodB q ws n = decide (q ≤ wtK ws (2^n-1) n) from by
        rw [wtK_full (Nat.le_refl _)]; unfold goodB
        by_cases hqq : q ≤ sumK ws n
        · rw [decide_eq_true hqq, decide_eq_true (show Vo.Good q ws n from ⟨h1, h9, HIN.out, hq, hqq⟩)]
        · rw [decide_eq_false hqq, decide_eq_false (fun g : Vo.Good q ws n => hqq g.q2)])
      have h512 := pow_lt h9
      go_wp2_with fail
      go_region_held3 (fun w' => w'.cell? ⟨w.heap.size, 0, none⟩ = some (.int .i64 q) ∧ w'.cell? ⟨w.heap.size, 1, none⟩ = some (.slice (some ⟨b, off, none⟩) n cap))
        (first | go_keep | exact hc | exact hc2)
        (first
          | (go_at_call 51; refine (everybody_any _ _ n cap _ (by omega)).mono ?_; rintro e w1 ⟨rfl, hb⟩; have hc := (hx.drew.now hb).cells)
          | (go_at_call 41; refine (wins_any q b off n cap ws (2^n-1) _ (by omega) (by omega) HIN.out ((HSL.out.alloc _).drew.now hb)).mono ?_; rintro e w2 ⟨rfl, hb2⟩; have hc2 := ((hx.drew.now hb).now hb2).cells))
      go_wp2
      go_ret
      exact ⟨by rw [HB.out]; simp, bfrom ((below1 w _).drew) (bfrom hb hb2)⟩
    · have HB := Lib.hid (goodB_false (q := q) (ws := ws) (n := n) (fun g => hq g.q1))
      have hqd : decide (1 ≤ q) = false := by simpa using hq
      go_wp2_with fail
      go_quiet (fail)
      go_wp2
      go_ret
      exact ⟨by rw [HB.out]; simp, below_drewN (below1 w _) _⟩

set_option maxHeartbeats 1000000 in
theorem total_any (v : Int) (b off n cap : Nat) (ws : List Int) (w : World) (hn : n < 10) (hok : InK 0 1000 ws n) (hsl : Sl w b off n ws) :
    Calls Try.prog 48 #[.agg #[.int .i64 v, .slice (some ⟨b, off, none⟩) n cap]] w fun e w' => e = .returned (.int .i64 (sumK ws n)) ∧ Below w.heap.size w w' := by
  have HOK := Lib.hid hok
  have HSL := Lib.hid hsl
  have h512 := pow_lt (n := n) (by omega)
  have HE := Lib.hid (show wtK ws (2^n-1) n = sumK ws n from wtK_full (Nat.le_refl _))
  clear hok hsl
  have hx := Box.new w (.int .i64 v) (.slice (some ⟨b, off, none⟩) n cap)
  go_enter Try.func48, Try.ntmps48
  go_wp2_with fail
  go_region_held3 (fun w' => w'.cell? ⟨w.heap.size, 0, none⟩ = some (.int .i64 v) ∧ w'.cell? ⟨w.heap.size, 1, none⟩ = some (.slice (some ⟨b, off, none⟩) n cap))
    (first | go_keep | exact hc | exact hc2)
    (first
      | (go_at_call 51; refine (everybody_any _ _ n cap _ (by omega)).mono ?_; rintro e w1 ⟨rfl, hb⟩; have hc := (hx.drew.now hb).cells)
      | (go_at_call 47; refine (weightOf_any _ b off n cap ws (2^n-1) _ (by omega) (by omega) HOK.out ((HSL.out.alloc _).drew.now hb)).mono ?_; rintro e w2 ⟨rfl, hb2⟩; have hc2 := ((hx.drew.now hb).now hb2).cells))
  go_wp2
  go_ret
  exact ⟨by rw [HE.out]; rfl, bfrom ((below1 w _).drew) (bfrom hb hb2)⟩

theorem or_pow (s k : Nat) (hk : k < 10) (hs : s < 512) : bits BinOp.or IntKind.u64 (s : Int) (IntKind.u64.wrap (2 ^ k)) = ((s ||| 2 ^ k : Nat) : Int) := by
  have h1 : (2:Nat)^k ≤ 2^9 := Nat.pow_le_pow_right (by omega) (by omega)
  have e : IntKind.u64.wrap (2 ^ k) = ((2 ^ k : Nat) : Int) := by
    have : k = 0 ∨ k = 1 ∨ k = 2 ∨ k = 3 ∨ k = 4 ∨ k = 5 ∨ k = 6 ∨ k = 7 ∨ k = 8 ∨ k = 9 := by omega
    rcases this with h | h | h | h | h | h | h | h | h | h <;> subst h <;> rfl
  rw [e, u64_or_nat _ _ (by omega) (by omega)]

set_option maxHeartbeats 400000 in
theorem with_any (s k : Nat) (w : World) (hk : k < 10) (hs : s < 512) :
    Calls Try.prog 80 #[.int .u64 s, .int .i64 k] w fun e w' => e = .returned (.int .u64 ((s ||| 2 ^ k : Nat) : Int)) ∧ w = w' := by
  go_enter Try.func80, Try.ntmps80
  go_wp2
  go_ret
  exact ⟨ret_int (or_pow s k hk hs), rfl⟩

set_option maxHeartbeats 1000000 in
theorem readSet_any (n b off m cap : Nat) (xs : List Int) (w : World) (hn : n < 10) (hm : m ≤ 9223372036854775807) (hsl : Sl w b off m xs) :
    Calls Try.prog 72 #[.int .i64 n, .slice (some ⟨b, off, none⟩) m cap] w fun e w' => e = .returned (.tuple #[.int .u64 (ofB n xs m : Nat), .bool (riseB n xs m)]) ∧ w = w' := by
  have HSL := Lib.hid hsl
  clear hsl
  have hlt0 := HSL.out.lt
  go_enter Try.func72, Try.ntmps72
  go_wp2
  go_loop [6, 7, 9, 12] (fun s l _ i => ∃ k : Nat, k ≤ m ∧ i = .int .i64 k ∧ s = .int .u64 (ofK xs k : Nat) ∧ l = .int .i64 (lastK xs k) ∧ RiseK n xs k) (fun _ _ _ i => m - (intOf i).toNat)
  case atStart => exact ⟨0, Nat.zero_le _, rfl, rfl, rfl, RiseK.zero⟩
  case round =>
    obtain ⟨k, hk, rfl, rfl, rfl, hr⟩ := hrel
    have HR := Lib.hid hr
    have hof := ofK_lt hr
    have h512 := pow_lt (n := n) (by omega)
    have hl := lastK_ge hr
    clear hr
    by_cases hlt : k < m
    · have hcell : w.cell? ⟨b, off + k, none⟩ = some (.int .i64 (xs.getD k 0)) := HSL.out.cell k hlt
      by_cases hc : lastK xs k < xs.getD k 0 ∧ xs.getD k 0 < n
      · obtain ⟨hc1, hc2⟩ := hc
        have HS := Lib.hid (rise_step HR.out hc1 hc2)
        have HO := Lib.hid (show ofK xs (k+1) = ofK xs k ||| 2 ^ (xs.getD k 0).toNat from rfl)
        have HL := Lib.hid (show lastK xs (k+1) = xs.getD k 0 from rfl)
        obtain ⟨x, hx⟩ : ∃ x : Nat, xs.getD k 0 = x := ⟨(xs.getD k 0).toNat, by omega⟩
        rw [hx] at hcell hc1 hc2 HO HL
        clear hx
        rw [Int.toNat_natCast] at HO
        generalize ofK xs k = s at *
        generalize lastK xs k = l at *
        go_wp2_with (go_at_call 80; refine (with_any s x _ (by omega) (by omega)).mono ?_; rintro e w' ⟨rfl, rfl⟩)
        go_round
        case rel => exact ⟨k + 1, by omega, by go_num, by rw [HO.out], by rw [HL.out], HS.out⟩
        case measure => simp [intOf]; omega
      · have hc' : xs.getD k 0 ≤ lastK xs k ∨ (lastK xs k < xs.getD k 0 ∧ (n : Int) ≤ xs.getD k 0) := by omega
        have HN := Lib.hid (rise_stop (n := n) (xs := xs) hlt (by omega))
        clear hc
        generalize xs.getD k 0 = x at *
        generalize lastK xs k = l at *
        rcases hc' with hc | ⟨hc1, hc⟩
        all_goals
          go_wp2
          go_ret2
          exact ⟨by rw [ofB_no HN.out, riseB_no HN.out]; rfl, rfl⟩
    · obtain rfl : k = m := by omega
      go_wp2
      go_ret2
      exact ⟨by rw [ofB_yes HR.out, riseB_yes HR.out]; rfl, rfl⟩

def okB (q : Int) (ws : List Int) (n : Nat) (xs : List Int) (m : Nat) : Bool := goodB q ws n && riseB n xs m
def okS (q : Int) (ws : List Int) (n : Nat) (xs : List Int) (m : Nat) : Nat := if okB q ws n xs m then ofK xs m else 0
theorem okS_yes {q ws n xs m} (h : okB q ws n xs m = true) : okS q ws n xs m = ofK xs m := if_pos h
theorem okS_no {q ws n xs m} (h : okB q ws n xs m = false) : okS q ws n xs m = 0 := if_neg (by rw [h]; simp)

set_option maxHeartbeats 1000000 in
theorem committeeSet_any (q : Int) (A : Option Addr) (n cap : Nat) (ws : List Int) (b2 off2 m cap2 : Nat) (xs : List Int) (w : World) (hm : n ≤ 9223372036854775807) (hk : Known w A n ws) (hm2 : m ≤ 9223372036854775807) (hs : Sl w b2 off2 m xs) :
    Calls Try.prog 40 #[.agg #[.int .i64 q, .slice A n cap], .slice (some ⟨b2, off2, none⟩) m cap2] w fun e w' =>
      e = .returned (.tuple #[.int .u64 (okS q ws n xs m : Nat), .bool (okB q ws n xs m)]) ∧ Below w.heap.size w w' := by
  have HK := Lib.hid hk
  have HSL := Lib.hid hs
  clear hk hs
  have hx := Box.new w (.int .i64 q) (.slice A n cap)
  have hb0 := below1 w (.cells #[.int .i64 q, .slice A n cap] 24)
  by_cases hg : Vo.Good q ws n
  · have HG := Lib.hid hg
    have HGB := Lib.hid (goodB_true hg)
    have hn9 := hg.hi
    clear hg
    go_enter Try.func40, Try.ntmps40
    go_wp2_with fail
    refine (isCommittee_any q A n cap ws _ hm (HK.out.now hb0)).mono ?_
    rintro e w1 ⟨rfl, hb⟩
    rw [HGB.out]
    obtain ⟨hc0, hc1⟩ := (hx.now hb).cells
    go_wp2_with fail
    refine (members_any _ _ n cap _).mono ?_
    rintro e w2 ⟨rfl, hb2⟩
    go_wp2_with fail
    refine (readSet_any n b2 off2 m cap2 xs _ (by omega) hm2 (((HSL.out.now hb0).now hb).now hb2)).mono ?_
    rintro e w3 ⟨rfl, rfl⟩
    go_wp2
    go_ret2
    refine ⟨?_, bfrom hb0 (bfrom hb hb2)⟩
    by_cases hr : RiseK n xs m
    · have e : okB q ws n xs m = true := by unfold okB; rw [HGB.out, riseB_yes hr]; rfl
      rw [okS_yes e, e, riseB_yes hr, ofB_yes hr]; rfl
    · have e : okB q ws n xs m = false := by unfold okB; rw [HGB.out, riseB_no hr]; rfl
      rw [okS_no e, e, riseB_no hr, ofB_no hr]; rfl
  · have HGB := Lib.hid (goodB_false hg)
    clear hg
    go_enter Try.func40, Try.ntmps40
    go_wp2_with fail
    refine (isCommittee_any q A n cap ws _ hm (HK.out.now hb0)).mono ?_
    rintro e w1 ⟨rfl, hb⟩
    rw [HGB.out]
    go_wp2
    go_ret2
    refine ⟨?_, bfrom hb0 hb⟩
    have e : okB q ws n xs m = false := by unfold okB; rw [HGB.out]; rfl
    rw [okS_no e, e]; rfl
end Go.Proofs.Ytibmaofcnibjnaa
