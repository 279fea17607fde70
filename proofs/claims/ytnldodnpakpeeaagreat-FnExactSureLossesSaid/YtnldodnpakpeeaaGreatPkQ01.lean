/- Texts of W2, L1. -/
import Derived.Test.YtnldodnpakpeeaaGreatPkQ00
import Derived.Deep.RegionHeld3
import Derived.Laws.BitsAllLaws
import Derived.Lib.Hide
namespace Go.Proofs.YtnldodnpakpeeaaGreat
open Go.RowKit Vo

theorem bit_and (s k : Nat) (hs : s < 512) : (bits BinOp.and IntKind.u64 (↑s / 2 ^ k) 1 == 1) = s.testBit k := by
  have e : ((s : Int) / 2 ^ k) = ((s / 2 ^ k : Nat) : Int) := by simp
  have hle : s / 2 ^ k ≤ s := Nat.div_le_self _ _
  rw [e]
  generalize hm : s / 2 ^ k = m at *
  rw [and_one_u64 _ (by omega) (by omega)]
  rw [Nat.testBit_eq_decide_div_mod_eq, hm]
  by_cases h : m % 2 = 1
  · have : (m : Int) % 2 = 1 := by omega
    simp [h, this]
  · have h0 : m % 2 = 0 := by omega
    have : (m : Int) % 2 = 0 := by omega
    simp [h0, this]

theorem all_wrap (n : Nat) (hn : n < 10) : IntKind.u64.wrap (IntKind.u64.wrap (2 ^ n) - 1) = ((2 ^ n - 1 : Nat) : Int) := by
  have : n = 0 ∨ n = 1 ∨ n = 2 ∨ n = 3 ∨ n = 4 ∨ n = 5 ∨ n = 6 ∨ n = 7 ∨ n = 8 ∨ n = 9 := by omega
  rcases this with h | h | h | h | h | h | h | h | h | h <;> subst h <;> rfl

theorem and_not (n s : Nat) (hn : n < 10) (hs : s < 2^n) : bits BinOp.andNot IntKind.u64 ((2^n - 1 : Nat) : Int) (s : Int) = ((co n s : Nat) : Int) := by
  have h512 := pow_lt (n := n) (by omega)
  rw [u64_andNot_nat _ _ (by omega) (by omega)]
  congr 1
  apply Nat.eq_of_testBit_eq
  intro j
  rw [testBit_co hs, Nat.testBit_and, Nat.testBit_two_pow_sub_one]
  by_cases hj : j < n
  · have e : (18446744073709551615 - s).testBit j = !s.testBit j := by
      have := @Nat.testBit_two_pow_sub_succ s 64 (by omega) j
      rw [show 18446744073709551615 - s = 2^64 - (s + 1) by omega, this]
      have : decide (j < 64) = true := by simp; omega
      simp [this]
    rw [e]
  · simp [hj]

set_option maxHeartbeats 400000 in
theorem has_any (s k : Nat) (w : World) (hk : k < 64) (hs : s < 512) :
    Calls Tryz.prog 61 #[.int .u64 s, .int .i64 k] w fun e w' => e = .returned (.bool (s.testBit k)) ∧ w = w' := by
  go_enter Tryz.func61, Tryz.ntmps61
  go_wp2
  go_ret
  exact ⟨ret_bool (bit_and s k hs), rfl⟩

set_option maxHeartbeats 400000 in
theorem allMembers_any (n : Nat) (w : World) (hn : n < 10) :
    Calls Tryz.prog 93 #[.int .i64 n] w fun e w' => e = .returned (.int .u64 ((2^n - 1 : Nat) : Int)) ∧ w = w' := by
  go_enter Tryz.func93, Tryz.ntmps93
  go_wp2
  go_ret
  exact ⟨ret_int (all_wrap n hn), rfl⟩

end Go.Proofs.YtnldodnpakpeeaaGreat

namespace Go.Proofs.YtnldodnpakpeeaaGreat
open Go.RowKit Vo

/-- A number for each of so many members as a committee may have, all of them in lo .. hi. -/
def numsB (lo hi : Int) (xs : List Int) (n : Nat) : Bool := decide (1 ≤ n ∧ n ≤ 9 ∧ InK lo hi xs n)
theorem numsB_yes {lo hi : Int} {xs : List Int} {n : Nat} (h1 : 1 ≤ n) (h2 : n ≤ 9) (h : InK lo hi xs n) : numsB lo hi xs n = true := decide_eq_true ⟨h1, h2, h⟩
theorem numsB_no {lo hi : Int} {xs : List Int} {n : Nat} (h : ¬ InK lo hi xs n) : numsB lo hi xs n = false := decide_eq_false fun g => h g.2.2
theorem numsB_len {lo hi : Int} {xs : List Int} {n : Nat} (h : n < 1 ∨ 9 < n) : numsB lo hi xs n = false := decide_eq_false fun g => by omega
theorem numsB_parts {lo hi : Int} {xs : List Int} {n : Nat} (h : numsB lo hi xs n = true) : 1 ≤ n ∧ n ≤ 9 ∧ InK lo hi xs n := of_decide_eq_true h

/-- The slice of a committee with n members is known where n lies in 1 .. 9. -/
def Known (w : World) (A : Option Addr) (n : Nat) (ws : List Int) : Prop := ∃ b off, (1 ≤ n → A = some ⟨b, off, none⟩) ∧ (1 ≤ n → Sl w b off n ws)
theorem Known.get {w : World} {A : Option Addr} {n : Nat} {ws : List Int} (h : Known w A n ws) (h1 : 1 ≤ n) : ∃ b off, A = some ⟨b, off, none⟩ ∧ Sl w b off n ws := by
  obtain ⟨b, off, h2, h3⟩ := h; exact ⟨b, off, h2 h1, h3 h1⟩
theorem Known.of {w : World} {b off n : Nat} {ws : List Int} (h : Sl w b off n ws) : Known w (some ⟨b, off, none⟩) n ws := ⟨b, off, fun _ => rfl, fun _ => h⟩
theorem Known.now {w w' : World} {A : Option Addr} {n : Nat} {ws : List Int} (h : Known w A n ws) (hb : Below w.heap.size w w') : Known w' A n ws := by
  obtain ⟨b, off, h2, h3⟩ := h; exact ⟨b, off, h2, fun h => (h3 h).now hb⟩

theorem or_pow (s k : Nat) (hk : k < 10) (hs : s < 512) : bits BinOp.or IntKind.u64 (s : Int) (IntKind.u64.wrap (2 ^ k)) = ((s ||| 2 ^ k : Nat) : Int) := by
  have h1 : (2:Nat)^k ≤ 2^9 := Nat.pow_le_pow_right (by omega) (by omega)
  have e : IntKind.u64.wrap (2 ^ k) = ((2 ^ k : Nat) : Int) := by
    have : k = 0 ∨ k = 1 ∨ k = 2 ∨ k = 3 ∨ k = 4 ∨ k = 5 ∨ k = 6 ∨ k = 7 ∨ k = 8 ∨ k = 9 := by omega
    rcases this with h | h | h | h | h | h | h | h | h | h <;> subst h <;> rfl
  rw [e, u64_or_nat _ _ (by omega) (by omega)]

set_option maxHeartbeats 400000 in
theorem with_any (s k : Nat) (w : World) (hk : k < 10) (hs : s < 512) :
    Calls Tryz.prog 71 #[.int .u64 s, .int .i64 k] w fun e w' => e = .returned (.int .u64 ((s ||| 2 ^ k : Nat) : Int)) ∧ w = w' := by
  go_enter Tryz.func71, Tryz.ntmps71
  go_wp2
  go_ret
  exact ⟨ret_int (or_pow s k hk hs), rfl⟩

def okB (q : Int) (ws : List Int) (n : Nat) (xs : List Int) (m : Nat) : Bool := goodB q ws n && riseB n xs m
def okS (q : Int) (ws : List Int) (n : Nat) (xs : List Int) (m : Nat) : Nat := if okB q ws n xs m then ofK xs m else 0
theorem okS_yes {q ws n xs m} (h : okB q ws n xs m = true) : okS q ws n xs m = ofK xs m := if_pos h
theorem okS_no {q ws n xs m} (h : okB q ws n xs m = false) : okS q ws n xs m = 0 := if_neg (by rw [h]; simp)

end Go.Proofs.YtnldodnpakpeeaaGreat

namespace Go.Proofs.YtnldodnpakpeeaaGreat
open Go.RowKit Vo

/-- The first n of two lists are the same. -/
def sameB (xs ys : List Int) (n : Nat) : Bool := decide (∀ j, j < n → xs.getD j 0 = ys.getD j 0)
theorem sameB_yes {xs ys : List Int} {n : Nat} (h : ∀ j, j < n → xs.getD j 0 = ys.getD j 0) : sameB xs ys n = true := decide_eq_true h
theorem sameB_no {xs ys : List Int} {n : Nat} (h : ¬ ∀ j, j < n → xs.getD j 0 = ys.getD j 0) : sameB xs ys n = false := decide_eq_false h

set_option maxHeartbeats 1000000 in
theorem eqIntS_in (b off n c b2 off2 c2 : Nat) (xs ys : List Int) (w : World) (hm : n ≤ 9223372036854775807) (hx : Sl w b off n xs) (hy : Sl w b2 off2 n ys) :
    Calls Tryz.prog 18 #[.slice (some ⟨b, off, none⟩) n c, .slice (some ⟨b2, off2, none⟩) n c2] w fun e w' => e = .returned (.bool (sameB xs ys n)) ∧ Below w.heap.size w w' := by
  have HX := Lib.hid hx
  have HY := Lib.hid hy
  clear hx hy
  go_enter Tryz.func18, Tryz.ntmps18
  go_wp2
  go_loopw [5] (fun i wr => ∃ k : Nat, k ≤ n ∧ i = .int .i64 k ∧ (∀ j, j < k → xs.getD j 0 = ys.getD j 0) ∧ Below w.heap.size w wr) (fun i _ => n - (intOf i).toNat)
  case atStart => exact ⟨0, Nat.zero_le _, rfl, fun _ h => by omega, Below.refl _ _⟩
  case round =>
    obtain ⟨k, hk, rfl, hsame, hb⟩ := hrel
    have HS := Lib.hid hsame
    clear hsame
    by_cases hlt : k < n
    · have hcx := (HX.out.now hb).cell k hlt
      have hcy := (HY.out.now hb).cell k hlt
      by_cases he : xs.getD k 0 = ys.getD k 0
      · have HS2 := Lib.hid (show ∀ j, j < k + 1 → xs.getD j 0 = ys.getD j 0 from fun j hj => by
          by_cases e : j = k
          · subst e; exact he
          · exact HS.out j (by omega))
        rw [he] at hcx
        clear he
        generalize ys.getD k 0 = y at *
        have hlt' : (k : Int) < n := by omega
        go_wp2_with fail
        go_quiet (fail)
        go_wp2
        go_roundw
        case rel => exact ⟨k + 1, by omega, by go_num, HS2.out, below_drewN hb _⟩
        case measure => simp [intOf]; omega
      · have HN := Lib.hid (sameB_no (fun g => he (g k hlt)))
        have hne : (xs.getD k 0 == ys.getD k 0) = false := by simpa using he
        have hne2 : (xs.getD k 0 != ys.getD k 0) = true := by simpa using he
        generalize xs.getD k 0 = x at *
        generalize ys.getD k 0 = y at *
        have hlt' : (k : Int) < n := by omega
        go_wp2_with fail
        go_quiet (fail)
        go_wp2
        go_ret
        exact ⟨by rw [HN.out]; rfl, below_drewN hb _⟩
    · obtain rfl : k = n := by omega
      go_wp2
      go_ret
      exact ⟨by rw [sameB_yes HS.out]; rfl, hb⟩

end Go.Proofs.YtnldodnpakpeeaaGreat
