/- Contracts of the given model's smallest functions. -/
import Derived.Test.YtibmaofcnibjnaaW3
namespace Go.Proofs.Ytibmaofcnibjnaa
open Go.RowKit Vo

def inB (x lo hi : Int) : Bool := decide (lo ≤ x) && decide (x ≤ hi)
theorem inB_yes {x lo hi : Int} (h1 : lo ≤ x) (h2 : x ≤ hi) : inB x lo hi = true := by simp [inB, h1, h2]
theorem inB_no {x lo hi : Int} (h : ¬ (lo ≤ x ∧ x ≤ hi)) : inB x lo hi = false := by
  unfold inB
  by_cases h1 : lo ≤ x
  · have : ¬ x ≤ hi := fun h2 => h ⟨h1, h2⟩
    simp [this]
  · simp [h1]

set_option maxHeartbeats 400000 in
theorem l1In_any (x lo hi : Int) (w : World) : Calls Try.prog 77 #[.int .i64 x, .int .i64 lo, .int .i64 hi] w fun e w' => e = .returned (.bool (inB x lo hi)) ∧ w = w' := by
  by_cases h1 : lo ≤ x
  · by_cases h2 : x ≤ hi
    · have H := Lib.hid (inB_yes h1 h2)
      go_enter Try.func77, Try.ntmps77
      go_wp2
      go_ret
      exact ⟨by rw [H.out]; rfl, rfl⟩
    · have H := Lib.hid (inB_no (x := x) (lo := lo) (hi := hi) (fun h => h2 h.2))
      go_enter Try.func77, Try.ntmps77
      go_wp2
      go_ret
      exact ⟨by rw [H.out]; rfl, rfl⟩
  · have H := Lib.hid (inB_no (x := x) (lo := lo) (hi := hi) (fun h => h1 h.1))
    have hd : decide (lo ≤ x) = false := by simpa using h1
    go_enter Try.func77, Try.ntmps77
    go_wp2
    go_ret
    exact ⟨by rw [H.out]; simp, rfl⟩

def allB (lo hi : Int) (xs : List Int) (m : Nat) : Bool := decide (InK lo hi xs m)
theorem allB_yes {lo hi : Int} {xs m} (h : InK lo hi xs m) : allB lo hi xs m = true := decide_eq_true h
theorem allB_no {lo hi : Int} {xs m} (h : ¬ InK lo hi xs m) : allB lo hi xs m = false := decide_eq_false h

set_option maxHeartbeats 1000000 in
theorem l1All_any (b off m cap : Nat) (xs : List Int) (lo hi : Int) (w : World) (hm : m ≤ 9223372036854775807) (hsl : Sl w b off m xs) :
    Calls Try.prog 78 #[.slice (some ⟨b, off, none⟩) m cap, .int .i64 lo, .int .i64 hi] w fun e w' => e = .returned (.bool (allB lo hi xs m)) ∧ w = w' := by
  have HSL := Lib.hid hsl
  clear hsl
  have hlt0 := HSL.out.lt
  go_enter Try.func78, Try.ntmps78
  go_wp2
  go_loop [8, 11] (fun _ i => ∃ k : Nat, k ≤ m ∧ i = .int .i64 k ∧ InK lo hi xs k) (fun _ i => m - (intOf i).toNat)
  case atStart => exact ⟨0, Nat.zero_le _, rfl, InK.zero⟩
  case round =>
    obtain ⟨k, hk, rfl, hin⟩ := hrel
    have HIN := Lib.hid hin
    clear hin
    by_cases hlt : k < m
    · have hcell : w.cell? ⟨b, off + k, none⟩ = some (.int .i64 (xs.getD k 0)) := HSL.out.cell k hlt
      by_cases hw : lo ≤ xs.getD k 0 ∧ xs.getD k 0 ≤ hi
      · have HS := Lib.hid (HIN.out.succ hw.1 hw.2)
        have HB := Lib.hid (inB_yes hw.1 hw.2)
        clear hw
        generalize xs.getD k 0 = x at *
        go_wp2_with (go_at_call 77; refine (l1In_any x lo hi _).mono ?_; rintro e w' ⟨rfl, rfl⟩; rw [HB.out])
        go_round
        case rel => exact ⟨k + 1, by omega, by go_num, HS.out⟩
        case measure => simp [intOf]; omega
      · have HB := Lib.hid (inB_no hw)
        have HN := Lib.hid (allB_no (fun g : InK lo hi xs m => hw (g k hlt)))
        clear hw
        generalize xs.getD k 0 = x at *
        go_wp2_with (go_at_call 77; refine (l1In_any x lo hi _).mono ?_; rintro e w' ⟨rfl, rfl⟩; rw [HB.out])
        go_ret
        exact ⟨by rw [HN.out]; rfl, rfl⟩
    · obtain rfl : k = m := by omega
      go_wp2
      go_ret
      exact ⟨by rw [allB_yes HIN.out]; rfl, rfl⟩

set_option maxHeartbeats 400000 in
theorem voSum_any (b off n cap : Nat) (ws : List Int) (w : World) (hn : n < 10) (hok : InK 0 1000 ws n) (hsl : Sl w b off n ws) :
    Calls Try.prog 46 #[.slice (some ⟨b, off, none⟩) n cap] w fun e w' => e = .returned (.int .i64 (sumK ws n)) ∧ w = w' := by
  have HSL := Lib.hid hsl
  have HOK := Lib.hid hok
  clear hsl hok
  have hlt0 := HSL.out.lt
  go_enter Try.func46, Try.ntmps46
  go_wp2
  go_loop [3, 8] (fun t i => ∃ k : Nat, k ≤ n ∧ i = .int .i64 k ∧ t = .int .i64 (sumK ws k)) (fun _ i => n - (intOf i).toNat)
  case atStart => exact ⟨0, Nat.zero_le _, rfl, rfl⟩
  case round =>
    obtain ⟨k, hk, rfl, rfl⟩ := hrel
    have s0 := sumK_bd (InK.mono HOK.out hk)
    by_cases hlt : k < n
    · have w1 := HOK.out k hlt
      have hcell : w.cell? ⟨b, off + k, none⟩ = some (.int .i64 (ws.getD k 0)) := HSL.out.cell k hlt
      have HS := Lib.hid (show sumK ws (k+1) = sumK ws k + ws.getD k 0 from rfl)
      generalize ws.getD k 0 = x at *
      generalize sumK ws k = t at *
      go_wp2
      go_round
      case rel => exact ⟨k + 1, by omega, by go_num, by rw [HS.out]⟩
      case measure => simp [intOf]; omega
    · obtain rfl : k = n := by omega
      go_wp2
      go_ret
      exact ⟨rfl, rfl⟩

theorem bit_mod (s k : Nat) : ((s : Int) / 2 ^ k % 2 == 1) = s.testBit k := by
  have e : ((s : Int) / 2 ^ k) = ((s / 2 ^ k : Nat) : Int) := by simp
  rw [e]
  rw [Nat.testBit_eq_decide_div_mod_eq]
  generalize s / 2 ^ k = m
  by_cases h : m % 2 = 1
  · have : (m : Int) % 2 = 1 := by omega
    simp [h, this]
  · have h0 : m % 2 = 0 := by omega
    have : (m : Int) % 2 = 0 := by omega
    simp [h0, this]
theorem div_nn (s k : Nat) : 0 ≤ (s : Int) / 2 ^ k := by
  have e : ((s : Int) / 2 ^ k) = ((s / 2 ^ k : Nat) : Int) := by simp
  rw [e]; exact Int.natCast_nonneg _

set_option maxHeartbeats 400000 in
theorem voWeight_any (v : Value) (b off n cap : Nat) (ws : List Int) (s : Nat) (w : World) (hn : n < 10) (_hs : s < 512) (hok : InK 0 1000 ws n) (hsl : Sl w b off n ws) :
    Calls Try.prog 43 #[.agg #[v, .slice (some ⟨b, off, none⟩) n cap], .int .i64 s] w fun e w' => e = .returned (.int .i64 (wtK ws s n)) ∧ Below w.heap.size w w' := by
  obtain ⟨hlt, hc⟩ := hsl
  have HOK := Lib.hid hok
  clear hok
  have HC := Lib.hid hc
  clear hc
  have hb1 := (below1 w (.cells #[v, .slice (some ⟨b, off, none⟩) n cap] 24))
  go_enter Try.func43, Try.ntmps43
  go_wp2
  go_loop [5, 11] (fun t i => ∃ k : Nat, k ≤ n ∧ i = .int .i64 k ∧ t = .int .i64 (wtK ws s k)) (fun _ i => n - (intOf i).toNat)
  case atStart => exact ⟨0, Nat.zero_le _, rfl, rfl⟩
  case round =>
    obtain ⟨k, hk, rfl, rfl⟩ := hrel
    have w0 := wtK_bd (s := s) (InK.mono HOK.out hk)
    have s0 := sumK_bd (InK.mono HOK.out hk)
    by_cases hlt : k < n
    · have w1 := HOK.out k hlt
      have hcell : w.cell? ⟨b, off + k, none⟩ = some (.int .i64 (ws.getD k 0)) := HC.out k hlt
      have HS := Lib.hid (show wtK ws s (k+1) = wtK ws s k + if s.testBit k then ws.getD k 0 else 0 from rfl)
      have hnn := div_nn s k
      generalize ws.getD k 0 = x at *
      generalize wtK ws s k = t at *
      cases hbit : s.testBit k
      all_goals
        have hb := bit_mod s k
        rw [hbit] at hb HS
        go_wp2
        go_round
        case rel => exact ⟨k + 1, by omega, by go_num, by rw [HS.out]; simp⟩
        case measure => simp [intOf]; omega
    · obtain rfl : k = n := by omega
      go_wp2
      go_ret
      exact ⟨rfl, hb1⟩
end Go.Proofs.Ytibmaofcnibjnaa
