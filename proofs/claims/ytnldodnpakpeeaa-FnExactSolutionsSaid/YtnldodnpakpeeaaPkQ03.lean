/- Texts of W5, S1. -/
import Derived.Test.YtnldodnpakpeeaaPkQ02
import Derived.Shelf.Abstract
namespace Go.Proofs.Ytnldodnpakpeeaa
open Go.RowKit Vo

/-- The function value (k, first, cap), called with a set of n members, answers whether it is of the kind p; it writes nothing that was there. -/
structure Asks (p : Nat → Bool) (k : Nat) (first cap : Array Value) (n : Nat) (w : World) : Prop where
  enters : ∀ args W, (callFunc k args).run Try.prog W = .ok (.enter k args) W
  gives : ∀ (W : World) (s : Nat), s < 2^n → Below w.heap.size w W → Calls Try.prog k (first.push (.int .u64 s) ++ cap) W fun e W' => e = .returned (.bool (p s)) ∧ Below W.heap.size W W'
theorem Asks.now {p k first cap n} {w w' : World} (h : Asks p k first cap n w) (hb : Below w.heap.size w w') : Asks p k first cap n w' :=
  ⟨h.enters, fun W s hs hb' => h.gives W s hs (bfrom hb hb')⟩

set_option maxHeartbeats 1000000 in
theorem countSets_any (p : Nat → Bool) (k : Nat) (first cap : Array Value) (n : Nat) (w : World) (hn : n < 10) (ha : Asks p k first cap n w) :
    Calls Try.prog 218 #[.int .i64 n, .func (.func k) first cap] w fun e w' => e = .returned (.int .i64 (cnt p (2^n) : Nat)) ∧ Below w.heap.size w w' := by
  have HA := Lib.hid ha
  have eg := ha.enters
  have h512 := pow_lt (n := n) (by omega)
  have hpos := Nat.two_pow_pos n
  clear ha
  go_enter Try.func218, Try.ntmps218
  go_wp2_with fail
  refine (allMembers_any n _ hn).mono ?_
  rintro e w1 ⟨rfl, rfl⟩
  obtain ⟨N, hN⟩ : ∃ N, N = 2^n := ⟨_, rfl⟩
  have HP := Lib.hid (show (((2^n - 1 : Nat) : Int) + 1) = (N : Int) from by omega)
  rw [← hN] at h512 hpos
  have HN2 := Lib.hid hN
  clear hN
  go_wp2_with fail
  rw [HP.out]
  go_loopw [5, 6, 10] (fun c _ i wr => ∃ j : Nat, j ≤ N ∧ i = .int .u64 j ∧ c = .int .i64 (cnt p j : Nat) ∧ Below w.heap.size w wr) (fun _ _ i _ => N - (intOf i).toNat)
  case atStart => exact ⟨0, Nat.zero_le _, rfl, rfl, Below.refl _ _⟩
  case round =>
    obtain ⟨j, hj, rfl, rfl, hb⟩ := hrel
    have hcl := cnt_le p j
    by_cases hlt : j < N
    · have HS := Lib.hid (show cnt p (j+1) = cnt p j + if p j then 1 else 0 from rfl)
      generalize cnt p j = t at *
      cases hp : p j
      all_goals
        have HB := Lib.hid hp
        rw [hp] at HS
        clear hp
        go_wp2_with (go_at_fn k; refine (HA.out.gives _ j (by rw [← HN2.out]; exact hlt) hb).mono ?_; rintro e w' ⟨rfl, hb'⟩; rw [HB.out])
        go_roundw
        case rel => exact ⟨j + 1, by omega, by go_num, by rw [HS.out]; simp, bfrom hb hb'⟩
        case measure => simp [intOf]; omega
    · obtain rfl : j = N := by omega
      go_wp2
      go_ret
      exact ⟨by rw [← HN2.out]; rfl, hb⟩

set_option maxHeartbeats 1000000 in
theorem areAllSets_any (p : Nat → Bool) (k : Nat) (first cap : Array Value) (n : Nat) (w : World) (hn : n < 10) (ha : Asks p k first cap n w) :
    Calls Try.prog 246 #[.int .i64 n, .func (.func k) first cap] w fun e w' => e = .returned (.bool (allK p (2^n))) ∧ Below w.heap.size w w' := by
  have HA := Lib.hid ha
  have eg := ha.enters
  have h512 := pow_lt (n := n) (by omega)
  have hpos := Nat.two_pow_pos n
  clear ha
  go_enter Try.func246, Try.ntmps246
  go_wp2_with fail
  refine (allMembers_any n _ hn).mono ?_
  rintro e w1 ⟨rfl, rfl⟩
  obtain ⟨N, hN⟩ : ∃ N, N = 2^n := ⟨_, rfl⟩
  have HP := Lib.hid (show (((2^n - 1 : Nat) : Int) + 1) = (N : Int) from by omega)
  rw [← hN] at h512 hpos
  have HN2 := Lib.hid hN
  clear hN
  go_wp2_with fail
  rw [HP.out]
  go_loopw [5, 9] (fun _ i wr => ∃ j : Nat, j ≤ N ∧ i = .int .u64 j ∧ allK p j = true ∧ Below w.heap.size w wr) (fun _ i _ => N - (intOf i).toNat)
  case atStart => exact ⟨0, Nat.zero_le _, rfl, rfl, Below.refl _ _⟩
  case round =>
    obtain ⟨j, hj, rfl, hall, hb⟩ := hrel
    have HL := Lib.hid hall
    clear hall
    by_cases hlt : j < N
    · cases hp : p j
      · have HB := Lib.hid hp
        have HN := Lib.hid (allK_false (k := 2^n) j (by rw [← HN2.out]; exact hlt) hp)
        clear hp
        go_wp2_with (go_at_fn k; refine (HA.out.gives _ j (by rw [← HN2.out]; exact hlt) hb).mono ?_; rintro e w' ⟨rfl, hb'⟩; rw [HB.out])
        go_ret
        exact ⟨by rw [HN.out]; rfl, bfrom hb hb'⟩
      · have HB := Lib.hid hp
        have HS := Lib.hid (show allK p (j+1) = true from by simp only [allK]; rw [HL.out, hp]; rfl)
        clear hp
        go_wp2_with (go_at_fn k; refine (HA.out.gives _ j (by rw [← HN2.out]; exact hlt) hb).mono ?_; rintro e w' ⟨rfl, hb'⟩; rw [HB.out])
        go_roundw
        case rel => exact ⟨j + 1, by omega, by go_num, HS.out, bfrom hb hb'⟩
        case measure => simp [intOf]; omega
    · obtain rfl : j = N := by omega
      go_wp2
      go_ret
      exact ⟨by rw [← HN2.out, HL.out]; rfl, hb⟩
end Go.Proofs.Ytnldodnpakpeeaa

namespace Go.Proofs.Ytnldodnpakpeeaa
open Go.RowKit Vo

/-- Who wins, of whatever numbers. -/
def winB (q : Int) (ws : List Int) (n : Nat) (s : Nat) : Bool := decide (q ≤ wtK ws s n)

theorem wins_asks (q : Int) (b off n cap : Nat) (ws : List Int) (w : World) (hn : n < 10) (hok : InK 0 1000 ws n) (hsl : Sl w b off n ws) :
    Asks (winB q ws n) 174 #[.agg #[.int .i64 q, .slice (some ⟨b, off, none⟩) n cap]] #[] n w :=
  ⟨enters_of Try.func174 (by kernel_rfl) rfl, fun W s hs hb => wins_any q b off n cap ws s W hn (by have := pow_lt (n := n) (by omega); omega) hok (hsl.now hb)⟩

def cntB (q : Int) (ws : List Int) (n : Nat) : Int := if goodB q ws n then (cnt (winB q ws n) (2^n) : Nat) else 0
theorem cntB_yes {q ws n} (h : goodB q ws n = true) : cntB q ws n = (cnt (winB q ws n) (2^n) : Nat) := if_pos h
theorem cntB_no {q ws n} (h : goodB q ws n = false) : cntB q ws n = 0 := if_neg (by rw [h]; simp)

def properP (q : Int) (ws : List Int) (n : Nat) (s : Nat) : Bool := !winB q ws n s || !winB q ws n (co n s)
def strongP (q : Int) (ws : List Int) (n : Nat) (s : Nat) : Bool := winB q ws n s || winB q ws n (co n s)

def isProperB (q : Int) (ws : List Int) (n : Nat) : Bool := goodB q ws n && allK (properP q ws n) (2^n)
theorem isProperB_yes {q ws n} (h : goodB q ws n = true) : isProperB q ws n = allK (properP q ws n) (2^n) := by unfold isProperB; rw [h]; rfl
theorem isProperB_no {q ws n} (h : goodB q ws n = false) : isProperB q ws n = false := by unfold isProperB; rw [h]; rfl

def isStrongB (q : Int) (ws : List Int) (n : Nat) : Bool := goodB q ws n && allK (strongP q ws n) (2^n)
theorem isStrongB_yes {q ws n} (h : goodB q ws n = true) : isStrongB q ws n = allK (strongP q ws n) (2^n) := by unfold isStrongB; rw [h]; rfl
theorem isStrongB_no {q ws n} (h : goodB q ws n = false) : isStrongB q ws n = false := by unfold isStrongB; rw [h]; rfl

end Go.Proofs.Ytnldodnpakpeeaa

namespace Go.Proofs.Ytnldodnpakpeeaa
open Go.RowKit Vo

def inB (x lo hi : Int) : Bool := decide (lo ≤ x) && decide (x ≤ hi)
theorem inB_yes {x lo hi : Int} (h1 : lo ≤ x) (h2 : x ≤ hi) : inB x lo hi = true := by simp [inB, h1, h2]
theorem inB_no {x lo hi : Int} (h : ¬ (lo ≤ x ∧ x ≤ hi)) : inB x lo hi = false := by
  unfold inB
  by_cases h1 : lo ≤ x
  · have : ¬ x ≤ hi := fun h2 => h ⟨h1, h2⟩
    simp [this]
  · simp [h1]

set_option maxHeartbeats 400000 in
theorem l1In_any (x lo hi : Int) (w : World) : Calls Try.prog 49 #[.int .i64 x, .int .i64 lo, .int .i64 hi] w fun e w' => e = .returned (.bool (inB x lo hi)) ∧ w = w' := by
  by_cases h1 : lo ≤ x
  · by_cases h2 : x ≤ hi
    · have H := Lib.hid (inB_yes h1 h2)
      go_enter Try.func49, Try.ntmps49
      go_wp2
      go_ret
      exact ⟨by rw [H.out]; rfl, rfl⟩
    · have H := Lib.hid (inB_no (x := x) (lo := lo) (hi := hi) (fun h => h2 h.2))
      go_enter Try.func49, Try.ntmps49
      go_wp2
      go_ret
      exact ⟨by rw [H.out]; rfl, rfl⟩
  · have H := Lib.hid (inB_no (x := x) (lo := lo) (hi := hi) (fun h => h1 h.1))
    have hd : decide (lo ≤ x) = false := by simpa using h1
    go_enter Try.func49, Try.ntmps49
    go_wp2
    go_ret
    exact ⟨by rw [H.out]; simp, rfl⟩

def allB (lo hi : Int) (xs : List Int) (m : Nat) : Bool := decide (InK lo hi xs m)
theorem allB_yes {lo hi : Int} {xs m} (h : InK lo hi xs m) : allB lo hi xs m = true := decide_eq_true h
theorem allB_no {lo hi : Int} {xs m} (h : ¬ InK lo hi xs m) : allB lo hi xs m = false := decide_eq_false h

set_option maxHeartbeats 1000000 in
theorem l1All_any (b off m cap : Nat) (xs : List Int) (lo hi : Int) (w : World) (hm : m ≤ 9223372036854775807) (hsl : Sl w b off m xs) :
    Calls Try.prog 167 #[.slice (some ⟨b, off, none⟩) m cap, .int .i64 lo, .int .i64 hi] w fun e w' => e = .returned (.bool (allB lo hi xs m)) ∧ w = w' := by
  have HSL := Lib.hid hsl
  clear hsl
  have hlt0 := HSL.out.lt
  go_enter Try.func167, Try.ntmps167
  go_wp2
  go_loop [8, 11] (fun _ i => ∃ k : Nat, k ≤ m ∧ i = .int .i64 k ∧ InK lo hi xs k) (fun _ i => m - (intOf i).toNat)
  case atStart => exact ⟨0, Nat.zero_le _, rfl, InK.zero⟩
  case round =>
    obtain ⟨k, hk, rfl, hin⟩ := hrel
    have HIN := Lib.hid hin
    clear hin
    by_cases hlt : k < m
    · have hcell : w.cell? ⟨b, off + k, none⟩ = some (.int .i64 (xs.getD k 0)) := HSL.out.cell k hlt
      by_cases hw : lo ≤ xs.getD k 0 ∧ xs.getD k 0 ≤ hi
      · have HS := Lib.hid (HIN.out.succ hw.1 hw.2)
        have HB := Lib.hid (inB_yes hw.1 hw.2)
        clear hw
        generalize xs.getD k 0 = x at *
        go_wp2_with (go_at_call 49; refine (l1In_any x lo hi _).mono ?_; rintro e w' ⟨rfl, rfl⟩; rw [HB.out])
        go_round
        case rel => exact ⟨k + 1, by omega, by go_num, HS.out⟩
        case measure => simp [intOf]; omega
      · have HB := Lib.hid (inB_no hw)
        have HN := Lib.hid (allB_no (fun g : InK lo hi xs m => hw (g k hlt)))
        clear hw
        generalize xs.getD k 0 = x at *
        go_wp2_with (go_at_call 49; refine (l1In_any x lo hi _).mono ?_; rintro e w' ⟨rfl, rfl⟩; rw [HB.out])
        go_ret
        exact ⟨by rw [HN.out]; rfl, rfl⟩
    · obtain rfl : k = m := by omega
      go_wp2
      go_ret
      exact ⟨by rw [allB_yes HIN.out]; rfl, rfl⟩

set_option maxHeartbeats 400000 in
theorem voSum_any (b off n cap : Nat) (ws : List Int) (w : World) (hn : n < 10) (hok : InK 0 1000 ws n) (hsl : Sl w b off n ws) :
    Calls Try.prog 168 #[.slice (some ⟨b, off, none⟩) n cap] w fun e w' => e = .returned (.int .i64 (sumK ws n)) ∧ w = w' := by
  have HSL := Lib.hid hsl
  have HOK := Lib.hid hok
  clear hsl hok
  have hlt0 := HSL.out.lt
  go_enter Try.func168, Try.ntmps168
  go_wp2
  go_loop [3, 8] (fun t i => ∃ k : Nat, k ≤ n ∧ i = .int .i64 k ∧ t = .int .i64 (sumK ws k)) (fun _ i => n - (intOf i).toNat)
  case atStart => exact ⟨0, Nat.zero_le _, rfl, rfl⟩
  case round =>
    obtain ⟨k, hk, rfl, rfl⟩ := hrel
    have s0 := sumK_bd (InK.mono HOK.out hk)
    by_cases hlt : k < n
    · have w1 := HOK.out k hlt
      have hcell : w.cell? ⟨b, off + k, none⟩ = some (.int .i64 (ws.getD k 0)) := HSL.out.cell k hlt
      have HS := Lib.hid (show sumK ws (k+1) = sumK ws k + ws.getD k 0 from rfl)
      generalize ws.getD k 0 = x at *
      generalize sumK ws k = t at *
      go_wp2
      go_round
      case rel => exact ⟨k + 1, by omega, by go_num, by rw [HS.out]⟩
      case measure => simp [intOf]; omega
    · obtain rfl : k = n := by omega
      go_wp2
      go_ret
      exact ⟨rfl, rfl⟩

theorem bit_mod (s k : Nat) : ((s : Int) / 2 ^ k % 2 == 1) = s.testBit k := by
  have e : ((s : Int) / 2 ^ k) = ((s / 2 ^ k : Nat) : Int) := by simp
  rw [e]
  rw [Nat.testBit_eq_decide_div_mod_eq]
  generalize s / 2 ^ k = m
  by_cases h : m % 2 = 1
  · have : (m : Int) % 2 = 1 := by omega
    simp [h, this]
  · have h0 : m % 2 = 0 := by omega
    have : (m : Int) % 2 = 0 := by omega
    simp [h0, this]
theorem div_nn (s k : Nat) : 0 ≤ (s : Int) / 2 ^ k := by
  have e : ((s : Int) / 2 ^ k) = ((s / 2 ^ k : Nat) : Int) := by simp
  rw [e]; exact Int.natCast_nonneg _

set_option maxHeartbeats 400000 in
theorem voWeight_any (v : Value) (b off n cap : Nat) (ws : List Int) (s : Nat) (w : World) (hn : n < 10) (_hs : s < 512) (hok : InK 0 1000 ws n) (hsl : Sl w b off n ws) :
    Calls Try.prog 169 #[.agg #[v, .slice (some ⟨b, off, none⟩) n cap], .int .i64 s] w fun e w' => e = .returned (.int .i64 (wtK ws s n)) ∧ Below w.heap.size w w' := by
  obtain ⟨hlt, hc⟩ := hsl
  have HOK := Lib.hid hok
  clear hok
  have HC := Lib.hid hc
  clear hc
  have hb1 := (below1 w (.cells #[v, .slice (some ⟨b, off, none⟩) n cap] 116))
  go_enter Try.func169, Try.ntmps169
  go_wp2
  go_loop [5, 11] (fun t i => ∃ k : Nat, k ≤ n ∧ i = .int .i64 k ∧ t = .int .i64 (wtK ws s k)) (fun _ i => n - (intOf i).toNat)
  case atStart => exact ⟨0, Nat.zero_le _, rfl, rfl⟩
  case round =>
    obtain ⟨k, hk, rfl, rfl⟩ := hrel
    have w0 := wtK_bd (s := s) (InK.mono HOK.out hk)
    have s0 := sumK_bd (InK.mono HOK.out hk)
    by_cases hlt : k < n
    · have w1 := HOK.out k hlt
      have hcell : w.cell? ⟨b, off + k, none⟩ = some (.int .i64 (ws.getD k 0)) := HC.out k hlt
      have HS := Lib.hid (show wtK ws s (k+1) = wtK ws s k + if s.testBit k then ws.getD k 0 else 0 from rfl)
      have hnn := div_nn s k
      generalize ws.getD k 0 = x at *
      generalize wtK ws s k = t at *
      cases hbit : s.testBit k
      all_goals
        have hb := bit_mod s k
        rw [hbit] at hb HS
        go_wp2
        go_round
        case rel => exact ⟨k + 1, by omega, by go_num, by rw [HS.out]; simp⟩
        case measure => simp [intOf]; omega
    · obtain rfl : k = n := by omega
      go_wp2
      go_ret
      exact ⟨rfl, hb1⟩
end Go.Proofs.Ytnldodnpakpeeaa
