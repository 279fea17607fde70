/- Contracts of the least and the greatest sum of sets of members, and of the least quota between. -/
import Derived.Test.YtipplbcjdcdapabGreatWa
import Derived.Test.YtipplbcjdcdapabGreatO2
import Derived.Test.YtipplbcjdcdapabGreatW2
import Derived.Test.YtipplbcjdcdapabGreatR3
import Derived.Laws.Small
namespace Go.Proofs.YtipplbcjdcdapabGreat
open Go.RowKit Vo

theorem ite_max (t x : Int) : (if t < x then x else t) = max t x := by split <;> omega
theorem ite_min (t x : Int) : (if x < t then x else t) = min t x := by split <;> omega
/-- A slice that holds these sets. -/
def SetsIn (w : World) (A : Option Addr) (L : List Nat) : Prop := ∃ g, (1 ≤ L.length → A = some ⟨g, 0, none⟩) ∧ (1 ≤ L.length → g < w.heap.size) ∧ ∀ j, j < L.length → w.cell? ⟨g, j, none⟩ = some (.int .u64 ((L.getD j 0 : Nat) : Int))
theorem SetsIn.now {w w' : World} {A : Option Addr} {L : List Nat} (h : SetsIn w A L) (hb : Below w.heap.size w w') : SetsIn w' A L := by
  obtain ⟨g, h1, h2, h3⟩ := h
  exact ⟨g, h1, fun h => Nat.lt_of_lt_of_le (h2 h) hb.size, fun j hj => (hb.cell (p := ⟨g, j, none⟩) (h2 (by omega))).trans (h3 j hj)⟩
theorem setsIn_row {w : World} {base cap : Nat} {A : Option Addr} {L : List Nat} (h : w.ownsRow base 66 1 (.slice A L.length cap) L.length (setsV L)) : SetsIn w A L := by
  by_cases h0 : L.length = 0
  · exact ⟨0, fun h => by omega, fun h => by omega, fun j hj => by omega⟩
  · obtain ⟨g, cp, hv, hg, _, _⟩ := owns_head h (by omega)
    obtain ⟨rfl, rfl⟩ : A = some ⟨g, 0, none⟩ ∧ cap = cp := by simpa using hv
    have hI : Own w g 66 L.length (fun i => .int .u64 ((L.getD i 0 : Nat) : Int)) := Own.of_own h fun i hi => by
      rw [setsV, List.getElem?_map, List.getD_eq_getElem?_getD, List.getElem?_eq_getElem hi]; rfl
    exact ⟨g, fun _ => rfl, fun _ => hI.lt, fun j hj => hI.cell hj⟩

set_option maxRecDepth 20000 in
set_option maxHeartbeats 1000000 in
theorem greatestOf_any (b off n cap : Nat) (ws : List Int) (A : Option Addr) (cap2 : Nat) (L : List Nat) (w : World) (hn : n < 10) (hok : InK 0 1000 ws n) (hsl : Sl w b off n ws) (hL : L.length ≤ 512) (h512 : ∀ j, j < L.length → L.getD j 0 < 512)
    (hA : SetsIn w A L) :
    Calls Tryz.prog 34 #[.slice (some ⟨b, off, none⟩) n cap, .slice A L.length cap2] w fun e w' => e = .returned (.int .i64 (highK ws n L L.length)) ∧ w = w' := by
  obtain ⟨g, hA1, _, hA2⟩ := hA
  have HOK := Lib.hid hok
  have HSL := Lib.hid hsl
  have HA1 := Lib.hid hA1
  have HA2 := Lib.hid hA2
  have H5 := Lib.hid h512
  have HBD := Lib.hid (fun k => highK_bd hok (by omega) L k)
  clear hok hsl hA1 hA2 h512
  obtain ⟨m, hm⟩ : ∃ m, m = L.length := ⟨_, rfl⟩
  have HM := Lib.hid hm
  rw [← hm] at hL ⊢
  clear hm
  go_enter Tryz.func34, Tryz.ntmps34
  go_wp2
  go_loop [5, 10] (fun t i => ∃ k : Nat, k ≤ m ∧ i = .int .i64 k ∧ t = .int .i64 (highK ws n L k)) (fun _ i => m - (intOf i).toNat)
  case atStart => exact ⟨0, Nat.zero_le _, rfl, rfl⟩
  case round =>
    obtain ⟨k, hk, rfl, rfl⟩ := hrel
    have hbd := HBD.out k
    by_cases hlt : k < m
    · obtain rfl := HA1.out (by rw [← HM.out]; omega)
      have hcell := HA2.out k (by rw [← HM.out]; exact hlt)
      have hs := H5.out k (by rw [← HM.out]; exact hlt)
      have HS := Lib.hid (show highK ws n L (k+1) = max (highK ws n L k) (wtK ws (L.getD k 0) n) from rfl)
      obtain ⟨s, hs'⟩ : ∃ s, s = L.getD k 0 := ⟨_, rfl⟩
      rw [← hs'] at hcell hs HS
      clear hs'
      obtain ⟨t, ht⟩ : ∃ t, t = highK ws n L k := ⟨_, rfl⟩
      rw [← ht] at hbd HS
      rw [← ht]
      clear ht
      go_wp2_with (go_at_call 49; refine (of_any b off n cap ws s _ hn hs HOK.out HSL.out).mono ?_; rintro e w' ⟨rfl, rfl⟩)
      go_round
      case rel => exact ⟨k + 1, by omega, by go_num, by rw [HS.out, ite_max]⟩
      case measure => simp [intOf]; omega
    · obtain rfl : k = m := by omega
      go_wp2
      go_ret
      exact ⟨rfl, rfl⟩

set_option maxRecDepth 20000 in
set_option maxHeartbeats 1000000 in
theorem lowOf_any (b off n cap : Nat) (ws : List Int) (A : Option Addr) (cap2 : Nat) (L : List Nat) (w : World) (hn : n < 10) (hok : InK 0 1000 ws n) (hsl : Sl w b off n ws) (h1 : 1 ≤ L.length) (hL : L.length ≤ 512) (hcap : L.length ≤ cap2) (hcm : cap2 ≤ maxLen) (h512 : ∀ j, j < L.length → L.getD j 0 < 512)
    (hA : SetsIn w A L) :
    Calls Tryz.prog 35 #[.slice (some ⟨b, off, none⟩) n cap, .slice A L.length cap2] w fun e w' => e = .returned (.int .i64 (lowK ws n L (L.length - 1))) ∧ w = w' := by
  obtain ⟨g, hA1, _, hA2⟩ := hA
  obtain rfl := hA1 h1
  clear hA1
  have HOK := Lib.hid hok
  have HSL := Lib.hid hsl
  have HA2 := Lib.hid hA2
  have H5 := Lib.hid h512
  have HBD := Lib.hid (fun k => lowK_bd hok (by omega) L k)
  clear hok hsl hA2 h512
  obtain ⟨m, hm⟩ : ∃ m, m + 1 = L.length := ⟨L.length - 1, by omega⟩
  have HM := Lib.hid hm
  rw [← hm] at hL hcap ⊢
  clear hm h1
  have hc0 := HA2.out 0 (by rw [← HM.out]; omega)
  have hs0 := H5.out 0 (by rw [← HM.out]; omega)
  have HL0 := Lib.hid (show lowK ws n L 0 = wtK ws (L.getD 0 0) n from rfl)
  obtain ⟨s0, hs0'⟩ : ∃ s, s = L.getD 0 0 := ⟨_, rfl⟩
  rw [← hs0'] at hc0 hs0 HL0
  clear hs0'
  unfold maxLen at hcm
  rw [show m + 1 - 1 = m by omega]
  by_cases hcc : cap2 = 1
  · subst hcc
    obtain rfl : m = 0 := by omega
    go_enter Tryz.func35, Tryz.ntmps35
    go_wp2_with (go_at_call 49; refine (of_any b off n cap ws s0 _ hn hs0 HOK.out HSL.out).mono ?_; rintro e w' ⟨rfl, rfl⟩; rw [← HL0.out])
    go_loop [5, 16] (fun t i => t = .int .i64 (lowK ws n L 0) ∧ i = .int .i64 0) (fun _ i => 0)
    case atStart => exact ⟨rfl, rfl⟩
    case round =>
      obtain ⟨rfl, rfl⟩ := hrel
      go_wp2
      go_ret
      exact ⟨rfl, rfl⟩
  · go_enter Tryz.func35, Tryz.ntmps35
    go_wp2_with (go_at_call 49; refine (of_any b off n cap ws s0 _ hn hs0 HOK.out HSL.out).mono ?_; rintro e w' ⟨rfl, rfl⟩; rw [← HL0.out])
    go_loop [5, 16] (fun t i => ∃ k : Nat, k ≤ m ∧ i = .int .i64 k ∧ t = .int .i64 (lowK ws n L k)) (fun _ i => m - (intOf i).toNat)
    case atStart => exact ⟨0, Nat.zero_le _, rfl, rfl⟩
    case round =>
      obtain ⟨k, hk, rfl, rfl⟩ := hrel
      have hbd := HBD.out k
      by_cases hlt : k < m
      · have hcell := HA2.out (k + 1) (by rw [← HM.out]; omega)
        have hs := H5.out (k + 1) (by rw [← HM.out]; omega)
        have HS := Lib.hid (show lowK ws n L (k+1) = min (lowK ws n L k) (wtK ws (L.getD (k+1) 0) n) from rfl)
        obtain ⟨s, hs'⟩ : ∃ s, s = L.getD (k+1) 0 := ⟨_, rfl⟩
        rw [← hs'] at hcell hs HS
        clear hs'
        obtain ⟨t, ht⟩ : ∃ t, t = lowK ws n L k := ⟨_, rfl⟩
        rw [← ht] at hbd HS
        rw [← ht]
        clear ht
        have hcell' : w.cell? ⟨g, 1 + k, none⟩ = some (.int .u64 ((s : Nat) : Int)) := by rw [Nat.add_comm]; exact hcell
        go_wp2_with (go_at_call 49; refine (of_any b off n cap ws s _ hn hs HOK.out HSL.out).mono ?_; rintro e w' ⟨rfl, rfl⟩)
        go_round
        case rel => exact ⟨k + 1, by omega, by go_num, by rw [HS.out, ite_min]⟩
        case measure => simp [intOf]; omega
      · obtain rfl : k = m := by omega
        go_wp2
        go_ret
        exact ⟨rfl, rfl⟩

/-- What quotaFor answers. -/
def quoQ (lo hi : Int) : Int := if lo ≤ hi then 0 else hi + 1
def quoOk (lo hi : Int) : Bool := !decide (lo ≤ hi)
end Go.Proofs.YtipplbcjdcdapabGreat
