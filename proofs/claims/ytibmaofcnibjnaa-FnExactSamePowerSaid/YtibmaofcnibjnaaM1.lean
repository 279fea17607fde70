/- Contracts of marking a slice of the call's own, of looking whether the marks are held, and of comparing such slices. -/
import Derived.Test.YtibmaofcnibjnaaL1
namespace Go.Proofs.Ytibmaofcnibjnaa
open Go.RowKit Vo

def RowAt (w : World) (A : Option Addr) (n : Nat) : Prop := n = 0 ∨ ∃ g f, A = some ⟨g, 0, none⟩ ∧ Own w g 3 n f
def Marked (w : World) (A : Option Addr) (n : Nat) (kk : Int) : Prop := n = 0 ∨ ∃ g, A = some ⟨g, 0, none⟩ ∧ Own w g 3 n (fun j => .int .i64 (kk + j))
/-- Nothing but block A has turned. -/
def Only (A : Option Addr) (w w' : World) : Prop := w.grownBy w' (A.map (·.block))

theorem grown_refl (w : World) (r : Option Nat) : w.grownBy w r := ⟨rfl, rfl, rfl, Nat.le_refl _, fun _ _ _ => rfl⟩
theorem grown_set {w wr : World} {g : Nat} (h : w.grownBy wr (some g)) (o : Nat) (u : Value) : w.grownBy (wr.setCell ⟨g, o, none⟩ u) (some g) :=
  ⟨h.os, h.tape, h.output, by have := h.size; simpa [World.setCell] using this, fun k hk hne => (Below.heap_setCell wr ⟨g, o, none⟩ u k (fun e => hne (by rw [e]))).trans (h.block k hk hne)⟩
theorem grown_pre {w w1 w2 : World} {r : Option Nat} (hb : Below w.heap.size w w1) (h : w1.grownBy w2 r) : w.grownBy w2 r :=
  ⟨h.os.trans hb.os, h.tape.trans hb.tape, h.output.trans hb.output, Nat.le_trans hb.size h.size, fun k hk hne => (h.block k (Nat.lt_of_lt_of_le hk hb.size) hne).trans (hb.block k hk)⟩
theorem owns_apart {w w' : World} {base : Nat} {e : TypeId} {size : Nat} {v : Value} {n : Nat} {xs : List Value} {r : Option Nat} (h : w.ownsRow base e size v n xs) (hne : ∀ k, v.ownBlock = some k → r = some k → False) (hg : w.grownBy w' r) : w'.ownsRow base e size v n xs := by
  obtain ⟨h1, h2⟩ := h
  refine ⟨h1, ?_⟩
  rcases h2 with h2 | ⟨g, cap, cur, hv, hgb, hh, r2⟩
  · exact Or.inl h2
  · refine Or.inr ⟨g, cap, cur, hv, hgb, (hg.block g (Array.getElem?_eq_some_iff.1 hh).1 (fun e => hne g (by rw [hv]; rfl) e.symm)).trans hh, r2⟩
theorem Marked.now {w w' : World} {A : Option Addr} {n : Nat} {kk : Int} (h : Marked w A n kk) (hb : Below w.heap.size w w') : Marked w' A n kk := by
  rcases h with h | ⟨g, hA, h⟩
  · exact Or.inl h
  · exact Or.inr ⟨g, hA, h.below hb h.lt⟩
theorem RowAt.of_own {w : World} {base : Nat} {A : Option Addr} {n cap : Nat} {xs : List Int} (h : w.ownsRow base 3 1 (.slice A n cap) n (xs.map (Value.int .i64))) : RowAt w A n := by
  by_cases hn : n = 0
  · exact Or.inl hn
  · obtain ⟨g, cap', hv, _, _, _⟩ := owns_head h (by omega)
    injection hv with hA _ hc
    subst hA
    have hl : xs.length = n := by have := h.1; simpa using this
    exact Or.inr ⟨g, fun i => .int .i64 (xs.getD i 0), rfl, Own.of_own h fun i hi => by simp [hl, hi]⟩

set_option maxHeartbeats 1000000 in
theorem markIntS_any (A : Option Addr) (n cap : Nat) (kk : Int) (w : World) (h0 : 0 ≤ kk) (h1 : kk ≤ 1048577) (hn : n ≤ 1048576) (hr : RowAt w A n) :
    Calls Try.prog 70 #[.slice A n cap, .int .i64 kk] w fun e w' => e = .returned (.int .i64 (kk + n)) ∧ Only A w w' ∧ Marked w' A n kk := by
  rcases hr with hr | ⟨g, f, rfl, hown⟩
  · subst hr
    go_enter Try.func70, Try.ntmps70
    go_wp2
    refine wp_loop_rounds 1 ?_
    rw [rounds_succ]
    go_wp2
    go_ret
    exact ⟨by simp, grown_refl _ _, Or.inl rfl⟩
  · have HO := Lib.hid hown
    have hgl := hown.lt
    clear hown
    go_enter Try.func70, Try.ntmps70
    go_wp2
    go_loopw [1, 5] (fun q i wr => ∃ k : Nat, k ≤ n ∧ i = .int .i64 k ∧ q = .int .i64 (kk + k) ∧ Own wr g 3 n (fun j => if j < k then .int .i64 (kk + j) else f j) ∧ w.grownBy wr (some g)) (fun _ i _ => n - (intOf i).toNat)
    case atStart => exact ⟨0, Nat.zero_le _, rfl, by simp, HO.out.congr fun i _ => by simp, grown_refl _ _⟩
    case round =>
      obtain ⟨k, hk, rfl, rfl, hown, hg⟩ := hrel
      have HO2 := Lib.hid hown
      have HG := Lib.hid hg
      have hgs := hg.size
      clear hown hg
      by_cases hlt : k < n
      · have hold := HO2.out.cell hlt
        have hfr := HO2.out.frozen k
        simp only [Nat.lt_irrefl, if_false] at hold
        have HS := Lib.hid (HO2.out.set k (.int .i64 (kk + k)))
        have HG2 := Lib.hid (grown_set HG.out k (.int .i64 (kk + k)))
        go_wp2
        go_roundw
        case rel =>
          refine ⟨k + 1, by omega, by go_num, by go_num, ?_, HG2.out⟩
          refine HS.out.congr fun i hi => ?_
          by_cases e : i = k
          · subst e; rw [if_pos rfl, if_pos (by omega)]
          · rw [if_neg e]
            by_cases h : i < k
            · rw [if_pos h, if_pos (by omega)]
            · rw [if_neg h, if_neg (by omega)]
        case measure => simp [intOf]; omega
      · obtain rfl : k = n := by omega
        go_wp2
        go_ret
        exact ⟨rfl, HG.out, Or.inr ⟨g, rfl, HO2.out.congr fun i hi => by simp [hi]⟩⟩

set_option maxHeartbeats 1000000 in
theorem heldIntS_any (A : Option Addr) (n cap : Nat) (kk : Int) (w : World) (h0 : 0 ≤ kk) (h1 : kk ≤ 1048577) (hn : n ≤ 1048576) (hr : Marked w A n kk) :
    Calls Try.prog 71 #[.slice A n cap, .int .i64 kk] w fun e w' => e = .returned (.int .i64 (kk + n)) ∧ w = w' := by
  rcases hr with hr | ⟨g, rfl, hown⟩
  · subst hr
    go_enter Try.func71, Try.ntmps71
    go_wp2
    refine wp_loop_rounds 1 ?_
    rw [rounds_succ]
    go_wp2
    go_ret
    exact ⟨by simp, rfl⟩
  · have HO := Lib.hid hown
    have hgl := hown.lt
    clear hown
    go_enter Try.func71, Try.ntmps71
    go_wp2
    go_loop [1, 5] (fun q i => ∃ k : Nat, k ≤ n ∧ i = .int .i64 k ∧ q = .int .i64 (kk + k)) (fun _ i => n - (intOf i).toNat)
    case atStart => exact ⟨0, Nat.zero_le _, rfl, by simp⟩
    case round =>
      obtain ⟨k, hk, rfl, rfl⟩ := hrel
      by_cases hlt : k < n
      · have hcell := HO.out.cell hlt
        go_wp2
        go_round
        case rel => exact ⟨k + 1, by omega, by go_num, by go_num⟩
        case measure => simp [intOf]; omega
      · obtain rfl : k = n := by omega
        go_wp2
        go_ret
        exact ⟨rfl, rfl⟩

set_option maxHeartbeats 1000000 in
theorem eqIntS_zero (A A2 : Option Addr) (c c2 : Nat) (w : World) :
    Calls Try.prog 69 #[.slice A 0 c, .slice A2 0 c2] w fun e w' => e = .returned (.bool true) ∧ Below w.heap.size w w' := by
  go_enter Try.func69, Try.ntmps69
  go_wp2
  refine wp_loop_rounds 1 ?_
  rw [rounds_succ]
  go_wp2
  go_ret
  exact ⟨rfl, Below.refl _ _⟩

theorem own_sl {w : World} {base g n cap : Nat} {xs : List Int} (h : w.ownsRow base 3 1 (.slice (some ⟨g, 0, none⟩) n cap) n (xs.map (Value.int .i64))) : Sl w g 0 n xs := by
  have hl : xs.length = n := by have := h.1; simpa using this
  have ho : Ints w g n xs := Own.of_own h fun i hi => by simp [hl, hi]
  exact ho.sl

/-- Two slices of the call's own that hold the same integers are found the same. -/
theorem eqIntS_own (A A2 : Option Addr) (n c c2 base base2 : Nat) (xs : List Int) (w : World) (hm : n ≤ 9223372036854775807) (h1 : w.ownsRow base 3 1 (.slice A n c) n (xs.map (Value.int .i64))) (h2 : w.ownsRow base2 3 1 (.slice A2 n c2) n (xs.map (Value.int .i64))) :
    Calls Try.prog 69 #[.slice A n c, .slice A2 n c2] w fun e w' => e = .returned (.bool true) ∧ Below w.heap.size w w' := by
  by_cases hn : n = 0
  · subst hn; exact eqIntS_zero A A2 c c2 w
  · obtain ⟨g, cap', hv, _, _, _⟩ := owns_head h1 (by omega)
    injection hv with hA _ hc
    subst hA
    obtain ⟨g2, cap2', hv2, _, _, _⟩ := owns_head h2 (by omega)
    injection hv2 with hA2 _ hc2
    subst hA2
    refine (eqIntS_in g 0 n c g2 0 c2 xs xs w hm (own_sl h1) (own_sl h2)).mono ?_
    rintro e w1 ⟨rfl, hb⟩
    rw [sameB_yes (fun _ _ => rfl)]
    exact ⟨rfl, hb⟩

set_option maxHeartbeats 1000000 in
theorem markCommittee_any (v : Value) (A : Option Addr) (n cap : Nat) (w : World) (hn : n ≤ 1048576) (hr : RowAt w A n) :
    Calls Try.prog 37 #[.agg #[v, .slice A n cap], .int .i64 1] w fun e w' => e = .returned (.int .i64 (1 + n)) ∧ Only A w w' := by
  have HR := Lib.hid hr
  clear hr
  have HR2 := Lib.hid (show RowAt (w.alloc (.cells #[v, .slice A n cap] 24)) A n from by
    rcases HR.out with h | ⟨g, f, hA, h⟩
    · exact Or.inl h
    · exact Or.inr ⟨g, f, hA, h.alloc _⟩)
  go_enter Try.func37, Try.ntmps37
  go_wp2_with fail
  refine (markIntS_any A n cap 1 _ (by omega) (by omega) hn HR2.out).mono ?_
  rintro e w1 ⟨rfl, ho, _⟩
  have HO := Lib.hid ho
  clear ho
  go_wp2
  go_ret
  exact ⟨rfl, grown_pre (below1 w _) HO.out⟩
end Go.Proofs.Ytibmaofcnibjnaa
