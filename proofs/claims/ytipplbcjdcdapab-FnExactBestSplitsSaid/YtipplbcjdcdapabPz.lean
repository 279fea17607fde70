/- Contracts of the program's split, SplitMember and SplitGain. -/
import Derived.Test.YtipplbcjdcdapabPt
import Derived.Test.YtipplbcjdcdapabPv
import Derived.Outline
namespace Go.Proofs.Ytipplbcjdcdapab
open Go.RowKit Vo

/-- Both parts of a member. -/
def twoS (x : Int) : Nat := 2^x.toNat ||| 2^(x.toNat+1)
theorem splitOk_parts {q ws n x y} (h : splitOk q ws n x y = true) : partAsk q ws n x y = true ∧ n < 9 := by
  unfold splitOk at h
  simp at h
  exact h

set_option maxRecDepth 20000 in
set_option maxHeartbeats 2000000 in
theorem split_none (q : Int) (A : Option Addr) (n cap : Nat) (ws : List Int) (x y : Int) (w : World) (hm : n ≤ 9223372036854775807) (hk : Known w A n ws) (hask : partAsk q ws n x y = false) :
    Calls Try.prog 48 #[.agg #[.int .i64 q, .slice A n cap], .int .i64 x, .int .i64 y] w fun e w' => e = .returned (.tuple #[.agg #[.int .i64 0, .slice none 0 0, .int .u64 0], .bool false]) ∧ Below w.heap.size w w' := by
  have HK := Lib.hid hk
  clear hk
  have hb0 : Below w.heap.size w ((w.alloc (.cells #[.int .i64 q, .slice A n cap] 41)).alloc (.cells #[.int .i64 0, .slice none 0 0, .int .u64 0] 80)) := (below1 w _).alloc (by simp) _
  have hx := (Box.new w (.int .i64 q) (.slice A n cap)).alloc (.cells #[.int .i64 0, .slice none 0 0, .int .u64 0] 80)
  have hr := Box3.new 80 (w.alloc (.cells #[.int .i64 q, .slice A n cap] 41)) (.int .i64 0) (.slice none 0 0) (.int .u64 0)
  simp only [World.size_alloc] at hr
  cases h1 : memOk q ws n x with
  | false =>
    have HM1 := Lib.hid h1
    clear h1 hask
    go_enter Try.func48, Try.ntmps48
    go_wp2_with fail
    refine (hasMember_any q A n cap ws x _ hm (HK.out.now hb0)).mono ?_
    rintro e w1 ⟨rfl, hb1⟩
    rw [HM1.out]
    have g1 := bfrom hb0 hb1
    have hr1 := hr.now hb1
    obtain ⟨d0, d1, d2⟩ := hr1.cells
    obtain ⟨f0, f1, f2⟩ := frozen_box3 hr1
    clear hr hb0 hb1 hx
    go_wp2
    have hr3 := hr1.put (.int .i64 0) (.slice none 0 0) (.int .u64 0)
    obtain ⟨e0, e1, e2⟩ := hr3.cells
    refine bodyPost_ret (v := .tuple #[.agg #[.int .i64 0, .slice none 0 0, .int .u64 0], .bool false]) (by simp [results, Try.results48, go_sem, e0, e1, e2]) rfl ⟨rfl, ?_⟩
    exact ((g1.setCell (by simp) _).setCell (by simp) _).setCell (by simp) _
  | true =>
    have HM1 := Lib.hid h1
    obtain ⟨hg, hx0, hxn⟩ := memOk_parts h1
    obtain ⟨b, off, rfl, hsl⟩ := HK.out.get hg.lo
    have HSL := Lib.hid hsl
    have hzb : inB y 0 (ws.getD x.toNat 0) = false := by unfold partAsk at hask; rw [h1] at hask; simpa using hask
    obtain ⟨i, rfl⟩ : ∃ i : Nat, x = i := ⟨x.toNat, by omega⟩
    have hi : i < n := by omega
    rw [Int.toNat_natCast] at hzb
    clear h1 hask hg hsl
    go_enter Try.func48, Try.ntmps48
    go_wp2_with fail
    refine (hasMember_any q _ n cap ws i _ hm (HK.out.now hb0)).mono ?_
    rintro e w1 ⟨rfl, hb1⟩
    rw [HM1.out]
    have g1 := bfrom hb0 hb1
    have hr1 := hr.now hb1
    obtain ⟨c0, c1⟩ := (hx.now hb1).cells
    obtain ⟨d0, d1, d2⟩ := hr1.cells
    obtain ⟨f0, f1, f2⟩ := frozen_box3 hr1
    have hci := (HSL.out.now g1).cell i hi
    have hr3 := hr1.put (.int .i64 0) (.slice none 0 0) (.int .u64 0)
    obtain ⟨e0, e1, e2⟩ := hr3.cells
    clear hr hb0 hb1 hx
    generalize ws.getD i 0 = v at *
    by_cases hz0 : y < 0
    · clear hzb
      go_wp2
      refine bodyPost_ret (v := .tuple #[.agg #[.int .i64 0, .slice none 0 0, .int .u64 0], .bool false]) (by simp [results, Try.results48, go_sem, e0, e1, e2]) rfl ⟨rfl, ?_⟩
      exact ((g1.setCell (by simp) _).setCell (by simp) _).setCell (by simp) _
    · have hzv : v < y := by
        unfold inB at hzb
        simp at hzb
        omega
      have hz0' : 0 ≤ y := by omega
      clear hzb hz0
      go_wp2
      refine bodyPost_ret (v := .tuple #[.agg #[.int .i64 0, .slice none 0 0, .int .u64 0], .bool false]) (by simp [results, Try.results48, go_sem, e0, e1, e2]) rfl ⟨rfl, ?_⟩
      exact ((g1.setCell (by simp) _).setCell (by simp) _).setCell (by simp) _

theorem split_all (q : Int) (A : Option Addr) (n : Nat) (ws : List Int) (x y : Int) (w : World) (hm : n ≤ 9223372036854775807) (hk : Known w A n ws) :
    Calls Try.prog 48 #[.agg #[.int .i64 q, .slice A n n], .int .i64 x, .int .i64 y] w fun e w' => PartyAt (splitOk q ws n x y) q (n + 1) (splitL ws n x.toNat y) (twoS x) w w' e := by
  cases hask : partAsk q ws n x y with
  | false =>
    have e : splitOk q ws n x y = false := by unfold splitOk; rw [hask]; rfl
    rw [e]
    exact (split_none q A n n ws x y w hm hk hask).mono fun e w' h => by obtain ⟨rfl, hb⟩ := h; exact PartyAt.fail hb
  | true =>
    obtain ⟨hg, hxb, hy0, hy1⟩ := partAsk_parts hask
    obtain ⟨b, off, rfl, hsl⟩ := hk.get hg.lo
    obtain ⟨i, rfl⟩ : ∃ i : Nat, x = i := ⟨x.toNat, by omega⟩
    rw [Int.toNat_natCast] at hy1
    have e : splitOk q ws n i y = decide (n < 9) := by unfold splitOk; rw [hask]; rfl
    rw [e]
    unfold twoS
    rw [Int.toNat_natCast]
    exact split_run q b off n i ws y _ w (by omega) hg hy0 hy1 (split_good hg (by omega) hy0 hy1) hsl
theorem held_far2 {base base' : Nat} {w : World} {A : Option Addr} {m : Nat} {L : List Int} (h : Held base' w A m L) (hb : base ≤ base') (r : Nat) (hr : r < base') (u u' : Value) : Held base ((w.setCell ⟨r, 0, none⟩ u).setCell ⟨r, 1, none⟩ u') A m L := by
  rcases h with h | ⟨g, hA, hg, hi⟩
  · exact Or.inl h
  · exact Or.inr ⟨g, hA, by omega, (hi.far (by simp; omega) _).far (by simp; omega) _⟩

end Go.Proofs.Ytipplbcjdcdapab
