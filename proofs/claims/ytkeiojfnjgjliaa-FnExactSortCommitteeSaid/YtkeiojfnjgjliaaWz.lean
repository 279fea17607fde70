/- Contract of the program's SortCommittee. -/
import Derived.Test.YtkeiojfnjgjliaaUb
import Derived.Test.YtkeiojfnjgjliaaLR
import Derived.Test.YtkeiojfnjgjliaaWy
import Derived.Test.YtkeiojfnjgjliaaD1
import Derived.Test.YtkeiojfnjgjliaaW2
import Derived.Outline
namespace Go.Proofs.Ytkeiojfnjgjliaa
open Go.RowKit Vo

theorem reverseInts_any (zs : List Int) (base g k cap : Nat) (w : World) (hk : k = zs.length) (hk5 : k ≤ 1048576) (hown : w.ownsRow base 3 1 (.slice (some ⟨g, 0, none⟩) k cap) k (intsV zs)) :
    Calls Try.prog 77 #[.slice (some ⟨g, 0, none⟩) k cap] w fun e w' => e = .returned (.tuple #[]) ∧ w'.ownsRow base 3 1 (.slice (some ⟨g, 0, none⟩) k cap) k (intsV zs.reverse) ∧ w.grownBy w' (some g) := by
  obtain ⟨hH, hlt, hbg, hkc, cur, hgb, hm, hs⟩ := holds_row hk hown
  have h := Go.Proofs.Any.slices_Reverse_int Try.revI g 0 cap zs w hH (by omega)
  rw [← hk] at h
  refine h.mono ?_
  rintro e w' ⟨rfl, n, rfl⟩
  have hl : zs.reverse.length = k := by rw [List.length_reverse, hk]
  refine ⟨rfl, ⟨by rw [intsV_len, hl]; omega, .inr ⟨g, cap, _, rfl, hbg, heap_putI _ hgb, hkc, hm, by simp [Sort.putCells, hs], ?_⟩⟩, grownBy_putI _⟩
  rw [take_putCellsI cur _ (k * 1) (by rw [hl]; omega) (by rw [hl]; omega), List.take_of_length_le (by rw [hl]; omega)]
  rfl
theorem grown_below {B : Nat} {w w' : World} {g : Nat} (h : w.grownBy w' (some g)) (hB : B ≤ g) (hw : B ≤ w.heap.size) : Below B w w' :=
  (Below.refl B w).grown h hw fun j hj => by cases hj; exact hB

set_option maxRecDepth 20000 in
set_option maxHeartbeats 4000000 in
theorem sortCommittee_any (q : Int) (A : Option Addr) (n cap : Nat) (ws : List Int) (w : World) (hm : n ≤ 9223372036854775807) (hk : Known w A n ws) :
    Calls Try.prog 34 #[.agg #[.int .i64 q, .slice A n cap]] w fun e w' => ComAt (srtQ q ws n) (dualN q ws n) (insAll ws n) (goodB q ws n) w w' e := by
  have HK := Lib.hid hk
  clear hk
  have hb0 : Below w.heap.size w ((w.alloc (.cells #[.int .i64 q, .slice A n cap] 32)).alloc (.cells #[.int .i64 0, .slice none 0 0] 32)) := (below1 w _).alloc (by simp) _
  have hx := (Box.new w (.int .i64 q) (.slice A n cap)).alloc (.cells #[.int .i64 0, .slice none 0 0] 32)
  have hr := Box.new (w.alloc (.cells #[.int .i64 q, .slice A n cap] 32)) (.int .i64 0) (.slice none 0 0)
  simp only [World.size_alloc] at hr
  have KF := Lib.hid (show ∀ W, BoxT 32 W (w.heap.size + 1) (.int .i64 0) (.slice none 0 0) → (W.frozen? ⟨w.heap.size + 1, 0, none⟩ = false ∧ W.frozen? ⟨w.heap.size + 1, 1, none⟩ = false) from fun W h => by unfold BoxT at h; exact ⟨by simp [World.frozen?, h], by simp [World.frozen?, h]⟩)
  by_cases hg : Vo.Good q ws n
  · obtain ⟨b, off, rfl, hsl⟩ := HK.out.get hg.lo
    have HSL := Lib.hid hsl
    have HG := Lib.hid hg
    have HGB := Lib.hid (goodB_true hg)
    have hn9 := hg.hi
    have hn1 := hg.lo
    have hn10 : n < 10 := by omega
    clear hg hsl
    rw [srtQ_yes HGB.out, dualN_yes HGB.out, HGB.out]
    have HTI := Lib.hid (turn_is ws n)
    have HFL := Lib.hid (firstL_len ws n)
    go_enter Try.func34, Try.ntmps34
    go_wp2_with fail
    refine (isCommittee_any q _ n cap ws _ hm (HK.out.now hb0)).mono ?_
    rintro e w1 ⟨rfl, hb1⟩
    rw [HGB.out]
    have g1 := bfrom hb0 hb1
    have hr1 := hr.now hb1
    have hx1 := hx.now hb1
    obtain ⟨c0, c1⟩ := hx1.cells
    have hzr := hr1.lt
    clear hr hb0 hb1 hx
    go_wp2_with fail
    refine (withQuota_row q q b off n cap ws w1 hn1 hn9 (HSL.out.now g1)).mono ?_
    rintro e w2 ⟨rfl, ho2, hb2⟩
    obtain ⟨g, hg⟩ : ∃ g, g = w1.heap.size + 2 := ⟨_, rfl⟩
    rw [← hg] at ho2 ⊢
    have hgl : g < w2.heap.size := owns_lt ho2 rfl
    have hge : w.heap.size + 2 ≤ g := by omega
    have g2 := bfrom g1 hb2
    have b3 := below1 w2 (.cells #[.int .i64 q, .slice (some ⟨g, 0, none⟩) n n] 32)
    have g3 := bfrom g2 b3
    have ho3 := ho2.alloc (.cells #[.int .i64 q, .slice (some ⟨g, 0, none⟩) n n] 32)
    have hn3 := Box.new w2 (.int .i64 q) (.slice (some ⟨g, 0, none⟩) n n)
    have hr3 := (hr1.now hb2).now b3
    obtain ⟨e0, e1⟩ := hn3.cells
    clear c0 c1 hg
    go_wp2_with fail
    obtain ⟨w3, hw3⟩ : ∃ w3, w3 = w2.alloc (.cells #[.int .i64 q, .slice (some ⟨g, 0, none⟩) n n] 32) := ⟨_, rfl⟩
    obtain ⟨nb, hnb⟩ : ∃ nb, nb = w2.heap.size := ⟨_, rfl⟩
    rw [← hw3] at g3 ho3 hn3 hr3 e0 e1 ⊢
    rw [← hnb] at hn3 hgl e0 e1 ⊢
    have hgn : nb ≠ g := by omega
    have hgr : w.heap.size + 1 ≠ g := by omega
    have hgw : w.heap.size ≤ g := by omega
    clear b3 hw3 hnb g2 ho2 hr1 hb2 hx1 e0 e1
    refine (sortInts_any (firstL ws n) g g n n w3 (by rw [HFL.out]) (by omega) (by unfold intsV firstL; rw [List.map_map]; exact ho3)).mono ?_
    rintro e w4 ⟨rfl, ho4, hgr4⟩
    have hn4 := hn3.grown hgr4 (by simpa using hgn)
    have hr4 := hr3.grown hgr4 (by simpa using hgr)
    have b4 : Below w.heap.size w w4 := g3.trans (grown_below hgr4 hgw g3.size)
    obtain ⟨e0, e1⟩ := hn4.cells
    clear hgr4 ho3 hn3 hr3
    go_wp2_with fail
    clear e0 e1
    refine (reverseInts_any _ g g n n w4 (by rw [List.length_mergeSort, HFL.out]) (by omega) ho4).mono ?_
    rintro e w5 ⟨rfl, ho5, hgr5⟩
    have hn5 := hn4.grown hgr5 (by simpa using hgn)
    have hr5 := hr4.grown hgr5 (by simpa using hgr)
    have b5 : Below w.heap.size w w5 := b4.trans (grown_below hgr5 hgw b4.size)
    obtain ⟨e0, e1⟩ := hn5.cells
    obtain ⟨d0, d1⟩ := hr5.cells
    obtain ⟨f0, f1⟩ := KF.out _ hr5
    have hI : Ints w5 g n (insAll ws n) := by
      rw [← HTI.out]
      exact Own.of_own ho5 fun i hi => by
        have : i < (turnL ws n).length := by rw [HTI.out, insAll_len]; exact hi
        show ((turnL ws n).map (Value.int .i64))[i]? = _
        simp [List.getD_eq_getElem?_getD, this]
    have HI := Lib.hid hI
    clear hI ho5 ho4 hgr5 hn5 hr5
    go_wp2
    refine bodyPost_ret (v := .tuple #[.agg #[.int .i64 q, .slice (some ⟨g, 0, none⟩) n n], .bool true]) (by simp [results, Try.results34, go_sem, d0, d1]) rfl ?_
    exact ⟨_, _, rfl, Or.inr ⟨g, rfl, hgw, (HI.out.far (by simpa using hgr.symm) _).far (by simpa using hgr.symm) _⟩, (b5.setCell (by simp) _).setCell (by simp) _⟩
  · have HGB := Lib.hid (goodB_false hg)
    clear hg
    go_enter Try.func34, Try.ntmps34
    go_wp2_with fail
    refine (isCommittee_any q A n cap ws _ hm (HK.out.now hb0)).mono ?_
    rintro e w1 ⟨rfl, hb1⟩
    rw [HGB.out]
    have g1 := bfrom hb0 hb1
    have hr1 := hr.now hb1
    obtain ⟨c0, c1⟩ := hr1.cells
    obtain ⟨f0, f1⟩ := KF.out _ hr1
    clear hr hb0 hb1 hx
    go_wp2
    refine bodyPost_ret (v := .tuple #[.agg #[.int .i64 0, .slice none 0 0], .bool false]) (by simp [results, Try.results34, go_sem, c0, c1]) rfl ?_
    rw [srtQ_no HGB.out, dualN_no HGB.out, HGB.out]
    exact ⟨_, _, rfl, Or.inl ⟨rfl, rfl⟩, (g1.setCell (by simp) _).setCell (by simp) _⟩
end Go.Proofs.Ytkeiojfnjgjliaa
