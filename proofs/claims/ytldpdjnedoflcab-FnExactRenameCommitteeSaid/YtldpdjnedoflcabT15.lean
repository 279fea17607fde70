/- Contract of the model's RenameCommittee. -/
import Derived.Test.YtldpdjnedoflcabT14
import Derived.Deep.RegionHeld3
import Derived.Deep.RegionLaw
import Derived.Outline
namespace Go.Proofs.Ytldpdjnedoflcab
open Go.RowKit Vo

theorem box_fr {w : World} {g : Nat} {u v : Value} (h : BoxT 29 w g u v) : w.frozen? ⟨g, 1, none⟩ = false := by
  unfold BoxT at h; simp [World.frozen?, h]
theorem BoxT.set1 {t : TypeId} {w : World} {g : Nat} {u v : Value} (h : BoxT t w g u v) (b : Value) : BoxT t (w.setCell ⟨g, 1, none⟩ b) g u b := by
  unfold BoxT at *
  simp [World.setCell, Array.getElem?_modify, h]

set_option maxRecDepth 20000 in
set_option maxHeartbeats 4000000 in
theorem sRenameCommittee_any (q : Int) (A : Option Addr) (n cap : Nat) (ws : List Int) (b2 off2 m cap2 : Nat) (xs : List Int) (w : World) (hm : n ≤ 9223372036854775807) (hk : Known w A n ws) (hm2 : m ≤ 9223372036854775807) (hs : Sl w b2 off2 m xs) (hcap : m ≤ cap2 := by exact Nat.le_refl _) :
    Calls Try.prog 33 #[.agg #[.int .i64 q, .slice A n cap], .slice (some ⟨b2, off2, none⟩) m cap2] w fun e w' => ComAt (renQ q ws n xs m) (renN q ws n xs m) (renK ws xs m) (ordOk q ws n xs m) w w' e := by
  have HK := Lib.hid hk
  have HSL := Lib.hid hs
  clear hk hs
  have hb0 : Below w.heap.size w ((w.alloc (.cells #[.int .i64 q, .slice A n cap] 29)).alloc (.cells #[.int .i64 0, .slice none 0 0] 29)) := (below1 w _).alloc (by simp) _
  have hx := (Box.new w (.int .i64 q) (.slice A n cap)).alloc (.cells #[.int .i64 0, .slice none 0 0] 29)
  have hr := Box.new (w.alloc (.cells #[.int .i64 q, .slice A n cap] 29)) (.int .i64 0) (.slice none 0 0)
  simp only [World.size_alloc] at hr
  have KF := Lib.hid (show ∀ W, BoxT 29 W (w.heap.size + 1) (.int .i64 0) (.slice none 0 0) → (W.frozen? ⟨w.heap.size + 1, 0, none⟩ = false ∧ W.frozen? ⟨w.heap.size + 1, 1, none⟩ = false) from fun W h => by unfold BoxT at h; exact ⟨by simp [World.frozen?, h], by simp [World.frozen?, h]⟩)
  by_cases hg : Vo.Good q ws n
  · have HGB := Lib.hid (goodB_true hg)
    obtain ⟨b, off, rfl, hsl⟩ := HK.out.get hg.lo
    have HW := Lib.hid hsl
    have HOK := Lib.hid hg.ok
    have hn9 := hg.hi
    have hn1 := hg.lo
    have hn10 : n < 10 := by omega
    clear hg hsl
    cases hok : ordOk q ws n xs m with
    | true =>
      have HE := Lib.hid hok
      have HD := Lib.hid (ordOk_parts hok)
      have hmn := HD.out.len
      subst hmn
      have HOR := Lib.hid (show orderB m xs m = true from by unfold ordOk at hok; simp at hok; exact hok.2)
      clear hok
      go_enter Try.func33, Try.ntmps33
      go_wp2_with fail
      refine (voGood_any q _ m cap ws _ hm (HK.out.now hb0)).mono ?_
      rintro e w1 ⟨rfl, hb⟩
      rw [HGB.out]
      have hx1 := hx.now hb
      have hr1 := hr.now hb
      have g1 := bfrom hb0 hb
      have hw1 := Lib.hid (HW.out.now g1)
      have hs1 := Lib.hid (HSL.out.now g1)
      obtain ⟨hc0, hc1⟩ := hx1.cells
      go_wp2_with (go_at_call 68; refine (voOrder_any m b2 off2 m cap2 xs _ hn10 hm2 hcap hs1.out).mono ?_; rintro e w3 ⟨rfl, rfl⟩; rw [HOR.out])
      have hnb : w.heap.size + 1 < w1.heap.size := hr1.lt
      have b5 := below1 w1 (.cells #[.int .i64 q, .slice none 0 0] 29)
      have g5 := bfrom g1 b5
      have hx5 := hx1.now b5
      have hr5 := hr1.now b5
      have hn5 := Box.new w1 (.int .i64 q) (.slice none 0 0)
      have hsz5 : (w1.alloc (.cells #[.int .i64 q, .slice none 0 0] 29)).heap.size = w1.heap.size + 1 := by simp
      obtain ⟨w5, hw5⟩ : ∃ w5, w5 = w1.alloc (.cells #[.int .i64 q, .slice none 0 0] 29) := ⟨_, rfl⟩
      rw [← hw5] at g5 hx5 hr5 hn5 hsz5 ⊢
      obtain ⟨nb, hnbe⟩ : ∃ nb, nb = w1.heap.size := ⟨_, rfl⟩
      rw [← hnbe] at hn5 hsz5 hnb ⊢
      have hg5 := g5.size
      clear hc0 hc1 hw5 hb b5 hx1 hr1 g1 hnbe hw1 hs1
      obtain ⟨i0, hi0, hz0, hz1, hz2⟩ := infoIntParts
      go_loopw [8, 26] (fun _ i wr => ∃ (j : Nat) (B : Option Addr) (cp : Nat), j ≤ m ∧ i = .int .i64 j ∧ wr.ownsRow w5.heap.size 3 1 (.slice B j cp) j ((renK ws xs j).map (Value.int .i64)) ∧ Box wr nb (.int .i64 q) (.slice B j cp) ∧ (∀ k, k < w5.heap.size → k ≠ nb → wr.heap[k]? = w5.heap[k]?) ∧ w5.heap.size ≤ wr.heap.size ∧ Below w.heap.size w wr) (fun _ i _ => m - (intOf i).toNat)
      case atStart => exact ⟨0, none, 0, Nat.zero_le _, rfl, World.ownsRow_nil _ _ _ _, hn5, fun _ _ _ => rfl, Nat.le_refl _, g5⟩
      case round =>
        obtain ⟨j, B, cp, hj, rfl, hown, hnr, hsm, hszr, hbr⟩ := hrel
        have HO := Lib.hid hown
        have HSM := Lib.hid hsm
        have hxr : BoxT 29 _ w.heap.size (.int .i64 q) (.slice (some ⟨b, off, none⟩) m cap) := (hsm _ hx5.lt (by omega)).trans hx5
        have hrr : BoxT 29 _ (w.heap.size + 1) (.int .i64 0) (.slice none 0 0) := (hsm _ hr5.lt (by omega)).trans hr5
        obtain ⟨c0, c1⟩ := hxr.cells
        obtain ⟨d0, d1⟩ := hrr.cells
        obtain ⟨e0, e1⟩ := hnr.cells
        obtain ⟨f0, f1⟩ := KF.out _ hrr
        have hnfr := box_fr hnr
        clear hown hsm
        by_cases hlt : j < m
        · have hcell := (HSL.out.now hbr).cell j hlt
          have hin := HD.out.inr j hlt
          obtain ⟨z, hz⟩ : ∃ z : Nat, xs.getD j 0 = z := ⟨(xs.getD j 0).toNat, by omega⟩
          have hzm : z < m := by omega
          have hcw := (HW.out.now hbr).cell z hzm
          obtain ⟨y, hy⟩ : ∃ y, ws.getD z 0 = y := ⟨_, rfl⟩
          have HY := Lib.hid (show renK ws xs (j+1) = renK ws xs j ++ [y] from by simp only [renK, List.range_succ, List.map_append, List.map_cons, List.map_nil]; rw [hz, Int.toNat_natCast, hy])
          rw [hz] at hcell
          rw [hy] at hcw
          clear hz hin hy
          have hlt' : (j : Int) < m := by omega
          have hzm' : (z : Int) < m := by omega
          have hnl := hnr.lt
          go_wp2_with fail
          go_region_law (refine step_append_lies _ (by rfl) _ _ _ (by rfl) w5.heap.size 3 i0 _ 1 8 Try.underlying22 hi0 hz0 hz1 hz2 rfl (by omega) (.slice B j cp) j ((renK ws xs j).map (Value.int .i64)) (by rfl) ((World.ownsRow.drew HO.out).alloc _) ⟨wr.heap.size, 0, none⟩ 1 1 [.int .i64 y] (by rfl) (by rfl) (World.news_of_block (cs := #[.int .i64 y]) (t := 3) (fr := (0, 0)) (heap_alloc_new wr.drew _)) (by simp [Value.oneCell']) (by omega) (by unfold maxLen; omega) (by omega) (by simp; omega) (wr.heap.size + 1) (by simp) ?_; intro gg cap4 w7 hown7 hgrow7 hat7 hlt7; have hn7 := ((hnr.drew.alloc (.cells #[.int .i64 y] 3)).grown hgrow7 (owns_ne HO.out (by omega))); obtain ⟨k0, k1⟩ := hn7.cells; have k2 := box_fr hn7)
          all_goals
            have hz7 := hgrow7.size
            have hz7' : wr.heap.size + 1 ≤ w7.heap.size := by simpa using hz7
            have b7 : Below w.heap.size w w7 := (hbr.drew.alloc hbr.size (.cells #[.int .i64 y] 3)).grown hgrow7 (by have := hbr.size; simp; omega) fun i hi => by have := owns_le HO.out hi; omega
            have hnbl : nb < w5.heap.size := by omega
            have HN7 := Lib.hid (hn7.set1 (.slice (some ⟨gg, 0, none⟩) (j + 1) cap4))
            have HO7 := Lib.hid (owns_far hown7 (p := ⟨nb, 1, none⟩) hnbl (.slice (some ⟨gg, 0, none⟩) (j + 1) cap4))
            have HS7 := Lib.hid (show ∀ k, k < w5.heap.size → k ≠ nb → (w7.setCell ⟨nb, 1, none⟩ (.slice (some ⟨gg, 0, none⟩) (j + 1) cap4)).heap[k]? = w5.heap[k]? from fun k k1 k2 =>
              (Below.heap_setCell _ _ _ k k2).trans ((hgrow7.block k (by simp; omega) (owns_ne HO.out k1)).trans ((Below.heap_alloc wr.drew _ k (by show k < wr.heap.size; omega)).trans (HSM.out k k1 k2))))
            have b8 := b7.setCell (p := ⟨nb, 1, none⟩) (by show w.heap.size ≤ nb; omega) (.slice (some ⟨gg, 0, none⟩) (j + 1) cap4)
            clear k0 k1 k2 hn7 hown7 hgrow7
            go_wp2
            go_roundw
            case rel =>
              refine ⟨j + 1, some ⟨gg, 0, none⟩, cap4, by omega, by go_num, ?_, HN7.out, HS7.out, ?_, (by first | exact below_drewN b8 _ | exact b8.drew | exact b8)⟩
              · have h := HO7.out
                rw [HY.out, List.map_append]
                exact h
              · show w5.heap.size ≤ (w7.setCell _ _).heap.size
                simp
                omega
            case measure => simp [intOf]; omega
        · obtain rfl : m = j := by omega
          go_wp2
          refine bodyPost_ret (v := .tuple #[.agg #[.int .i64 q, .slice B m cp], .bool true]) (by simp [results, Try.results33, go_sem, d0, d1]) rfl ?_
          rw [renQ_yes HE.out, renN_yes HE.out]
          refine ⟨_, _, rfl, ?_, (hbr.setCell (by simp) _).setCell (by simp) _⟩
          obtain ⟨g, cp', hv, hg, _, _⟩ := owns_head HO.out (by omega)
          obtain ⟨rfl, rfl⟩ : B = some ⟨g, 0, none⟩ ∧ cp = cp' := by simpa using hv
          refine Or.inr ⟨g, rfl, by omega, ?_⟩
          have hI : Ints _ g m (renK ws xs m) := Own.of_own HO.out fun i hi => by simp [renK, hi]
          exact (hI.far (by simp; omega) _).far (by simp; omega) _
    | false =>
      have HE := Lib.hid hok
      have HOR := Lib.hid (show orderB n xs m = false from by unfold ordOk at hok; rw [HGB.out] at hok; simpa using hok)
      clear hok
      go_enter Try.func33, Try.ntmps33
      go_wp2_with fail
      refine (voGood_any q _ n cap ws _ hm (HK.out.now hb0)).mono ?_
      rintro e w1 ⟨rfl, hb⟩
      rw [HGB.out]
      have hx1 := hx.now hb
      have hr1 := hr.now hb
      have g1 := bfrom hb0 hb
      have hs1 := Lib.hid (HSL.out.now g1)
      obtain ⟨hc0, hc1⟩ := hx1.cells
      obtain ⟨d0, d1⟩ := hr1.cells
      obtain ⟨f0, f1⟩ := KF.out _ hr1
      go_wp2_with (go_at_call 68; refine (voOrder_any n b2 off2 m cap2 xs _ hn10 hm2 hcap hs1.out).mono ?_; rintro e w3 ⟨rfl, rfl⟩; rw [HOR.out])
      refine bodyPost_ret (v := .tuple #[.agg #[.int .i64 0, .slice none 0 0], .bool false]) (by simp [results, Try.results33, go_sem, d0, d1]) rfl ?_
      rw [renQ_no HE.out, renN_no HE.out]
      exact ⟨_, _, rfl, Or.inl ⟨rfl, rfl⟩, (g1.setCell (by simp) _).setCell (by simp) _⟩
  · have HGB := Lib.hid (goodB_false hg)
    have HE := Lib.hid (show ordOk q ws n xs m = false from by unfold ordOk; rw [goodB_false hg]; rfl)
    clear hg
    go_enter Try.func33, Try.ntmps33
    go_wp2_with fail
    refine (voGood_any q A n cap ws _ hm (HK.out.now hb0)).mono ?_
    rintro e w1 ⟨rfl, hb⟩
    rw [HGB.out]
    have g1 := bfrom hb0 hb
    have hr1 := hr.now hb
    obtain ⟨d0, d1⟩ := hr1.cells
    obtain ⟨f0, f1⟩ := KF.out _ hr1
    go_wp2
    refine bodyPost_ret (v := .tuple #[.agg #[.int .i64 0, .slice none 0 0], .bool false]) (by simp [results, Try.results33, go_sem, d0, d1]) rfl ?_
    rw [renQ_no HE.out, renN_no HE.out, HE.out]
    exact ⟨_, _, rfl, Or.inl ⟨rfl, rfl⟩, (g1.setCell (by simp) _).setCell (by simp) _⟩
theorem renN_le (q : Int) (ws : List Int) (n : Nat) (xs : List Int) (m : Nat) : renN q ws n xs m ≤ 9 := by
  cases h : ordOk q ws n xs m with
  | true => rw [renN_yes h]; exact (ordOk_parts h).good.hi
  | false => rw [renN_no h]; omega
end Go.Proofs.Ytldpdjnedoflcab
