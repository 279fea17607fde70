/- Contract of the program's RenameCommittee. -/
import Derived.Test.YtldpdjnedoflcabT12
import Derived.Test.YtldpdjnedoflcabD1
import Derived.Outline
namespace Go.Proofs.Ytldpdjnedoflcab
open Go.RowKit Vo

/-- The weights in an order. -/
def renK (ws xs : List Int) (k : Nat) : List Int := (List.range k).map fun i => ws.getD (xs.getD i 0).toNat 0
theorem renK_get {ws xs : List Int} {k j : Nat} (h : j < k) : (renK ws xs k).getD j 0 = ws.getD (xs.getD j 0).toNat 0 := by
  simp [renK, List.getD_eq_getElem?_getD, h]
def renQ (q : Int) (ws : List Int) (n : Nat) (xs : List Int) (m : Nat) : Int := if ordOk q ws n xs m then q else 0
def renN (q : Int) (ws : List Int) (n : Nat) (xs : List Int) (m : Nat) : Nat := if ordOk q ws n xs m then n else 0
theorem renQ_yes {q ws n xs m} (h : ordOk q ws n xs m = true) : renQ q ws n xs m = q := if_pos h
theorem renQ_no {q ws n xs m} (h : ordOk q ws n xs m = false) : renQ q ws n xs m = 0 := if_neg (by rw [h]; simp)
theorem renN_yes {q ws n xs m} (h : ordOk q ws n xs m = true) : renN q ws n xs m = n := if_pos h
theorem renN_no {q ws n xs m} (h : ordOk q ws n xs m = false) : renN q ws n xs m = 0 := if_neg (by rw [h]; simp)

set_option maxRecDepth 20000 in
set_option maxHeartbeats 4000000 in
theorem renameCommittee_any (q : Int) (A : Option Addr) (n cap : Nat) (ws : List Int) (b2 off2 m cap2 : Nat) (xs : List Int) (w : World) (hm : n ≤ 9223372036854775807) (hk : Known w A n ws) (hm2 : m ≤ 9223372036854775807) (hs : Sl w b2 off2 m xs) :
    Calls Try.prog 35 #[.agg #[.int .i64 q, .slice A n cap], .slice (some ⟨b2, off2, none⟩) m cap2] w fun e w' => ComAt (renQ q ws n xs m) (renN q ws n xs m) (renK ws xs m) (ordOk q ws n xs m) w w' e := by
  have HK := Lib.hid hk
  have HSL := Lib.hid hs
  clear hk hs
  have hb0 : Below w.heap.size w ((w.alloc (.cells #[.int .i64 q, .slice A n cap] 29)).alloc (.cells #[.int .i64 0, .slice none 0 0] 29)) := (below1 w _).alloc (by simp) _
  have hx := (Box.new w (.int .i64 q) (.slice A n cap)).alloc (.cells #[.int .i64 0, .slice none 0 0] 29)
  have hr := Box.new (w.alloc (.cells #[.int .i64 q, .slice A n cap] 29)) (.int .i64 0) (.slice none 0 0)
  simp only [World.size_alloc] at hr
  have KF := Lib.hid (show ∀ W, BoxT 29 W (w.heap.size + 1) (.int .i64 0) (.slice none 0 0) → (W.frozen? ⟨w.heap.size + 1, 0, none⟩ = false ∧ W.frozen? ⟨w.heap.size + 1, 1, none⟩ = false) from fun W h => by unfold BoxT at h; exact ⟨by simp [World.frozen?, h], by simp [World.frozen?, h]⟩)
  by_cases hg : Vo.Good q ws n
  · have HGB := Lib.hid (goodB_true hg)
    obtain ⟨b, off, rfl, hsl⟩ := HK.out.get hg.lo
    have HW := Lib.hid hsl
    have HOK := Lib.hid hg.ok
    have hn9 := hg.hi
    have hn1 := hg.lo
    have hn10 : n < 10 := by omega
    clear hg hsl
    cases hok : ordOk q ws n xs m with
    | true =>
      have HE := Lib.hid hok
      have HD := Lib.hid (ordOk_parts hok)
      have hmn := HD.out.len
      subst hmn
      have HOR := Lib.hid (show orderB m xs m = true from by unfold ordOk at hok; simp at hok; exact hok.2)
      clear hok
      go_enter Try.func35, Try.ntmps35
      go_wp2_with fail
      refine (isCommittee_any q _ m cap ws _ hm (HK.out.now hb0)).mono ?_
      rintro e w1 ⟨rfl, hb⟩
      rw [HGB.out]
      have hx1 := hx.now hb
      have hr1 := hr.now hb
      have g1 := bfrom hb0 hb
      have hw1 := Lib.hid (HW.out.now g1)
      have hs1 := Lib.hid (HSL.out.now g1)
      obtain ⟨hc0, hc1⟩ := hx1.cells
      go_wp2_with (first
        | (go_at_call 61; refine (members_any _ _ m cap _).mono ?_; rintro e w2 ⟨rfl, hb2⟩; have hw2 := Lib.hid (hw1.out.now hb2); have hs2 := Lib.hid (hs1.out.now hb2); have hx2 := hx1.now hb2; have hr2 := hr1.now hb2; have g2 := bfrom g1 hb2; clear hc0 hc1; obtain ⟨hc0, hc1⟩ := hx2.cells)
        | (go_at_call 69; refine (isOrder_any m b2 off2 m cap2 xs _ hn10 hm2 hs2.out).mono ?_; rintro e w3 ⟨rfl, rfl⟩; rw [HOR.out])
        | (go_at_call 70; refine (withQuota_any q q b off m cap ws _ hn1 hn9 hw2.out).mono ?_; rintro e w4 ⟨rfl, hi4, hb4⟩; have HI4 := Lib.hid hi4; clear hi4))
      obtain ⟨u, hu⟩ : ∃ u, u = w2.heap.size + 2 := ⟨_, rfl⟩
      rw [← hu] at HI4 ⊢
      have g4 := bfrom g2 hb4
      have hx4 := hx2.now hb4
      have hr4 := hr2.now hb4
      have hul := HI4.out.lt
      have hu2 : w.heap.size + 1 < u := by have := hr2.lt; omega
      have b5 := below1 w4 (.cells #[.int .i64 q, .slice (some ⟨u, 0, none⟩) m m] 29)
      have g5 := bfrom g4 b5
      have hx5 := hx4.now b5
      have hr5 := hr4.now b5
      have hn5 := Box.new w4 (.int .i64 q) (.slice (some ⟨u, 0, none⟩) m m)
      have HI5 := Lib.hid (HI4.out.alloc (.cells #[.int .i64 q, .slice (some ⟨u, 0, none⟩) m m] 29))
      obtain ⟨w5, hw5⟩ : ∃ w5, w5 = w4.alloc (.cells #[.int .i64 q, .slice (some ⟨u, 0, none⟩) m m] 29) := ⟨_, rfl⟩
      rw [← hw5] at g5 hx5 hr5 hn5 HI5 ⊢
      clear hc0 hc1 hu hw5 hb hb2 hb4 b5 hx1 hx2 hx4 hr1 hr2 hr4 g1 g2 g4 HI4
      have hn5l := hn5.lt
      go_loopw [7, 8, 26] (fun _ _ i wr => ∃ j : Nat, j ≤ m ∧ i = .int .i64 j ∧ Own wr u 3 m (fun i => .int .i64 (if i < j then ws.getD (xs.getD i 0).toNat 0 else ws.getD i 0)) ∧ (∀ k, k < w5.heap.size → k ≠ u → wr.heap[k]? = w5.heap[k]?) ∧ Below w.heap.size w wr) (fun _ _ i _ => m - (intOf i).toNat)
      case atStart => exact ⟨0, Nat.zero_le _, rfl, HI5.out.congr fun i _ => by simp, fun _ _ _ => rfl, g5⟩
      case round =>
        obtain ⟨j, hj, rfl, hou, hsm, hbr⟩ := hrel
        have HOU := Lib.hid hou
        have HSM := Lib.hid hsm
        have hxr : BoxT 29 _ w.heap.size (.int .i64 q) (.slice (some ⟨b, off, none⟩) m cap) := (hsm _ hx5.lt (by omega)).trans hx5
        have hrr : BoxT 29 _ (w.heap.size + 1) (.int .i64 0) (.slice none 0 0) := (hsm _ hr5.lt (by omega)).trans hr5
        have hnr : BoxT 29 _ w4.heap.size (.int .i64 q) (.slice (some ⟨u, 0, none⟩) m m) := (hsm _ hn5.lt (by omega)).trans hn5
        obtain ⟨c0, c1⟩ := hxr.cells
        obtain ⟨d0, d1⟩ := hrr.cells
        obtain ⟨e0, e1⟩ := hnr.cells
        obtain ⟨f0, f1⟩ := KF.out _ hrr
        clear hou hsm
        by_cases hlt : j < m
        · have hcell := (HSL.out.now hbr).cell j hlt
          have hin := HD.out.inr j hlt
          obtain ⟨z, hz⟩ : ∃ z : Nat, xs.getD j 0 = z := ⟨(xs.getD j 0).toNat, by omega⟩
          have hzm : z < m := by omega
          have hcw := (HW.out.now hbr).cell z hzm
          have HZ := Lib.hid hz
          rw [hz] at hcell
          clear hz hin
          obtain ⟨y, hy⟩ : ∃ y, ws.getD z 0 = y := ⟨_, rfl⟩
          have HY := Lib.hid hy
          rw [hy] at hcw
          clear hy
          have hold := HOU.out.cell hlt
          have hfr := HOU.out.frozen j
          have hugl := HOU.out.lt
          have HSET := Lib.hid (HOU.out.set j (.int .i64 y))
          have b7 := hbr.setCell (p := ⟨u, j, none⟩) (by show w.heap.size ≤ u; omega) (.int .i64 y)
          have hlt' : (j : Int) < m := by omega
          have hzm' : (z : Int) < m := by omega
          go_wp2_with fail
          go_region
          all_goals
            go_wp2
            go_roundw
            case rel =>
              refine ⟨j + 1, by omega, by go_num, HSET.out.congr fun i hi => ?_, fun k k1 k2 => (Below.heap_setCell _ _ _ k k2).trans (HSM.out k k1 k2), (by first | exact below_drewN b7 _ | exact b7.drew | exact b7)⟩
              by_cases e : i = j
              · rw [if_pos e, e, if_pos (by omega), HZ.out, Int.toNat_natCast, HY.out]
              · rw [if_neg e]
                by_cases e2 : i < j
                · rw [if_pos e2, if_pos (by omega)]
                · rw [if_neg e2, if_neg (by omega)]
            case measure => simp [intOf]; omega
        · obtain rfl : m = j := by omega
          go_wp2
          refine bodyPost_ret (v := .tuple #[.agg #[.int .i64 q, .slice (some ⟨u, 0, none⟩) m m], .bool true]) (by simp [results, Try.results35, go_sem, d0, d1]) rfl ?_
          rw [renQ_yes HE.out, renN_yes HE.out]
          refine ⟨_, _, rfl, Or.inr ⟨u, rfl, by omega, ?_⟩, (hbr.setCell (by simp) _).setCell (by simp) _⟩
          exact ((HOU.out.congr fun i hi => by rw [if_pos hi, renK_get hi]).far (by simp; omega) _).far (by simp; omega) _
    | false =>
      have HE := Lib.hid hok
      have HOR := Lib.hid (show orderB n xs m = false from by unfold ordOk at hok; rw [HGB.out] at hok; simpa using hok)
      clear hok
      go_enter Try.func35, Try.ntmps35
      go_wp2_with fail
      refine (isCommittee_any q _ n cap ws _ hm (HK.out.now hb0)).mono ?_
      rintro e w1 ⟨rfl, hb⟩
      rw [HGB.out]
      have hx1 := hx.now hb
      have hr1 := hr.now hb
      have g1 := bfrom hb0 hb
      have hs1 := Lib.hid (HSL.out.now g1)
      obtain ⟨hc0, hc1⟩ := hx1.cells
      go_wp2_with (first
        | (go_at_call 61; refine (members_any _ _ n cap _).mono ?_; rintro e w2 ⟨rfl, hb2⟩; have hs2 := Lib.hid (hs1.out.now hb2); have hr2 := hr1.now hb2; have g2 := bfrom g1 hb2; obtain ⟨d0, d1⟩ := hr2.cells; obtain ⟨f0, f1⟩ := KF.out _ hr2)
        | (go_at_call 69; refine (isOrder_any n b2 off2 m cap2 xs _ hn10 hm2 hs2.out).mono ?_; rintro e w3 ⟨rfl, rfl⟩; rw [HOR.out]))
      refine bodyPost_ret (v := .tuple #[.agg #[.int .i64 0, .slice none 0 0], .bool false]) (by simp [results, Try.results35, go_sem, d0, d1]) rfl ?_
      rw [renQ_no HE.out, renN_no HE.out]
      exact ⟨_, _, rfl, Or.inl ⟨rfl, rfl⟩, (g2.setCell (by simp) _).setCell (by simp) _⟩
  · have HGB := Lib.hid (goodB_false hg)
    have HE := Lib.hid (show ordOk q ws n xs m = false from by unfold ordOk; rw [goodB_false hg]; rfl)
    clear hg
    go_enter Try.func35, Try.ntmps35
    go_wp2_with fail
    refine (isCommittee_any q A n cap ws _ hm (HK.out.now hb0)).mono ?_
    rintro e w1 ⟨rfl, hb⟩
    rw [HGB.out]
    have g1 := bfrom hb0 hb
    have hr1 := hr.now hb
    obtain ⟨d0, d1⟩ := hr1.cells
    obtain ⟨f0, f1⟩ := KF.out _ hr1
    go_wp2
    refine bodyPost_ret (v := .tuple #[.agg #[.int .i64 0, .slice none 0 0], .bool false]) (by simp [results, Try.results35, go_sem, d0, d1]) rfl ?_
    rw [renQ_no HE.out, renN_no HE.out, HE.out]
    exact ⟨_, _, rfl, Or.inl ⟨rfl, rfl⟩, (g1.setCell (by simp) _).setCell (by simp) _⟩
end Go.Proofs.Ytldpdjnedoflcab
