/- Contracts of RaiseQuota, the program's and the model's. -/
import Derived.Test.YtbecagfokcadnabPd
import Derived.Test.YtbecagfokcadnabD2
import Derived.Outline
namespace Go.Proofs.Ytbecagfokcadnab
open Go.RowKit Vo

/-- May the quota be raised so? -/
def raiseOk (q : Int) (ws : List Int) (n : Nat) (x : Int) : Bool := goodB q ws n && (inB x (-9000) 9000 && goodB (q + x) ws n)
theorem raiseN_le (q : Int) (ws : List Int) (n : Nat) (x : Int) : nIf (raiseOk q ws n x) n ≤ 9 := nIf_le fun h => by
  unfold raiseOk goodB at h
  simp at h
  exact h.1.hi
theorem box_putQ {t : TypeId} {w : World} {g : Nat} {u v : Value} (h : BoxT t w g u v) (a b : Value) : BoxT t ((w.setCell ⟨g, 0, none⟩ a).setCell ⟨g, 1, none⟩ b) g a b := by
  unfold BoxT at *
  simp [World.setCell, Array.getElem?_modify, h]

set_option maxRecDepth 20000 in
set_option maxHeartbeats 2000000 in
theorem raiseQuota_any (q : Int) (A : Option Addr) (n cap : Nat) (ws : List Int) (x : Int) (w : World) (hm : n ≤ 9223372036854775807) (hk : Known w A n ws) (_hx : (Lit.int .i64 x).wf = true) :
    Calls Try.prog 18 #[.agg #[.int .i64 q, .slice A n cap], .int .i64 x] w fun e w' => ComAt (qIf (raiseOk q ws n x) (q + x)) (nIf (raiseOk q ws n x) n) ws (raiseOk q ws n x) w w' e := by
  have HK := Lib.hid hk
  clear hk
  have hb0 : Below w.heap.size w ((w.alloc (.cells #[.int .i64 q, .slice A n cap] 28)).alloc (.cells #[.int .i64 0, .slice none 0 0] 28)) := (below1 w _).alloc (by simp) _
  have hx := (Box.new w (.int .i64 q) (.slice A n cap)).alloc (.cells #[.int .i64 0, .slice none 0 0] 28)
  have hr := Box.new (w.alloc (.cells #[.int .i64 q, .slice A n cap] 28)) (.int .i64 0) (.slice none 0 0)
  simp only [World.size_alloc] at hr
  have HRO := Lib.hid (show raiseOk q ws n x = (goodB q ws n && (inB x (-9000) 9000 && goodB (q + x) ws n)) from rfl)
  by_cases hg : Vo.Good q ws n
  · have HGB := Lib.hid (goodB_true hg)
    obtain ⟨b, off, rfl, hsl⟩ := HK.out.get hg.lo
    have HSL := Lib.hid hsl
    have hn9 := hg.hi
    have hn1 := hg.lo
    have hq1 := hg.q1
    have hq2 := hg.q2
    have htot := hg.tot
    clear hg hsl
    by_cases hin : -9000 ≤ x ∧ x ≤ 9000
    · have hx1' := hin.1
      have hx2' := hin.2
      have HIN := Lib.hid (inB_yes hin.1 hin.2)
      have HE := Lib.hid (show raiseOk q ws n x = goodB (q + x) ws n from by rw [HRO.out, HGB.out, HIN.out]; simp)
      have hqa : -8999 ≤ q + x := by omega
      have hqb : q + x ≤ 18000 := by omega
      clear hin
      go_enter Try.func18, Try.ntmps18
      go_wp2_with fail
      refine (isCommittee_any q _ n cap ws _ hm (HK.out.now hb0)).mono ?_
      rintro e w1 ⟨rfl, hb1⟩
      rw [HGB.out]
      have g1 := bfrom hb0 hb1
      have hr1 := hr.now hb1
      obtain ⟨c0, c1⟩ := (hx.now hb1).cells
      clear hr hb0 hb1 hx
      go_wp2_with fail
      refine (withQuota_any q (q + x) b off n cap ws _ hn1 hn9 (HSL.out.now g1)).mono ?_
      rintro e w2 ⟨rfl, hi2, hb2⟩
      obtain ⟨u, hu⟩ : ∃ u, u = w1.heap.size + 2 := ⟨_, rfl⟩
      rw [← hu] at hi2 ⊢
      have HI2 := Lib.hid hi2
      have g2 := bfrom g1 hb2
      have hr2 := hr1.now hb2
      have hrl := hr1.lt
      have hgr : u ≠ w.heap.size + 1 := by omega
      have hwu : w.heap.size ≤ u := by have := g1.size; omega
      clear hi2 hr1 c0 c1 hu
      cases hok : goodB (q + x) ws n with
      | true =>
        have HGD := Lib.hid hok
        have HO := Lib.hid (HE.out.trans hok)
        clear hok
        go_wp2_with fail
        refine (checked_yes (q + x) (some ⟨u, 0, none⟩) n n ws _ (by omega) (Known.of (Ints.sl HI2.out)) HGD.out).mono ?_
        rintro e w9 ⟨rfl, hb9⟩
        have hr9 := hr2.now hb9
        obtain ⟨d0, d1⟩ := hr9.cells
        obtain ⟨f0, f1⟩ := frozen2 hr9
        have g9 := bfrom g2 hb9
        have hlt9 := HI2.out.lt
        have HI9 := Lib.hid (Own.below HI2.out hb9 hlt9)
        have hr3 := box_putQ hr9 (.int .i64 (q + x)) (.slice (some ⟨u, 0, none⟩) n n)
        obtain ⟨e0, e1⟩ := hr3.cells
        go_wp2
        refine bodyPost_ret (v := .tuple #[.agg #[.int .i64 (q + x), .slice (some ⟨u, 0, none⟩) n n], .bool true]) (by simp [results, Try.results18, go_sem, e0, e1]) rfl ?_
        rw [HO.out]
        exact ⟨_, _, rfl, Or.inr ⟨u, rfl, hwu, (HI9.out.far (by simpa using hgr) _).far (by simpa using hgr) _⟩, (g9.setCell (by simp) _).setCell (by simp) _⟩
      | false =>
        have HGD := Lib.hid hok
        have HO := Lib.hid (HE.out.trans hok)
        clear hok
        go_wp2_with fail
        refine (checked_no (q + x) (some ⟨u, 0, none⟩) n n ws _ (by omega) (Known.of (Ints.sl HI2.out)) HGD.out).mono ?_
        rintro e w9 ⟨rfl, hb9⟩
        have hr9 := hr2.now hb9
        obtain ⟨d0, d1⟩ := hr9.cells
        obtain ⟨f0, f1⟩ := frozen2 hr9
        have g9 := bfrom g2 hb9
        have hr3 := box_putQ hr9 (.int .i64 0) (.slice none 0 0)
        obtain ⟨e0, e1⟩ := hr3.cells
        go_wp2
        refine bodyPost_ret (v := .tuple #[.agg #[.int .i64 0, .slice none 0 0], .bool false]) (by simp [results, Try.results18, go_sem, e0, e1]) rfl ?_
        rw [HO.out]
        exact ComAt.fail ((g9.setCell (by simp) _).setCell (by simp) _)
    · have HO := Lib.hid (show raiseOk q ws n x = false from by rw [HRO.out, inB_no hin]; simp)
      by_cases hl : x < -9000
      · clear hin
        go_enter Try.func18, Try.ntmps18
        go_wp2_with fail
        refine (isCommittee_any q _ n cap ws _ hm (HK.out.now hb0)).mono ?_
        rintro e w1 ⟨rfl, hb1⟩
        rw [HGB.out]
        have g1 := bfrom hb0 hb1
        have hr1 := hr.now hb1
        obtain ⟨d0, d1⟩ := hr1.cells
        obtain ⟨f0, f1⟩ := frozen2 hr1
        clear hr hb0 hb1 hx
        go_wp2
        refine bodyPost_ret (v := .tuple #[.agg #[.int .i64 0, .slice none 0 0], .bool false]) (by simp [results, Try.results18, go_sem, d0, d1]) rfl ?_
        rw [HO.out]
        exact ComAt.fail ((g1.setCell (by simp) _).setCell (by simp) _)
      · have hl' : -9000 ≤ x := by omega
        have hh : 9000 < x := by omega
        clear hin hl
        go_enter Try.func18, Try.ntmps18
        go_wp2_with fail
        refine (isCommittee_any q _ n cap ws _ hm (HK.out.now hb0)).mono ?_
        rintro e w1 ⟨rfl, hb1⟩
        rw [HGB.out]
        have g1 := bfrom hb0 hb1
        have hr1 := hr.now hb1
        obtain ⟨d0, d1⟩ := hr1.cells
        obtain ⟨f0, f1⟩ := frozen2 hr1
        clear hr hb0 hb1 hx
        go_wp2
        refine bodyPost_ret (v := .tuple #[.agg #[.int .i64 0, .slice none 0 0], .bool false]) (by simp [results, Try.results18, go_sem, d0, d1]) rfl ?_
        rw [HO.out]
        exact ComAt.fail ((g1.setCell (by simp) _).setCell (by simp) _)
  · have HGB := Lib.hid (goodB_false hg)
    have HO := Lib.hid (show raiseOk q ws n x = false from by rw [HRO.out, HGB.out]; rfl)
    clear hg
    go_enter Try.func18, Try.ntmps18
    go_wp2_with fail
    refine (isCommittee_any q A n cap ws _ hm (HK.out.now hb0)).mono ?_
    rintro e w1 ⟨rfl, hb1⟩
    rw [HGB.out]
    have g1 := bfrom hb0 hb1
    have hr1 := hr.now hb1
    obtain ⟨d0, d1⟩ := hr1.cells
    obtain ⟨f0, f1⟩ := frozen2 hr1
    clear hr hb0 hb1 hx
    go_wp2
    refine bodyPost_ret (v := .tuple #[.agg #[.int .i64 0, .slice none 0 0], .bool false]) (by simp [results, Try.results18, go_sem, d0, d1]) rfl ?_
    rw [HO.out]
    exact ComAt.fail ((g1.setCell (by simp) _).setCell (by simp) _)

set_option maxRecDepth 20000 in
set_option maxHeartbeats 4000000 in
theorem sRaiseQuota_any (q : Int) (A : Option Addr) (n cap : Nat) (ws : List Int) (x : Int) (w : World) (hm : n ≤ 9223372036854775807) (hk : Known w A n ws) (_hx : (Lit.int .i64 x).wf = true) :
    Calls Try.prog 17 #[.agg #[.int .i64 q, .slice A n cap], .int .i64 x] w fun e w' => ComAt (qIf (raiseOk q ws n x) (q + x)) (nIf (raiseOk q ws n x) n) ws (raiseOk q ws n x) w w' e := by
  have HK := Lib.hid hk
  clear hk
  have hb0 : Below w.heap.size w ((w.alloc (.cells #[.int .i64 q, .slice A n cap] 28)).alloc (.cells #[.int .i64 0, .slice none 0 0] 28)) := (below1 w _).alloc (by simp) _
  have hx := (Box.new w (.int .i64 q) (.slice A n cap)).alloc (.cells #[.int .i64 0, .slice none 0 0] 28)
  have hr := Box.new (w.alloc (.cells #[.int .i64 q, .slice A n cap] 28)) (.int .i64 0) (.slice none 0 0)
  simp only [World.size_alloc] at hr
  have HRO := Lib.hid (show raiseOk q ws n x = (goodB q ws n && (inB x (-9000) 9000 && goodB (q + x) ws n)) from rfl)
  by_cases hg : Vo.Good q ws n
  · have HGB := Lib.hid (goodB_true hg)
    obtain ⟨b, off, rfl, hsl⟩ := HK.out.get hg.lo
    have HSL := Lib.hid hsl
    have hn9 := hg.hi
    have hn1 := hg.lo
    have hq1 := hg.q1
    have hq2 := hg.q2
    have htot := hg.tot
    clear hg hsl
    cases hin : inB x (-9000) 9000 with
    | false =>
      have HIN := Lib.hid hin
      have HO := Lib.hid (show raiseOk q ws n x = false from by rw [HRO.out, hin]; simp)
      clear hin
      go_enter Try.func17, Try.ntmps17
      go_wp2_with fail
      refine (voGood_any q _ n cap ws _ hm (HK.out.now hb0)).mono ?_
      rintro e w1 ⟨rfl, hb1⟩
      rw [HGB.out]
      have g1 := bfrom hb0 hb1
      have hr1 := hr.now hb1
      obtain ⟨d0, d1⟩ := hr1.cells
      obtain ⟨f0, f1⟩ := frozen2 hr1
      clear hr hb0 hb1 hx
      go_wp2_with (go_at_call 40; refine (l1In_any x (-9000) 9000 _).mono ?_; rintro e w3 ⟨rfl, rfl⟩; rw [HIN.out])
      refine bodyPost_ret (v := .tuple #[.agg #[.int .i64 0, .slice none 0 0], .bool false]) (by simp [results, Try.results17, go_sem, d0, d1]) rfl ?_
      rw [HO.out]
      exact ComAt.fail ((g1.setCell (by simp) _).setCell (by simp) _)
    | true =>
      have HIN := Lib.hid hin
      have hxx : -9000 ≤ x ∧ x ≤ 9000 := by unfold inB at hin; simpa using hin
      have HE := Lib.hid (show raiseOk q ws n x = goodB (q + x) ws n from by rw [HRO.out, HGB.out, hin]; simp)
      have hqa : -8999 ≤ q + x := by omega
      have hqb : q + x ≤ 18000 := by omega
      have HWQ := Lib.hid (show IntKind.i64.wrap (q + x) = q + x from IntWalk.i64_in _ (by omega))
      clear hin
      go_enter Try.func17, Try.ntmps17
      go_wp2_with fail
      refine (voGood_any q _ n cap ws _ hm (HK.out.now hb0)).mono ?_
      rintro e w2 ⟨rfl, hb1⟩
      rw [HGB.out]
      have g2 := bfrom hb0 hb1
      have hr2 := hr.now hb1
      have hx2 := hx.now hb1
      have hs2 := Lib.hid (HSL.out.now g2)
      have hxl := hx2.lt
      have hrl := hr2.lt
      clear hr hb0 hb1 hx
      obtain ⟨c0, c1⟩ := hx2.cells
      have HBE := Lib.hid (show w2.heap.size + 1 ≤ ((w2.alloc (.cells #[.int .i64 0, .slice none 0 0] 28)).drew).heap.size from by show w2.heap.size + 1 ≤ (w2.alloc (.cells #[.int .i64 0, .slice none 0 0] 28)).heap.size; simp)
      go_wp2_with (go_at_call 40; refine (l1In_any x (-9000) 9000 _).mono ?_; rintro e w3 ⟨rfl, rfl⟩; rw [HIN.out])
      go_region_held3 (fun w' => w'.cell? ⟨w.heap.size, 0, none⟩ = some (.int .i64 q) ∧ w'.cell? ⟨w.heap.size, 1, none⟩ = some (.slice (some ⟨b, off, none⟩) n cap))
        (first | with_reducible exact ⟨c0, c1⟩ | with_reducible exact ⟨k0, k1⟩ | with_reducible exact (hx2.drew.alloc _).cells | with_reducible exact (hx2.alloc _).cells | with_reducible exact (hx4.alloc _).cells | with_reducible exact ((hx4.far (p := ⟨w2.heap.size, 0, none⟩) (show w.heap.size ≠ w2.heap.size by omega) _).far (p := ⟨w2.heap.size, 1, none⟩) (show w.heap.size ≠ w2.heap.size by omega) _).cells | go_keep)
        (first
          | (go_at_call 41; (with_reducible refine (l1Own_any b off n cap ws w2.drew hn1 hn9 hs2.out.drew).mono ?_); rintro e w4 ⟨gg, cp, rfl, hgg, hi4, hb4⟩; have hx4 := hx2.drew.now hb4; have hr4 := hr2.drew.now hb4; have g4 := bfrom g2.drew hb4; have hgg4 : w2.heap.size ≤ gg := hgg; have HI4 := Lib.hid hi4; have hlt4 : gg < w4.heap.size := hi4.lt; have hn4 : True := trivial; clear hi4 hgg; obtain ⟨k0, k1⟩ := hx4.cells)
          | (go_at_call 41; (with_reducible refine (l1Own_any b off n cap ws (w2.drew.alloc (.cells #[.int .i64 0, .slice none 0 0] 28)) hn1 hn9 (hs2.out.drew.alloc _)).mono ?_); rintro e w4 ⟨gg, cp, rfl, hgg, hi4, hb4⟩; have hx4 := (hx2.drew.alloc _).now hb4; have hr4 := (hr2.drew.alloc _).now hb4; have g4 := bfrom (g2.drew.alloc g2.size _) hb4; have hgg4 : w2.heap.size + 1 ≤ gg := (by simpa using hgg); have HI4 := Lib.hid hi4; have hlt4 : gg < w4.heap.size := hi4.lt; have hn4 := (show BoxT 28 w4 w2.heap.size (.int .i64 0) (.slice none 0 0) from (Box.new w2.drew (.int .i64 0) (.slice none 0 0)).now hb4); obtain ⟨p0, p1⟩ := hn4.cells; obtain ⟨q0, q1⟩ := frozen2 hn4; clear hi4 hgg; obtain ⟨k0, k1⟩ := hx4.cells)
          | (go_at_call 41; (with_reducible refine (l1Own_any b off n cap ws (w2.alloc (.cells #[.int .i64 0, .slice none 0 0] 28)).drew hn1 hn9 (hs2.out.alloc _).drew).mono ?_); rintro e w4 ⟨gg, cp, rfl, hgg, hi4, hb4⟩; have hx4 := (hx2.alloc _).drew.now hb4; have hr4 := (hr2.alloc _).drew.now hb4; have g4 := bfrom (g2.alloc g2.size _).drew hb4; have hgg4 : w2.heap.size + 1 ≤ gg := Nat.le_trans HBE.out hgg; have HI4 := Lib.hid hi4; have hlt4 : gg < w4.heap.size := hi4.lt; have hn4 := (show BoxT 28 w4 w2.heap.size (.int .i64 0) (.slice none 0 0) from (Box.new w2 (.int .i64 0) (.slice none 0 0)).drew.now hb4); obtain ⟨p0, p1⟩ := hn4.cells; obtain ⟨q0, q1⟩ := frozen2 hn4; clear hi4 hgg; obtain ⟨k0, k1⟩ := hx4.cells)
          | fail)
      all_goals
        rw [HWQ.out]
      all_goals (first
        | (have hb9 := Box.new w4 (.int .i64 (q + x)) (.slice (some ⟨gg, 0, none⟩) n cp)
           have hr9 := hr4.alloc (.cells #[.int .i64 (q + x), .slice (some ⟨gg, 0, none⟩) n cp] 28)
           have hI9 := Own.alloc HI4.out (.cells #[.int .i64 (q + x), .slice (some ⟨gg, 0, none⟩) n cp] 28)
           have g9 := g4.alloc g4.size (.cells #[.int .i64 (q + x), .slice (some ⟨gg, 0, none⟩) n cp] 28)
           obtain ⟨W9, hW9⟩ : ∃ W9, W9 = w4.alloc (.cells #[.int .i64 (q + x), .slice (some ⟨gg, 0, none⟩) n cp] 28) := ⟨_, rfl⟩
           rw [← hW9] at hb9 hr9 hI9 g9 ⊢
           clear hW9
           obtain ⟨nb, hnb⟩ : ∃ nb, nb = w4.heap.size := ⟨_, rfl⟩
           rw [← hnb] at hb9 ⊢
           clear hnb)
        | (have hb9 := box_putQ (show BoxT 28 w4 w2.heap.size (.int .i64 0) (.slice none 0 0) from hn4) (.int .i64 (q + x)) (.slice (some ⟨gg, 0, none⟩) n cp)
           have hr9 := (hr4.far (p := ⟨w2.heap.size, 0, none⟩) (show w.heap.size + 1 ≠ w2.heap.size by omega) (.int .i64 (q + x))).far (p := ⟨w2.heap.size, 1, none⟩) (show w.heap.size + 1 ≠ w2.heap.size by omega) (.slice (some ⟨gg, 0, none⟩) n cp)
           have hgn : gg ≠ w2.heap.size := by omega
           have hI9 := Own.far (Own.far HI4.out (p := ⟨w2.heap.size, 0, none⟩) hgn (.int .i64 (q + x))) (p := ⟨w2.heap.size, 1, none⟩) hgn (.slice (some ⟨gg, 0, none⟩) n cp)
           have g9 := (g4.setCell (p := ⟨w2.heap.size, 0, none⟩) (show w.heap.size ≤ w2.heap.size by omega) (.int .i64 (q + x))).setCell (p := ⟨w2.heap.size, 1, none⟩) (show w.heap.size ≤ w2.heap.size by omega) (.slice (some ⟨gg, 0, none⟩) n cp)
           obtain ⟨W9, hW9⟩ : ∃ W9, W9 = (w4.setCell ⟨w2.heap.size, 0, none⟩ (.int .i64 (q + x))).setCell ⟨w2.heap.size, 1, none⟩ (.slice (some ⟨gg, 0, none⟩) n cp) := ⟨_, rfl⟩
           rw [← hW9] at hb9 hr9 hI9 g9 ⊢
           clear hW9
           obtain ⟨nb, hnb⟩ : ∃ nb, nb = w2.heap.size := ⟨_, rfl⟩
           rw [← hnb] at hb9 ⊢
           clear hnb))
      all_goals
        have HI9 := Lib.hid (show Ints W9 gg n ws from hI9)
        have hwu : w.heap.size ≤ gg := by omega
        have hgr : gg ≠ w.heap.size + 1 := by omega
        obtain ⟨e0, e1⟩ := hb9.cells
        clear hI9 hr4 hr2 hx4 hx2 g2 g4 hb4 c0 c1 k0 k1 hlt4 hn4
        cases hok : goodB (q + x) ws n with
        | true =>
          have HGD := Lib.hid hok
          have HO := Lib.hid (HE.out.trans hok)
          clear hok
          go_wp2_with (go_at_call 39; refine (voGood_any (q + x) (some ⟨gg, 0, none⟩) n cp ws _ (by omega) (Known.of (Ints.sl HI9.out))).mono ?_; rintro e w8 ⟨rfl, hb8⟩; rw [HGD.out]; obtain ⟨q4, q5⟩ := (hb9.now hb8).cells; have hr10 := hr9.now hb8; obtain ⟨d0, d1⟩ := hr10.cells; obtain ⟨f0, f1⟩ := frozen2 hr10)
          have g10 := bfrom g9 hb8
          have HI10 := Lib.hid (Own.below HI9.out hb8 (Own.lt HI9.out))
          refine bodyPost_ret (v := .tuple #[.agg #[.int .i64 (q + x), .slice (some ⟨gg, 0, none⟩) n cp], .bool true]) (by simp [results, Try.results17, go_sem, d0, d1]) rfl ?_
          rw [HO.out]
          exact ⟨_, _, rfl, Or.inr ⟨gg, rfl, hwu, (HI10.out.far (by simpa using hgr) _).far (by simpa using hgr) _⟩, (g10.setCell (by simp) _).setCell (by simp) _⟩
        | false =>
          have HGD := Lib.hid hok
          have HO := Lib.hid (HE.out.trans hok)
          clear hok
          go_wp2_with (go_at_call 39; refine (voGood_any (q + x) (some ⟨gg, 0, none⟩) n cp ws _ (by omega) (Known.of (Ints.sl HI9.out))).mono ?_; rintro e w8 ⟨rfl, hb8⟩; rw [HGD.out]; have hr10 := hr9.now hb8; obtain ⟨d0, d1⟩ := hr10.cells; obtain ⟨f0, f1⟩ := frozen2 hr10)
          have g10 := bfrom g9 hb8
          refine bodyPost_ret (v := .tuple #[.agg #[.int .i64 0, .slice none 0 0], .bool false]) (by simp [results, Try.results17, go_sem, d0, d1]) rfl ?_
          rw [HO.out]
          exact ComAt.fail ((g10.setCell (by simp) _).setCell (by simp) _)
  · have HGB := Lib.hid (goodB_false hg)
    have HO := Lib.hid (show raiseOk q ws n x = false from by rw [HRO.out, HGB.out]; rfl)
    clear hg
    go_enter Try.func17, Try.ntmps17
    go_wp2_with fail
    refine (voGood_any q A n cap ws _ hm (HK.out.now hb0)).mono ?_
    rintro e w1 ⟨rfl, hb1⟩
    rw [HGB.out]
    have g1 := bfrom hb0 hb1
    have hr1 := hr.now hb1
    obtain ⟨d0, d1⟩ := hr1.cells
    obtain ⟨f0, f1⟩ := frozen2 hr1
    clear hr hb0 hb1 hx
    go_wp2
    refine bodyPost_ret (v := .tuple #[.agg #[.int .i64 0, .slice none 0 0], .bool false]) (by simp [results, Try.results17, go_sem, d0, d1]) rfl ?_
    rw [HO.out]
    exact ComAt.fail ((g1.setCell (by simp) _).setCell (by simp) _)
end Go.Proofs.Ytbecagfokcadnab
