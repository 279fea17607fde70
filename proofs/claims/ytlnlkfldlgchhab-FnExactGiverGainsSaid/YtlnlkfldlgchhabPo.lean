/- Contracts of the model's unGive and GiveWeight. -/
import Derived.Test.YtlnlkfldlgchhabPn
import Derived.Test.YtlnlkfldlgchhabD2
import Derived.Outline
namespace Go.Proofs.Ytlnlkfldlgchhab
open Go.RowKit Vo

theorem box_put2 {t : TypeId} {w : World} {g : Nat} {u v : Value} (h : BoxT t w g u v) (a b : Value) : BoxT t ((w.setCell ⟨g, 0, none⟩ a).setCell ⟨g, 1, none⟩ b) g a b := by
  unfold BoxT at *
  simp [World.setCell, Array.getElem?_modify, h]
set_option maxRecDepth 20000 in
set_option maxHeartbeats 8000000 in
theorem unGive_any (q : Int) (A : Option Addr) (n cap : Nat) (ws : List Int) (x y z : Int) (w : World) (hm : n ≤ 9223372036854775807) (hk : Known w A n ws) (_hx : (Lit.int .i64 x).wf = true) (_hy : (Lit.int .i64 y).wf = true) (_hz : (Lit.int .i64 z).wf = true) :
    Calls Try.prog 82 #[.agg #[.int .i64 q, .slice A n cap], .int .i64 x, .int .i64 y, .int .i64 z] w fun e w' => ComAt (qIf (giveOk q ws n x y z) q) (nIf (giveOk q ws n x y z) n) (giveL ws n x.toNat y.toNat z) (giveOk q ws n x y z) w w' e := by
  have HK := Lib.hid hk
  clear hk
  have hb0 : Below w.heap.size w ((w.alloc (.cells #[.int .i64 q, .slice A n cap] 29)).alloc (.cells #[.int .i64 0, .slice none 0 0] 29)) := (below1 w _).alloc (by simp) _
  have hx := (Box.new w (.int .i64 q) (.slice A n cap)).alloc (.cells #[.int .i64 0, .slice none 0 0] 29)
  have hr := Box.new (w.alloc (.cells #[.int .i64 q, .slice A n cap] 29)) (.int .i64 0) (.slice none 0 0)
  simp only [World.size_alloc] at hr
  have KF := Lib.hid (show ∀ W, BoxT 29 W (w.heap.size + 1) (.int .i64 0) (.slice none 0 0) → (W.frozen? ⟨w.heap.size + 1, 0, none⟩ = false ∧ W.frozen? ⟨w.heap.size + 1, 1, none⟩ = false) from fun W h => by unfold BoxT at h; exact ⟨by simp [World.frozen?, h], by simp [World.frozen?, h]⟩)
  cases hask : giveAsk q ws n x y z with
  | true =>
    obtain ⟨hg, hxb, hyb, hne, hz0, hz1⟩ := giveAsk_parts hask
    have HA := Lib.hid hask
    have HM := Lib.hid (show memOk q ws n x = true ∧ memOk q ws n y = true from by unfold giveAsk at hask; simp at hask; exact hask.1.1)
    obtain ⟨i, rfl⟩ : ∃ i : Nat, x = i := ⟨x.toNat, by omega⟩
    obtain ⟨j, rfl⟩ : ∃ j : Nat, y = j := ⟨y.toNat, by omega⟩
    rw [Int.toNat_natCast] at hz1
    rw [Int.toNat_natCast, Int.toNat_natCast]
    obtain ⟨b, off, rfl, hsl⟩ := HK.out.get hg.lo
    have HSL := Lib.hid hsl
    have HG := Lib.hid hg
    have hn9 := hg.hi
    have hn1 := hg.lo
    have hi : i < n := by omega
    have hj : j < n := by omega
    have hij : i ≠ j := by omega
    have hbi := hg.ok i hi
    have hbj := hg.ok j hj
    have HOKV := Lib.hid (show giveOk q ws n i j z = goodB q (giveL ws n i j z) n from by unfold giveOk; rw [hask, Bool.true_and, Int.toNat_natCast, Int.toNat_natCast])
    obtain ⟨vi, hvi⟩ : ∃ v, v = ws.getD i 0 := ⟨_, rfl⟩
    obtain ⟨vj, hvj⟩ : ∃ v, v = ws.getD j 0 := ⟨_, rfl⟩
    have HVI := Lib.hid hvi
    have HVJ := Lib.hid hvj
    rw [← hvi] at hz1 hbi
    rw [← hvj] at hbj
    have hne' : ((i : Int) == (j : Int)) = false := by simp; omega
    clear hg hsl hask hvi hvj hxb hyb hne
    have HIN := Lib.hid (inB_yes (x := z) (lo := 0) (hi := vi) hz0 hz1)
    go_enter Try.func82, Try.ntmps82
    go_wp2_with fail
    refine (pwMember_any q _ n cap ws i _ hm (HK.out.now hb0)).mono ?_
    rintro e w1 ⟨rfl, hb1⟩
    rw [HM.out.1]
    have g1 := bfrom hb0 hb1
    have hx1 := hx.now hb1
    have hr1 := hr.now hb1
    clear hx hr hb0 hb1
    obtain ⟨c0, c1⟩ := hx1.cells
    go_wp2_with fail
    refine (pwMember_any q _ n cap ws j _ hm (HK.out.now g1)).mono ?_
    rintro e w2 ⟨rfl, hb2⟩
    rw [HM.out.2]
    have g2 := bfrom g1 hb2
    have hx2 := hx1.now hb2
    have hr2 := hr1.now hb2
    have hs2 := Lib.hid (HSL.out.now g2)
    clear hx1 hr1 g1 hb2 c0 c1
    obtain ⟨c0, c1⟩ := hx2.cells
    have hci : w2.cell? ⟨b, off + i, none⟩ = some (.int .i64 vi) := by rw [HVI.out]; exact hs2.out.cell i hi
    have hxl := hx2.lt
    have hrl := hr2.lt
    go_wp2_with (go_at_call 106; refine (l1In_any z 0 vi _).mono ?_; rintro e w3 ⟨rfl, rfl⟩; rw [HIN.out])
    go_region_held3 (fun w' => w'.cell? ⟨w.heap.size, 0, none⟩ = some (.int .i64 q) ∧ w'.cell? ⟨w.heap.size, 1, none⟩ = some (.slice (some ⟨b, off, none⟩) n cap))
      (first | exact ⟨c0, c1⟩ | exact ⟨k0, k1⟩ | exact (hx2.drew.alloc _).cells | exact (hx4.alloc _).cells | exact ((hx4.far (p := ⟨w2.heap.size, 0, none⟩) (show w.heap.size ≠ w2.heap.size by omega) _).far (p := ⟨w2.heap.size, 1, none⟩) (show w.heap.size ≠ w2.heap.size by omega) _).cells | go_keep)
      (first
        | (go_at_call 137; refine (l1Own_any b off n cap ws w2.drew hn1 hn9 hs2.out.drew).mono ?_; rintro e w4 ⟨gg, cp, rfl, hgg, hi4, hb4⟩; have hx4 := hx2.drew.now hb4; have hr4 := hr2.drew.now hb4; have g4 := bfrom g2.drew hb4; have hgg4 : w2.heap.size ≤ gg := hgg; have HI4 := Lib.hid hi4; have hlt4 : gg < w4.heap.size := hi4.lt; have hn4 : True := trivial; clear hi4 hgg; obtain ⟨k0, k1⟩ := hx4.cells)
        | (go_at_call 137; refine (l1Own_any b off n cap ws (w2.drew.alloc (.cells #[.int .i64 0, .slice none 0 0] 29)) hn1 hn9 (hs2.out.drew.alloc _)).mono ?_; rintro e w4 ⟨gg, cp, rfl, hgg, hi4, hb4⟩; have hx4 := (hx2.drew.alloc _).now hb4; have hr4 := (hr2.drew.alloc _).now hb4; have g4 := bfrom (g2.drew.alloc g2.size _) hb4; have hgg4 : w2.heap.size + 1 ≤ gg := (by simpa using hgg); have HI4 := Lib.hid hi4; have hlt4 : gg < w4.heap.size := hi4.lt; have hn4 := (show BoxT 29 w4 w2.heap.size (.int .i64 0) (.slice none 0 0) from (Box.new w2.drew (.int .i64 0) (.slice none 0 0)).now hb4); obtain ⟨p0, p1⟩ := hn4.cells; obtain ⟨q0, q1⟩ := frozen2 hn4; clear hi4 hgg; obtain ⟨k0, k1⟩ := hx4.cells))
    all_goals (first
      | (have hb9 := Box.new w4 (.int .i64 q) (.slice (some ⟨gg, 0, none⟩) n cp)
         have hr9 := hr4.alloc (.cells #[.int .i64 q, .slice (some ⟨gg, 0, none⟩) n cp] 29)
         have hI9 := Own.alloc HI4.out (.cells #[.int .i64 q, .slice (some ⟨gg, 0, none⟩) n cp] 29)
         have g9 := g4.alloc g4.size (.cells #[.int .i64 q, .slice (some ⟨gg, 0, none⟩) n cp] 29)
         have hgn : gg ≠ w4.heap.size := Nat.ne_of_lt hlt4
         obtain ⟨W9, hW9⟩ : ∃ W9, W9 = w4.alloc (.cells #[.int .i64 q, .slice (some ⟨gg, 0, none⟩) n cp] 29) := ⟨_, rfl⟩
         rw [← hW9] at hb9 hr9 hI9 g9 ⊢
         clear hW9
         obtain ⟨nb, hnb⟩ : ∃ nb, nb = w4.heap.size := ⟨_, rfl⟩
         rw [← hnb] at hb9 hgn ⊢
         clear hnb)
      | (have hb9 := box_put2 (show BoxT 29 w4 w2.heap.size (.int .i64 0) (.slice none 0 0) from hn4) (.int .i64 q) (.slice (some ⟨gg, 0, none⟩) n cp)
         have hr9 := (hr4.far (p := ⟨w2.heap.size, 0, none⟩) (show w.heap.size + 1 ≠ w2.heap.size by omega) (.int .i64 q)).far (p := ⟨w2.heap.size, 1, none⟩) (show w.heap.size + 1 ≠ w2.heap.size by omega) (.slice (some ⟨gg, 0, none⟩) n cp)
         have hgn : gg ≠ w2.heap.size := by omega
         have hI9 := Own.far (Own.far HI4.out (p := ⟨w2.heap.size, 0, none⟩) hgn (.int .i64 q)) (p := ⟨w2.heap.size, 1, none⟩) hgn (.slice (some ⟨gg, 0, none⟩) n cp)
         have g9 := (g4.setCell (p := ⟨w2.heap.size, 0, none⟩) (show w.heap.size ≤ w2.heap.size by omega) (.int .i64 q)).setCell (p := ⟨w2.heap.size, 1, none⟩) (show w.heap.size ≤ w2.heap.size by omega) (.slice (some ⟨gg, 0, none⟩) n cp)
         obtain ⟨W9, hW9⟩ : ∃ W9, W9 = (w4.setCell ⟨w2.heap.size, 0, none⟩ (.int .i64 q)).setCell ⟨w2.heap.size, 1, none⟩ (.slice (some ⟨gg, 0, none⟩) n cp) := ⟨_, rfl⟩
         rw [← hW9] at hb9 hr9 hI9 g9 ⊢
         clear hW9
         obtain ⟨nb, hnb⟩ : ∃ nb, nb = w2.heap.size := ⟨_, rfl⟩
         rw [← hnb] at hb9 hgn ⊢
         clear hnb))
    all_goals
      have hup : nb ≠ gg := fun e => hgn e.symm
      have hu2 : w.heap.size + 1 < gg := by omega
      have hwu : w.heap.size ≤ gg := by omega
      have hn6 := hb9.far (p := ⟨gg, i, none⟩) hup (.int .i64 (vi - z))
      have hn7 := hn6.far (p := ⟨gg, j, none⟩) hup (.int .i64 (vj + z))
      have hr7 := (hr9.far (p := ⟨gg, i, none⟩) (Nat.ne_of_lt hu2) (.int .i64 (vi - z))).far (p := ⟨gg, j, none⟩) (Nat.ne_of_lt hu2) (.int .i64 (vj + z))
      have g7 := (g9.setCell (p := ⟨gg, i, none⟩) hwu (.int .i64 (vi - z))).setCell (p := ⟨gg, j, none⟩) hwu (.int .i64 (vj + z))
      obtain ⟨e0, e1⟩ := hb9.cells
      obtain ⟨e2, e3⟩ := hn6.cells
      obtain ⟨e4, e5⟩ := hn7.cells
      have q0 : W9.cell? ⟨gg, i, none⟩ = some (.int .i64 vi) := by rw [HVI.out]; exact Own.cell hI9 hi
      have q1 := Own.frozen hI9 i
      have hI6 := Own.set hI9 i (.int .i64 (vi - z))
      have q2 : (W9.setCell ⟨gg, i, none⟩ (.int .i64 (vi - z))).cell? ⟨gg, j, none⟩ = some (.int .i64 vj) := by
        have h := Own.cell hI6 hj
        rw [if_neg (fun e => hij e.symm)] at h
        rw [HVJ.out]; exact h
      have q3 := Own.frozen hI6 j
      have HI7 := Lib.hid (give_row (z := z) hI9 (show vi - z = _ from by rw [HVI.out]) (show vj + z = _ from by rw [HVJ.out]))
      clear hI9 hI6 hb9 hn6 hr9 hr4 hr2 hx4 hx2 g2 g4 g9 hb4 c0 c1 k0 k1 hci hup hgn hlt4 hn4
      cases hok : giveOk q ws n i j z with
      | true =>
        have HGD := Lib.hid (HOKV.out.symm.trans hok)
        have HOK := Lib.hid hok
        clear hok
        go_wp2_with (go_at_call 57; refine (voGood_any q (some ⟨gg, 0, none⟩) n cp (giveL ws n i j z) _ (by omega) (Known.of HI7.out.sl)).mono ?_; rintro e w8 ⟨rfl, hb8⟩; rw [HGD.out]; obtain ⟨q4, q5⟩ := (hn7.now hb8).cells; have hr9 := hr7.now hb8; obtain ⟨d0, d1⟩ := hr9.cells; obtain ⟨f0, f1⟩ := KF.out _ hr9)
        have g9 := bfrom g7 hb8
        have hlt9 := HI7.out.lt
        have HI9 := Lib.hid (Own.below HI7.out hb8 hlt9)
        refine bodyPost_ret (v := .tuple #[.agg #[.int .i64 q, .slice (some ⟨gg, 0, none⟩) n cp], .bool true]) (by simp [results, Try.results82, go_sem, d0, d1]) rfl ?_
        have hgr : gg ≠ w.heap.size + 1 := by omega
        rw [HOK.out]
        exact ⟨_, _, rfl, Or.inr ⟨gg, rfl, hwu, (HI9.out.far (by simpa using hgr) _).far (by simpa using hgr) _⟩, (g9.setCell (by simp) _).setCell (by simp) _⟩
      | false =>
        have HGD := Lib.hid (HOKV.out.symm.trans hok)
        have HOK := Lib.hid hok
        clear hok
        go_wp2_with (go_at_call 57; refine (voGood_any q (some ⟨gg, 0, none⟩) n cp (giveL ws n i j z) _ (by omega) (Known.of HI7.out.sl)).mono ?_; rintro e w8 ⟨rfl, hb8⟩; rw [HGD.out]; have hr9 := hr7.now hb8; obtain ⟨d0, d1⟩ := hr9.cells; obtain ⟨f0, f1⟩ := KF.out _ hr9)
        have g9 := bfrom g7 hb8
        refine bodyPost_ret (v := .tuple #[.agg #[.int .i64 0, .slice none 0 0], .bool false]) (by simp [results, Try.results82, go_sem, d0, d1]) rfl ?_
        rw [HOK.out]
        exact ComAt.fail ((g9.setCell (by simp) _).setCell (by simp) _)
  | false =>
    rw [giveOk_no hask]
    cases h1 : memOk q ws n x with
    | false =>
      have HM1 := Lib.hid h1
      clear h1 hask
      go_enter Try.func82, Try.ntmps82
      go_wp2_with fail
      refine (pwMember_any q A n cap ws x _ hm (HK.out.now hb0)).mono ?_
      rintro e w1 ⟨rfl, hb1⟩
      rw [HM1.out]
      have g1 := bfrom hb0 hb1
      have hr1 := hr.now hb1
      clear hr hb0 hb1 hx
      obtain ⟨d0, d1⟩ := hr1.cells
      obtain ⟨f0, f1⟩ := KF.out _ hr1
      go_wp2
      refine bodyPost_ret (v := .tuple #[.agg #[.int .i64 0, .slice none 0 0], .bool false]) (by simp [results, Try.results82, go_sem, d0, d1]) rfl ?_
      exact ComAt.fail ((g1.setCell (by simp) _).setCell (by simp) _)
    | true =>
      cases h2 : memOk q ws n y with
      | false =>
        have HM1 := Lib.hid h1
        have HM2 := Lib.hid h2
        clear h1 h2 hask
        go_enter Try.func82, Try.ntmps82
        go_wp2_with fail
        refine (pwMember_any q A n cap ws x _ hm (HK.out.now hb0)).mono ?_
        rintro e w1 ⟨rfl, hb1⟩
        rw [HM1.out]
        have g1 := bfrom hb0 hb1
        have hx1 := hx.now hb1
        have hr1 := hr.now hb1
        clear hr hb0 hb1 hx
        obtain ⟨c0, c1⟩ := hx1.cells
        go_wp2_with fail
        refine (pwMember_any q A n cap ws y _ hm (HK.out.now g1)).mono ?_
        rintro e w2 ⟨rfl, hb2⟩
        rw [HM2.out]
        have g2 := bfrom g1 hb2
        have hr2 := hr1.now hb2
        clear hx1 hr1 g1 hb2 c0 c1
        obtain ⟨d0, d1⟩ := hr2.cells
        obtain ⟨f0, f1⟩ := KF.out _ hr2
        go_wp2
        refine bodyPost_ret (v := .tuple #[.agg #[.int .i64 0, .slice none 0 0], .bool false]) (by simp [results, Try.results82, go_sem, d0, d1]) rfl ?_
        exact ComAt.fail ((g2.setCell (by simp) _).setCell (by simp) _)
      | true =>
        have HM1 := Lib.hid h1
        have HM2 := Lib.hid h2
        obtain ⟨hg, hx0, hxn⟩ := memOk_parts h1
        obtain ⟨b, off, rfl, hsl⟩ := HK.out.get hg.lo
        have hcase : x = y ∨ (x ≠ y ∧ inB z 0 (ws.getD x.toNat 0) = false) := by
          unfold giveAsk at hask
          rw [h1, h2] at hask
          by_cases e : x = y
          · exact Or.inl e
          · refine Or.inr ⟨e, ?_⟩
            have e' : (x == y) = false := by simpa using e
            rw [e'] at hask
            simpa using hask
        have HSL := Lib.hid hsl
        clear h1 h2 hask hg hsl
        go_enter Try.func82, Try.ntmps82
        go_wp2_with fail
        refine (pwMember_any q _ n cap ws x _ hm (HK.out.now hb0)).mono ?_
        rintro e w1 ⟨rfl, hb1⟩
        rw [HM1.out]
        have g1 := bfrom hb0 hb1
        have hx1 := hx.now hb1
        have hr1 := hr.now hb1
        clear hr hb0 hb1 hx
        obtain ⟨c0, c1⟩ := hx1.cells
        go_wp2_with fail
        refine (pwMember_any q _ n cap ws y _ hm (HK.out.now g1)).mono ?_
        rintro e w2 ⟨rfl, hb2⟩
        rw [HM2.out]
        have g2 := bfrom g1 hb2
        have hx2 := hx1.now hb2
        have hr2 := hr1.now hb2
        have hs2 := Lib.hid (HSL.out.now g2)
        clear hx1 hr1 g1 hb2 c0 c1
        obtain ⟨c0, c1⟩ := hx2.cells
        obtain ⟨d0, d1⟩ := hr2.cells
        obtain ⟨f0, f1⟩ := KF.out _ hr2
        rcases hcase with hxy | ⟨hxy, hzb⟩
        · subst hxy
          go_wp2
          refine bodyPost_ret (v := .tuple #[.agg #[.int .i64 0, .slice none 0 0], .bool false]) (by simp [results, Try.results82, go_sem, d0, d1]) rfl ?_
          exact ComAt.fail ((g2.setCell (by simp) _).setCell (by simp) _)
        · have hne' : (x == y) = false := by simpa using hxy
          obtain ⟨i, rfl⟩ : ∃ i : Nat, x = i := ⟨x.toNat, by omega⟩
          have hi : i < n := by omega
          rw [Int.toNat_natCast] at hzb
          have hci := hs2.out.cell i hi
          have HZB := Lib.hid hzb
          clear hzb
          generalize ws.getD i 0 = v at *
          go_wp2_with (go_at_call 106; refine (l1In_any z 0 v _).mono ?_; rintro e w3 ⟨rfl, rfl⟩; rw [HZB.out])
          refine bodyPost_ret (v := .tuple #[.agg #[.int .i64 0, .slice none 0 0], .bool false]) (by simp [results, Try.results82, go_sem, d0, d1]) rfl ?_
          exact ComAt.fail ((g2.setCell (by simp) _).setCell (by simp) _)

end Go.Proofs.Ytlnlkfldlgchhab
