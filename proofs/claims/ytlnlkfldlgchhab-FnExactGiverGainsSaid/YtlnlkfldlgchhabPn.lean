/- Contract of the program's GiveWeight. -/
import Derived.Test.YtlnlkfldlgchhabPd
namespace Go.Proofs.Ytlnlkfldlgchhab
open Go.RowKit Vo

theorem giveOk_no {q ws n x y z} (h : giveAsk q ws n x y z = false) : giveOk q ws n x y z = false := by unfold giveOk; rw [h, Bool.false_and]
/-- The row after both stores. -/
theorem give_row {w : World} {u n i j : Nat} {ws : List Int} {z a b : Int} (h : Ints w u n ws) (ha : a = ws.getD i 0 - z) (hb : b = ws.getD j 0 + z) : Ints ((w.setCell ⟨u, i, none⟩ (.int .i64 a)).setCell ⟨u, j, none⟩ (.int .i64 b)) u n (giveL ws n i j z) :=
  (Own.set (Own.set h i _) j _).congr fun k hk => by
    rw [giveL_at hk]
    by_cases e1 : k = j
    · rw [if_pos e1, if_pos e1, e1, hb]
    · rw [if_neg e1, if_neg e1]
      by_cases e2 : k = i
      · rw [if_pos e2, if_pos e2, e2, ha]
      · rw [if_neg e2, if_neg e2]
set_option maxRecDepth 20000 in
set_option maxHeartbeats 4000000 in
theorem giveWeight_any (q : Int) (A : Option Addr) (n cap : Nat) (ws : List Int) (x y z : Int) (w : World) (hm : n ≤ 9223372036854775807) (hk : Known w A n ws) (_hx : (Lit.int .i64 x).wf = true) (_hy : (Lit.int .i64 y).wf = true) (_hz : (Lit.int .i64 z).wf = true) :
    Calls Try.prog 85 #[.agg #[.int .i64 q, .slice A n cap], .int .i64 x, .int .i64 y, .int .i64 z] w fun e w' => ComAt (qIf (giveOk q ws n x y z) q) (nIf (giveOk q ws n x y z) n) (giveL ws n x.toNat y.toNat z) (giveOk q ws n x y z) w w' e := by
  have HK := Lib.hid hk
  clear hk
  have hb0 : Below w.heap.size w ((w.alloc (.cells #[.int .i64 q, .slice A n cap] 29)).alloc (.cells #[.int .i64 0, .slice none 0 0] 29)) := (below1 w _).alloc (by simp) _
  have hx := (Box.new w (.int .i64 q) (.slice A n cap)).alloc (.cells #[.int .i64 0, .slice none 0 0] 29)
  have hr := Box.new (w.alloc (.cells #[.int .i64 q, .slice A n cap] 29)) (.int .i64 0) (.slice none 0 0)
  simp only [World.size_alloc] at hr
  have KF := Lib.hid (show ∀ W, BoxT 29 W (w.heap.size + 1) (.int .i64 0) (.slice none 0 0) → (W.frozen? ⟨w.heap.size + 1, 0, none⟩ = false ∧ W.frozen? ⟨w.heap.size + 1, 1, none⟩ = false) from fun W h => by unfold BoxT at h; exact ⟨by simp [World.frozen?, h], by simp [World.frozen?, h]⟩)
  cases hask : giveAsk q ws n x y z with
  | true =>
    obtain ⟨hg, hxb, hyb, hne, hz0, hz1⟩ := giveAsk_parts hask
    have HA := Lib.hid hask
    have HM := Lib.hid (show memOk q ws n x = true ∧ memOk q ws n y = true from by unfold giveAsk at hask; simp at hask; exact hask.1.1)
    obtain ⟨i, rfl⟩ : ∃ i : Nat, x = i := ⟨x.toNat, by omega⟩
    obtain ⟨j, rfl⟩ : ∃ j : Nat, y = j := ⟨y.toNat, by omega⟩
    rw [Int.toNat_natCast] at hz1
    rw [Int.toNat_natCast, Int.toNat_natCast]
    obtain ⟨b, off, rfl, hsl⟩ := HK.out.get hg.lo
    have HSL := Lib.hid hsl
    have HG := Lib.hid hg
    have hn9 := hg.hi
    have hn1 := hg.lo
    have hi : i < n := by omega
    have hj : j < n := by omega
    have hij : i ≠ j := by omega
    have hbi := hg.ok i hi
    have hbj := hg.ok j hj
    have HOKV := Lib.hid (show giveOk q ws n i j z = goodB q (giveL ws n i j z) n from by unfold giveOk; rw [hask, Bool.true_and, Int.toNat_natCast, Int.toNat_natCast])
    obtain ⟨vi, hvi⟩ : ∃ v, v = ws.getD i 0 := ⟨_, rfl⟩
    obtain ⟨vj, hvj⟩ : ∃ v, v = ws.getD j 0 := ⟨_, rfl⟩
    have HVI := Lib.hid hvi
    have HVJ := Lib.hid hvj
    rw [← hvi] at hz1 hbi
    rw [← hvj] at hbj
    have hne' : ((i : Int) == (j : Int)) = false := by simp; omega
    clear hg hsl hask hvi hvj hxb hyb hne
    go_enter Try.func85, Try.ntmps85
    go_wp2_with fail
    refine (hasMember_any q _ n cap ws i _ hm (HK.out.now hb0)).mono ?_
    rintro e w1 ⟨rfl, hb1⟩
    rw [HM.out.1]
    have g1 := bfrom hb0 hb1
    have hx1 := hx.now hb1
    have hr1 := hr.now hb1
    clear hx hr hb0 hb1
    obtain ⟨c0, c1⟩ := hx1.cells
    go_wp2_with fail
    refine (hasMember_any q _ n cap ws j _ hm (HK.out.now g1)).mono ?_
    rintro e w2 ⟨rfl, hb2⟩
    rw [HM.out.2]
    have g2 := bfrom g1 hb2
    have hx2 := hx1.now hb2
    have hr2 := hr1.now hb2
    have hs2 := Lib.hid (HSL.out.now g2)
    clear hx1 hr1 g1 hb2 c0 c1
    obtain ⟨c0, c1⟩ := hx2.cells
    have hci : w2.cell? ⟨b, off + i, none⟩ = some (.int .i64 vi) := by rw [HVI.out]; exact hs2.out.cell i hi
    go_wp2_with fail
    refine (withQuota_any q q b off n cap ws _ hn1 hn9 hs2.out).mono ?_
    rintro e w4 ⟨rfl, hi4, hb4⟩
    obtain ⟨u, hu⟩ : ∃ u, u = w2.heap.size + 2 := ⟨_, rfl⟩
    rw [← hu] at hi4 ⊢
    have g4 := bfrom g2 hb4
    have hr4 := hr2.now hb4
    have hul := hi4.lt
    have hu2 : w.heap.size + 1 < u := by have := hr2.lt; omega
    have hn5 := Box.new w4 (.int .i64 q) (.slice (some ⟨u, 0, none⟩) n n)
    have g5 := g4.alloc g4.size (.cells #[.int .i64 q, .slice (some ⟨u, 0, none⟩) n n] 29)
    have hr5 := hr4.alloc (.cells #[.int .i64 q, .slice (some ⟨u, 0, none⟩) n n] 29)
    have hI5 : Ints _ u n ws := Own.alloc hi4 (.cells #[.int .i64 q, .slice (some ⟨u, 0, none⟩) n n] 29)
    obtain ⟨w5, hw5⟩ : ∃ w5, w5 = w4.alloc (.cells #[.int .i64 q, .slice (some ⟨u, 0, none⟩) n n] 29) := ⟨_, rfl⟩
    rw [← hw5] at hn5 g5 hr5 hI5
    obtain ⟨p, hp⟩ : ∃ p, p = w4.heap.size := ⟨_, rfl⟩
    rw [← hp] at hn5
    have hup : p ≠ u := by omega
    have hn6 := hn5.far (p := ⟨u, i, none⟩) hup (.int .i64 (vi - z))
    have hn7 := hn6.far (p := ⟨u, j, none⟩) hup (.int .i64 (vj + z))
    have hr7 := (hr5.far (p := ⟨u, i, none⟩) (Nat.ne_of_lt hu2) (.int .i64 (vi - z))).far (p := ⟨u, j, none⟩) (Nat.ne_of_lt hu2) (.int .i64 (vj + z))
    have hwu : w.heap.size ≤ u := by omega
    have g7 := (g5.setCell (p := ⟨u, i, none⟩) hwu (.int .i64 (vi - z))).setCell (p := ⟨u, j, none⟩) hwu (.int .i64 (vj + z))
    obtain ⟨e0, e1⟩ := hn5.cells
    obtain ⟨e2, e3⟩ := hn6.cells
    obtain ⟨e4, e5⟩ := hn7.cells
    have k0 : w5.cell? ⟨u, i, none⟩ = some (.int .i64 vi) := by rw [HVI.out]; exact Own.cell hI5 hi
    have k1 := Own.frozen hI5 i
    have hI6 := Own.set hI5 i (.int .i64 (vi - z))
    have k2 : (w5.setCell ⟨u, i, none⟩ (.int .i64 (vi - z))).cell? ⟨u, j, none⟩ = some (.int .i64 vj) := by
      have h := Own.cell hI6 hj
      rw [if_neg (fun e => hij e.symm)] at h
      rw [HVJ.out]; exact h
    have k3 := Own.frozen hI6 j
    have HI7 := Lib.hid (give_row (z := z) hI5 (show vi - z = _ from by rw [HVI.out]) (show vj + z = _ from by rw [HVJ.out]))
    subst hw5
    subst hp
    clear hI5 hI6 hn5 hn6 hn7 hi4 hr5 hr4 hr2 hx2 g2 g4 g5 hb4 c0 c1 hci hu hul hup
    cases hok : giveOk q ws n i j z with
    | true =>
      have HGD := Lib.hid (HOKV.out.symm.trans hok)
      have HOK := Lib.hid hok
      clear hok
      go_wp2_with fail
      refine (checked_yes q (some ⟨u, 0, none⟩) n n (giveL ws n i j z) _ (by omega) (Known.of HI7.out.sl) HGD.out).mono ?_
      rintro e w9 ⟨rfl, hb9⟩
      have hr9 := hr7.now hb9
      obtain ⟨d0, d1⟩ := hr9.cells
      obtain ⟨f0, f1⟩ := KF.out _ hr9
      have g9 := bfrom g7 hb9
      have hlt9 := HI7.out.lt
      have HI9 := Lib.hid (Own.below HI7.out hb9 hlt9)
      go_wp2
      refine bodyPost_ret (v := .tuple #[.agg #[.int .i64 q, .slice (some ⟨u, 0, none⟩) n n], .bool true]) (by simp [results, Try.results85, go_sem, d0, d1]) rfl ?_
      have hgr : u ≠ w.heap.size + 1 := by omega
      rw [HOK.out]
      exact ⟨_, _, rfl, Or.inr ⟨u, rfl, hwu, (HI9.out.far (by simpa using hgr) _).far (by simpa using hgr) _⟩, (g9.setCell (by simp) _).setCell (by simp) _⟩
    | false =>
      have HGD := Lib.hid (HOKV.out.symm.trans hok)
      have HOK := Lib.hid hok
      clear hok
      go_wp2_with fail
      refine (checked_no q (some ⟨u, 0, none⟩) n n (giveL ws n i j z) _ (by omega) (Known.of HI7.out.sl) HGD.out).mono ?_
      rintro e w9 ⟨rfl, hb9⟩
      have hr9 := hr7.now hb9
      obtain ⟨d0, d1⟩ := hr9.cells
      obtain ⟨f0, f1⟩ := KF.out _ hr9
      have g9 := bfrom g7 hb9
      go_wp2
      refine bodyPost_ret (v := .tuple #[.agg #[.int .i64 0, .slice none 0 0], .bool false]) (by simp [results, Try.results85, go_sem, d0, d1]) rfl ?_
      rw [HOK.out]
      exact ComAt.fail ((g9.setCell (by simp) _).setCell (by simp) _)
  | false =>
    rw [giveOk_no hask]
    cases h1 : memOk q ws n x with
    | false =>
      have HM1 := Lib.hid h1
      clear h1 hask
      go_enter Try.func85, Try.ntmps85
      go_wp2_with fail
      refine (hasMember_any q A n cap ws x _ hm (HK.out.now hb0)).mono ?_
      rintro e w1 ⟨rfl, hb1⟩
      rw [HM1.out]
      have g1 := bfrom hb0 hb1
      have hr1 := hr.now hb1
      clear hr hb0 hb1 hx
      obtain ⟨d0, d1⟩ := hr1.cells
      obtain ⟨f0, f1⟩ := KF.out _ hr1
      go_wp2
      refine bodyPost_ret (v := .tuple #[.agg #[.int .i64 0, .slice none 0 0], .bool false]) (by simp [results, Try.results85, go_sem, d0, d1]) rfl ?_
      exact ComAt.fail ((g1.setCell (by simp) _).setCell (by simp) _)
    | true =>
      cases h2 : memOk q ws n y with
      | false =>
        have HM1 := Lib.hid h1
        have HM2 := Lib.hid h2
        clear h1 h2 hask
        go_enter Try.func85, Try.ntmps85
        go_wp2_with fail
        refine (hasMember_any q A n cap ws x _ hm (HK.out.now hb0)).mono ?_
        rintro e w1 ⟨rfl, hb1⟩
        rw [HM1.out]
        have g1 := bfrom hb0 hb1
        have hx1 := hx.now hb1
        have hr1 := hr.now hb1
        clear hr hb0 hb1 hx
        obtain ⟨c0, c1⟩ := hx1.cells
        go_wp2_with fail
        refine (hasMember_any q A n cap ws y _ hm (HK.out.now g1)).mono ?_
        rintro e w2 ⟨rfl, hb2⟩
        rw [HM2.out]
        have g2 := bfrom g1 hb2
        have hr2 := hr1.now hb2
        clear hx1 hr1 g1 hb2 c0 c1
        obtain ⟨d0, d1⟩ := hr2.cells
        obtain ⟨f0, f1⟩ := KF.out _ hr2
        go_wp2
        refine bodyPost_ret (v := .tuple #[.agg #[.int .i64 0, .slice none 0 0], .bool false]) (by simp [results, Try.results85, go_sem, d0, d1]) rfl ?_
        exact ComAt.fail ((g2.setCell (by simp) _).setCell (by simp) _)
      | true =>
        have HM1 := Lib.hid h1
        have HM2 := Lib.hid h2
        obtain ⟨hg, hx0, hxn⟩ := memOk_parts h1
        obtain ⟨b, off, rfl, hsl⟩ := HK.out.get hg.lo
        have hcase : x = y ∨ (x ≠ y ∧ inB z 0 (ws.getD x.toNat 0) = false) := by
          unfold giveAsk at hask
          rw [h1, h2] at hask
          by_cases e : x = y
          · exact Or.inl e
          · refine Or.inr ⟨e, ?_⟩
            have e' : (x == y) = false := by simpa using e
            rw [e'] at hask
            simpa using hask
        have HSL := Lib.hid hsl
        clear h1 h2 hask hg hsl
        go_enter Try.func85, Try.ntmps85
        go_wp2_with fail
        refine (hasMember_any q _ n cap ws x _ hm (HK.out.now hb0)).mono ?_
        rintro e w1 ⟨rfl, hb1⟩
        rw [HM1.out]
        have g1 := bfrom hb0 hb1
        have hx1 := hx.now hb1
        have hr1 := hr.now hb1
        clear hr hb0 hb1 hx
        obtain ⟨c0, c1⟩ := hx1.cells
        go_wp2_with fail
        refine (hasMember_any q _ n cap ws y _ hm (HK.out.now g1)).mono ?_
        rintro e w2 ⟨rfl, hb2⟩
        rw [HM2.out]
        have g2 := bfrom g1 hb2
        have hx2 := hx1.now hb2
        have hr2 := hr1.now hb2
        have hs2 := Lib.hid (HSL.out.now g2)
        clear hx1 hr1 g1 hb2 c0 c1
        obtain ⟨c0, c1⟩ := hx2.cells
        obtain ⟨d0, d1⟩ := hr2.cells
        obtain ⟨f0, f1⟩ := KF.out _ hr2
        rcases hcase with hxy | ⟨hxy, hzb⟩
        · subst hxy
          go_wp2
          refine bodyPost_ret (v := .tuple #[.agg #[.int .i64 0, .slice none 0 0], .bool false]) (by simp [results, Try.results85, go_sem, d0, d1]) rfl ?_
          exact ComAt.fail ((g2.setCell (by simp) _).setCell (by simp) _)
        · have hne' : (x == y) = false := by simpa using hxy
          obtain ⟨i, rfl⟩ : ∃ i : Nat, x = i := ⟨x.toNat, by omega⟩
          have hi : i < n := by omega
          rw [Int.toNat_natCast] at hzb
          have hci := hs2.out.cell i hi
          generalize ws.getD i 0 = v at *
          by_cases hz0 : z < 0
          · clear hzb
            go_wp2
            refine bodyPost_ret (v := .tuple #[.agg #[.int .i64 0, .slice none 0 0], .bool false]) (by simp [results, Try.results85, go_sem, d0, d1]) rfl ?_
            exact ComAt.fail ((g2.setCell (by simp) _).setCell (by simp) _)
          · have hzv : v < z := by
              unfold inB at hzb
              simp at hzb
              omega
            have hz0' : 0 ≤ z := by omega
            clear hzb hz0
            go_wp2
            refine bodyPost_ret (v := .tuple #[.agg #[.int .i64 0, .slice none 0 0], .bool false]) (by simp [results, Try.results85, go_sem, d0, d1]) rfl ?_
            exact ComAt.fail ((g2.setCell (by simp) _).setCell (by simp) _)
end Go.Proofs.Ytlnlkfldlgchhab
