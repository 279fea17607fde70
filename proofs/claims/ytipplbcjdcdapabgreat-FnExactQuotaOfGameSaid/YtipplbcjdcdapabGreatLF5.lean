/- The walks of exact laws of functions of a game that answer with numbers and truths. -/
import Derived.Test.YtipplbcjdcdapabGreatL1
import Derived.Test.YtipplbcjdcdapabGreatK4
import Derived.Test.YtipplbcjdcdapabGreatWs
import Derived.BigQuiet
namespace Go.Proofs.YtipplbcjdcdapabGreat
open Go.RowKit Vo

set_option maxRecDepth 20000 in
set_option maxHeartbeats 4000000 in
theorem lawQuotaOfGame (m : Int) (A : Option Addr) (n cap : Nat) (L : List (List Int)) (A2 : Option Addr) (k2 cap2 : Nat) (xs : List Int) (w : World) (hm : n ≤ 9223372036854775807) (hk : KSS w A n L) (hm2 : k2 ≤ 9223372036854775807) (hk2 : Known w A2 k2 xs) :
    Calls Tryz.prog 3 #[.agg #[.int .i64 m, .slice A n cap], .slice A2 k2 cap2] w fun e w' => e = .returned (.bool true) ∧ Below w.heap.size w w' := by
  have HK := Lib.hid hk
  have HLEN := Lib.hid hk.1
  clear hk
  have hx0 := BoxT.new 24 w (.int .i64 m) (.slice A n cap)
  have hb0 := below1 w (.cells #[.int .i64 m, .slice A n cap] 24)
  have HSZ := Lib.hid (fun W h => szGame_any m A n cap L 1048576 W (by omega) (by omega) hm h)
  have HTO := Lib.hid (fun W hn h => toGame_any m A n cap L W hn h)
  have HTL := Lib.hid (fun (hn : n + tot L ≤ 1048576) => (show tot L + L.length ≤ 1048576 from by rw [HLEN.out]; omega))
  obtain ⟨T, hT⟩ : ∃ T, T = tot L := ⟨_, rfl⟩
  rw [← hT] at HSZ HTO
  have HTT := Lib.hid hT
  clear hT
  have HK2 := Lib.hid hk2
  clear hk2
  by_cases hn2 : 1048576 < k2
  · go_enter Tryz.func3, Tryz.ntmps3
    go_wp2
    go_ret
    exact ⟨rfl, hb0⟩
  have hk2m : k2 ≤ 1048576 := by omega
  go_enter Tryz.func3, Tryz.ntmps3
  go_wp2_with fail
  refine (HSZ.out _ (HK.out.now hb0)).mono ?_
  rintro e w1 ⟨h, hb1⟩
  rcases h with rfl | ⟨hle, rfl⟩
  · go_wp2
    go_ret
    exact ⟨rfl, bfrom hb0 hb1⟩
  have hge : ¬ 1048576 - (n : Int) - (T : Int) < 0 := by omega
  have hnt : n + T ≤ 1048576 := by omega
  have hl : n ≤ 1048576 := by omega
  have HLL := Lib.hid (HTL.out (by rw [← HTT.out]; exact hnt))
  have g1 := bfrom hb0 hb1
  have hx1 := hx0.now hb1
  obtain ⟨c0, c1⟩ := hx1.cells
  go_wp2_with fail
  refine (HTO.out _ hnt (HK.out.now g1)).mono ?_
  rintro e w2 ⟨rfl, hl2, hb2⟩
  have g2 := bfrom g1 hb2
  have hx2 := hx1.now hb2
  have HL2 := Lib.hid (show ListsR w2 (some ⟨w1.heap.size + 3, 0, none⟩) n L from (RSS.weak (Lies.here hl2)).listsR HLEN.out HLL.out hl2.hi_le)
  clear hl2 c0 c1
  obtain ⟨c0, c1⟩ := hx2.cells
  go_wp2_with fail
  refine (toIntS_any A2 k2 cap2 xs _ hk2m (HK2.out.now g2)).mono ?_
  rintro e wj ⟨rfl, hj, hbj⟩
  have HJ := Lib.hid hj.sl
  clear hj
  go_wp2_with fail
  refine (sQuotaOfGame_any m _ n n L _ 0 k2 k2 xs _ hl (Nat.le_refl _) (HL2.out.now hbj) hm2 HJ.out).mono ?_
  rintro e w3 ⟨rfl, hb3⟩
  have g3 := bfrom (bfrom g2 hbj) hb3
  have hx3 := (hx2.now hbj).now hb3
  clear c0 c1
  obtain ⟨c0, c1⟩ := hx3.cells
  go_wp2_with fail
  refine (HTO.out _ hnt (HK.out.now g3)).mono ?_
  rintro e w4 ⟨rfl, hl4, hb4⟩
  have g4 := bfrom g3 hb4
  have hx4 := hx3.now hb4
  have hz4 := hl4.hi_le
  have b4 := below1 w4 (.cells #[.int .i64 m, .slice (some ⟨w3.heap.size + 3, 0, none⟩) n n] 29)
  have HI4 := Lib.hid (hl4.now b4)
  have HL4 := Lib.hid (show Lists _ (some ⟨w3.heap.size + 3, 0, none⟩) n L from ((RSS.weak (Lies.here hl4)).lists HLEN.out HLL.out).now b4)
  have g4a := bfrom g4 b4
  have hx4a := hx4.now b4
  have hy4 := BoxT.new 29 w4 (.int .i64 m) (.slice (some ⟨w3.heap.size + 3, 0, none⟩) n n)
  clear hl4 c0 c1
  obtain ⟨c0, c1⟩ := hx4a.cells
  go_wp2_with fail
  refine (toIntS_any A2 k2 cap2 xs _ hk2m (HK2.out.now g4a)).mono ?_
  rintro e wk ⟨rfl, hj, hbk⟩
  simp only [World.size_alloc] at hj
  have HJ4 := Lib.hid hj.sl
  clear hj c0 c1
  have hy4x := hy4.now hbk
  have hx4x := hx4a.now hbk
  obtain ⟨c0, c1⟩ := hx4x.cells
  obtain ⟨d0, d1⟩ := hy4x.cells
  go_wp2_with fail
  refine (iQuotaOfGame_any m _ n n L _ 0 k2 k2 xs _ hl (HL4.out.now hbk) hm2 HJ4.out).mono ?_
  rintro e w5 ⟨rfl, hb5⟩
  generalize qogV m L xs k2 = r0
  generalize qogOk m L xs k2 = r1
  have g5 := bfrom (bfrom g4a hbk) hb5
  have hx5 := (hx4a.now hbk).now hb5
  have hy5 := (hy4.now hbk).now hb5
  have HI5 := Lib.hid ((HI4.out.now hbk).now hb5)
  have HJ5 := Lib.hid (HJ4.out.now hb5)
  clear c0 c1 d0 d1
  obtain ⟨c0, c1⟩ := hx5.cells
  obtain ⟨d0, d1⟩ := hy5.cells
  have hz5 := g5.size
  have KX := Lib.hid (show ∀ W, Below w5.heap.size w5 W → W.cell? ⟨w.heap.size, 0, none⟩ = some (.int .i64 m) ∧ W.cell? ⟨w.heap.size, 1, none⟩ = some (.slice A n cap) ∧ W.cell? ⟨w4.heap.size, 0, none⟩ = some (.int .i64 m) ∧ W.cell? ⟨w4.heap.size, 1, none⟩ = some (.slice (some ⟨w3.heap.size + 3, 0, none⟩) n n) from fun W h => ⟨(hx5.now h).cells.1, (hx5.now h).cells.2, (hy5.now h).cells.1, (hy5.now h).cells.2⟩)
  have HK5 := Lib.hid (HK.out.now g5)
  clear hx0 hx1 hx2 hx3 hx4 hx4a hx5 hy4 hy5 hb0 hb1 hb2 hb3 hb4 hb5 b4 g1 g2 g3 g4 g4a HL2 HL4 HI4 hz4 hbj hbk HJ HJ4 hn2 hy4x hx4x
  go_wp2_with fail
  go_region_held3 (fun w' => w'.cell? ⟨w.heap.size, 0, none⟩ = some (.int .i64 m) ∧ w'.cell? ⟨w.heap.size, 1, none⟩ = some (.slice A n cap) ∧ w'.cell? ⟨w4.heap.size, 0, none⟩ = some (.int .i64 m) ∧ w'.cell? ⟨w4.heap.size, 1, none⟩ = some (.slice (some ⟨w3.heap.size + 3, 0, none⟩) n n))
    (first | exact ⟨c0, c1, d0, d1⟩ | exact ⟨c60, c61, d60, d61⟩ | exact ⟨c70, c71, d70, d71⟩ | go_keep)
    (first
      | (go_at_call 6; refine (HTO.out _ hnt (HK5.out.now (Below.refl _ _).drew)).mono ?_; rintro e w6 ⟨rfl, hl6, hb6⟩; have HL6 := Lib.hid hl6; clear hl6; have b6 := bfrom (Below.refl _ w5).drew hb6; obtain ⟨c60, c61, d60, d61⟩ := KX.out _ b6)
      | (go_at_call 9; refine (eqGame_v m _ _ n n n _ HLL.out (HI5.out.now b6) HL6.out.rss0).mono ?_; rintro e w7 ⟨rfl, hb7⟩; have b7 := bfrom b6 hb7; obtain ⟨c70, c71, d70, d71⟩ := KX.out _ b7))
  have g7 := bfrom g5 b7
  have HJ7 := Lib.hid (HJ5.out.now b7)
  have HSM := Lib.hid (sameB_yes (xs := xs) (ys := xs) (n := k2) (fun _ _ => rfl))
  clear c0 c1 d0 d1 c60 c61 d60 d61 c70 c71 d70 d71
  go_wp2_with fail
  refine (toIntS_any A2 k2 cap2 xs _ hk2m (HK2.out.now g7)).mono ?_
  rintro e w10 ⟨rfl, hj10, hb10⟩
  have HJ10 := Lib.hid hj10.sl
  clear hj10
  go_wp2_with fail
  refine (eqIntS_in _ _ k2 k2 _ _ k2 xs xs _ hm2 (HJ7.out.now hb10) HJ10.out).mono ?_
  rintro e w11 ⟨rfl, hb11⟩
  rw [HSM.out]
  go_wp2
  go_ret
  exact ⟨rfl, bfrom (bfrom g7 hb10) hb11⟩
end Go.Proofs.YtipplbcjdcdapabGreat
