/- The walk of the exact law of DoesFit. -/
import Derived.Test.YtpcijgdpinmcmaaGreatGi
import Derived.Test.YtpcijgdpinmcmaaGreatK4
import Derived.Test.YtpcijgdpinmcmaaGreatI2
import Derived.BigQuiet
namespace Go.Proofs.YtpcijgdpinmcmaaGreat
open Go.RowKit Vo

set_option maxRecDepth 20000 in
set_option maxHeartbeats 4000000 in
theorem lawDoesFit (k a b : Int) (m : Int) (A : Option Addr) (n cap : Nat) (L : List (List Int)) (w : World) (hm : n ≤ 9223372036854775807) (hk : KSS w A n L) :
    Calls Tryz.prog 3 #[.agg #[.int .i64 k, .int .i64 a, .int .i64 b], .agg #[.int .i64 m, .slice A n cap]] w fun e w' => e = .returned (.bool true) ∧ Below w.heap.size w w' := by
  have HK := Lib.hid hk
  have HLEN := Lib.hid hk.1
  clear hk
  have hb0 : Below w.heap.size w ((w.alloc (.cells #[.int .i64 k, .int .i64 a, .int .i64 b] 23)).alloc (.cells #[.int .i64 m, .slice A n cap] 26)) := (below1 w _).alloc (by simp) _
  have hy0 := (Bx3.new 23 w (.int .i64 k) (.int .i64 a) (.int .i64 b)).alloc (.cells #[.int .i64 m, .slice A n cap] 26)
  have hx0 := BoxT.new 26 (w.alloc (.cells #[.int .i64 k, .int .i64 a, .int .i64 b] 23)) (.int .i64 m) (.slice A n cap)
  simp only [World.size_alloc] at hx0
  obtain ⟨c0, c1⟩ := hx0.cells
  have HSZ := Lib.hid (fun W h => szGame_any m A n cap L 1048576 W (by omega) (by omega) hm h)
  have HTO := Lib.hid (fun W hn h => toGame_any m A n cap L W hn h)
  have HTC := Lib.hid (fun W => toClue_any k a b W)
  have HTL := Lib.hid (fun (hn : n + tot L ≤ 1048576) => (show tot L + L.length ≤ 1048576 from by rw [HLEN.out]; omega))
  obtain ⟨T, hT⟩ : ∃ T, T = tot L := ⟨_, rfl⟩
  rw [← hT] at HSZ HTO
  have HTT := Lib.hid hT
  clear hT
  go_enter Tryz.func3, Tryz.ntmps3
  go_wp2_with fail
  refine (HSZ.out _ (HK.out.now hb0)).mono ?_
  rintro e w1 ⟨h, hb1⟩
  rcases h with rfl | ⟨hle, rfl⟩
  · go_wp2
    go_ret
    exact ⟨rfl, bfrom hb0 hb1⟩
  have hge : ¬ 1048576 - (n : Int) - (T : Int) < 0 := by omega
  have hnt : n + T ≤ 1048576 := by omega
  have hl : n ≤ 1048576 := by omega
  have HLL := Lib.hid (HTL.out (by rw [← HTT.out]; exact hnt))
  have g1 := bfrom hb0 hb1
  have hx1 := hx0.now hb1
  have hy1 := hy0.now hb1
  have K1 := Lib.hid (show ∀ W, Below w1.heap.size w1 W → (W.cell? ⟨w.heap.size, 0, none⟩ = some (.int .i64 k) ∧ W.cell? ⟨w.heap.size, 1, none⟩ = some (.int .i64 a) ∧ W.cell? ⟨w.heap.size, 2, none⟩ = some (.int .i64 b)) ∧ W.cell? ⟨w.heap.size + 1, 0, none⟩ = some (.int .i64 m) ∧ W.cell? ⟨w.heap.size + 1, 1, none⟩ = some (.slice A n cap) from fun W h => ⟨(hy1.now h).cells, (hx1.now h).cells⟩)
  clear c0 c1
  obtain ⟨⟨y0, y1, y2⟩, c0, c1⟩ := K1.out w1 (Below.refl _ _)
  go_wp2_with fail
  go_region_held3 (fun w' => (w'.cell? ⟨w.heap.size, 0, none⟩ = some (.int .i64 k) ∧ w'.cell? ⟨w.heap.size, 1, none⟩ = some (.int .i64 a) ∧ w'.cell? ⟨w.heap.size, 2, none⟩ = some (.int .i64 b)) ∧ w'.cell? ⟨w.heap.size + 1, 0, none⟩ = some (.int .i64 m) ∧ w'.cell? ⟨w.heap.size + 1, 1, none⟩ = some (.slice A n cap))
    (first | exact ⟨⟨y0, y1, y2⟩, c0, c1⟩ | exact kA | exact kB | exact kC | go_keep)
    (first
      | (go_at_call 7; refine (HTC.out _).mono ?_; rintro e wA ⟨rfl, hbA⟩; have gA := bfrom (Below.refl _ _).drew hbA; have kA := K1.out _ gA)
      | (go_at_call 8; refine (HTO.out _ hnt (HK.out.now (bfrom g1 gA))).mono ?_; rintro e wB ⟨rfl, hlB, hbB⟩; have HLB := Lib.hid (show ListsR wB (some ⟨wA.heap.size + 3, 0, none⟩) n L from (RSS.weak (Lies.here hlB)).listsR HLEN.out HLL.out hlB.hi_le); clear hlB; have gB := bfrom gA hbB; have kB := K1.out _ gB)
      | (go_at_call 6; refine (sDoesFit_any k a b m _ n n L _ hl (Nat.le_refl _) HLB.out).mono ?_; rintro e wC ⟨rfl, hbC⟩; have gC := bfrom gB hbC; have kC := K1.out _ gC)
      | fail)
  have g3 := bfrom g1 gC
  have hx3 := hx1.now gC
  have hy3 := hy1.now gC
  clear c0 c1 y0 y1 y2 kA kB kC hx0 hy0 hb0 hb1
  obtain ⟨c0, c1⟩ := hx3.cells
  go_wp2_with fail
  refine (HTO.out _ hnt (HK.out.now g3)).mono ?_
  rintro e w4 ⟨rfl, hl4, hb4⟩
  have HI4 := Lib.hid hl4
  have b5 := below1 w4 (.cells #[.int .i64 m, .slice (some ⟨wC.heap.size + 3, 0, none⟩) n n] 32)
  have g5 := bfrom (bfrom g3 hb4) b5
  have hx5 := (hx3.now hb4).now b5
  have hy5 := (hy3.now hb4).now b5
  have hu5 := BoxT.new 32 w4 (.int .i64 m) (.slice (some ⟨wC.heap.size + 3, 0, none⟩) n n)
  have HI5 := Lib.hid (HI4.out.now b5)
  have HL5 := Lib.hid (show Lists _ (some ⟨wC.heap.size + 3, 0, none⟩) n L from ((RSS.weak (Lies.here HI4.out)).lists HLEN.out HLL.out).now b5)
  clear hl4 c0 c1
  obtain ⟨y0, y1, y2⟩ := hy5.cells
  obtain ⟨u0, u1⟩ := hu5.cells
  go_wp2_with fail
  obtain ⟨w5, hw5⟩ : ∃ w5, w5 = w4.alloc (.cells #[.int .i64 m, .slice (some ⟨wC.heap.size + 3, 0, none⟩) n n] 32) := ⟨_, rfl⟩
  obtain ⟨u, hu⟩ : ∃ u, u = w4.heap.size := ⟨_, rfl⟩
  obtain ⟨cg, hcg⟩ : ∃ cg, cg = wC.heap.size + 3 := ⟨_, rfl⟩
  rw [← hcg] at hw5
  rw [← hcg, ← hw5] at b5 g5 hx5 hy5 HI5 HL5 y0 y1 y2
  rw [← hcg, ← hw5, ← hu] at hu5 u0 u1
  rw [← hcg, ← hw5, ← hu]
  clear b5 hw5 hu hcg HI4 hb4
  have KU := Lib.hid (show ∀ W, Below w5.heap.size w5 W → ((W.cell? ⟨w.heap.size, 0, none⟩ = some (.int .i64 k) ∧ W.cell? ⟨w.heap.size, 1, none⟩ = some (.int .i64 a) ∧ W.cell? ⟨w.heap.size, 2, none⟩ = some (.int .i64 b)) ∧ W.cell? ⟨u, 0, none⟩ = some (.int .i64 m) ∧ W.cell? ⟨u, 1, none⟩ = some (.slice (some ⟨cg, 0, none⟩) n n)) ∧ W.cell? ⟨w.heap.size + 1, 0, none⟩ = some (.int .i64 m) ∧ W.cell? ⟨w.heap.size + 1, 1, none⟩ = some (.slice A n cap) from fun W h => ⟨⟨(hy5.now h).cells, (hu5.now h).cells⟩, (hx5.now h).cells⟩)
  go_region_held3 (fun w' => (w'.cell? ⟨w.heap.size, 0, none⟩ = some (.int .i64 k) ∧ w'.cell? ⟨w.heap.size, 1, none⟩ = some (.int .i64 a) ∧ w'.cell? ⟨w.heap.size, 2, none⟩ = some (.int .i64 b)) ∧ w'.cell? ⟨u, 0, none⟩ = some (.int .i64 m) ∧ w'.cell? ⟨u, 1, none⟩ = some (.slice (some ⟨cg, 0, none⟩) n n))
    (first | exact ⟨⟨y0, y1, y2⟩, u0, u1⟩ | exact kF | exact kG | go_keep)
    (first
      | (go_at_call 7; refine (HTC.out _).mono ?_; rintro e w6 ⟨rfl, hb6⟩; have b56 := bfrom (Below.refl _ _).drew hb6; have kF := (KU.out _ b56).1)
      | (go_at_call 9; refine (iDoesFit_any k a b m _ n n L _ hl (HL5.out.now b56)).mono ?_; rintro e w8 ⟨rfl, hb8⟩; have b58 := bfrom b56 hb8; have kG := (KU.out _ b58).1)
      | fail)
  generalize fitV (k, a, b) m L = z0
  generalize fitOk (k, a, b) m L = z1
  have g8 := bfrom g5 b58
  have HI8 := Lib.hid (HI5.out.now b58)
  have K8 := Lib.hid (show ∀ W, Below w8.heap.size w8 W → (W.cell? ⟨w.heap.size + 1, 0, none⟩ = some (.int .i64 m) ∧ W.cell? ⟨w.heap.size + 1, 1, none⟩ = some (.slice A n cap)) ∧ W.cell? ⟨u, 0, none⟩ = some (.int .i64 m) ∧ W.cell? ⟨u, 1, none⟩ = some (.slice (some ⟨cg, 0, none⟩) n n) from fun W h => ⟨(KU.out W (bfrom b58 h)).2, (KU.out W (bfrom b58 h)).1.2⟩)
  clear u0 u1 y0 y1 y2
  obtain ⟨⟨c0, c1⟩, u0, u1⟩ := K8.out w8 (Below.refl _ _)
  clear kF kG hx3 hy3 hx5 hy5 hu5 g3 g5 hb6 hb8 HL5 HI5 gC gB gA hbA hbB hbC HLB b58 KU K1
  go_wp2_with fail
  go_region_held3 (fun w' => (w'.cell? ⟨w.heap.size + 1, 0, none⟩ = some (.int .i64 m) ∧ w'.cell? ⟨w.heap.size + 1, 1, none⟩ = some (.slice A n cap)) ∧ w'.cell? ⟨u, 0, none⟩ = some (.int .i64 m) ∧ w'.cell? ⟨u, 1, none⟩ = some (.slice (some ⟨cg, 0, none⟩) n n))
    (first | exact ⟨⟨c0, c1⟩, u0, u1⟩ | exact kD | exact kE | go_keep)
    (first
      | (go_at_call 8; refine (HTO.out _ hnt (HK.out.now g8.drew)).mono ?_; rintro e w9 ⟨rfl, hl9, hb9⟩; have HL9 := Lib.hid hl9; clear hl9; have g9 := bfrom (Below.refl _ _).drew hb9; have kD := K8.out _ g9)
      | (go_at_call 10; refine (eqGame_v m _ _ n n n _ HLL.out (HI8.out.now g9) HL9.out.rss0).mono ?_; rintro e wE ⟨rfl, hbE⟩; have gE := bfrom g9 hbE; have kE := K8.out _ gE)
      | fail)
  go_wp2
  go_ret
  exact ⟨rfl, bfrom g8 gE⟩
end Go.Proofs.YtpcijgdpinmcmaaGreat
