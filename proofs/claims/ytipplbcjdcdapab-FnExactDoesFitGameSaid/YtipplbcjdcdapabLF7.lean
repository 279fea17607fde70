/- The walk of the exact law of DoesFitGame. -/
import Derived.Test.YtipplbcjdcdapabL1
import Derived.Test.YtipplbcjdcdapabK4
import Derived.Test.YtipplbcjdcdapabWw
import Derived.BigQuiet
namespace Go.Proofs.Ytipplbcjdcdapab
open Go.RowKit Vo

set_option maxRecDepth 20000 in
set_option maxHeartbeats 4000000 in
theorem lawDoesFitGame (q : Int) (A : Option Addr) (n cap : Nat) (ws : List Int) (m : Int) (B : Option Addr) (k capb : Nat) (L : List (List Int)) (w : World) (hm : n ≤ 9223372036854775807) (hk : Known w A n ws) (hm2 : k ≤ 9223372036854775807) (hkl : KSS w B k L) :
    Calls Try.prog 4 #[.agg #[.int .i64 q, .slice A n cap], .agg #[.int .i64 m, .slice B k capb]] w fun e w' => e = .returned (.bool true) ∧ Below w.heap.size w w' := by
  have HK := Lib.hid hk
  have HKL := Lib.hid hkl
  have HLEN := Lib.hid hkl.1
  clear hk hkl
  have hb0 : Below w.heap.size w ((w.alloc (.cells #[.int .i64 q, .slice A n cap] 37)).alloc (.cells #[.int .i64 m, .slice B k capb] 24)) := (below1 w _).alloc (by simp) _
  have hx0 := (BoxT.new 37 w (.int .i64 q) (.slice A n cap)).alloc (.cells #[.int .i64 m, .slice B k capb] 24)
  have hy0 := BoxT.new 24 (w.alloc (.cells #[.int .i64 q, .slice A n cap] 37)) (.int .i64 m) (.slice B k capb)
  simp only [World.size_alloc] at hy0
  obtain ⟨a0, a1⟩ := hx0.cells
  by_cases hn : 1048576 < n
  · go_enter Try.func4, Try.ntmps4
    go_wp2_with fail
    refine (szCommittee_no _ A n cap _ hm hn).mono ?_
    rintro e w1 ⟨rfl, hb1⟩
    go_wp2
    go_ret
    exact ⟨rfl, bfrom hb0 hb1⟩
  have hn' : n ≤ 1048576 := by omega
  have HSZ := Lib.hid (fun W h => szGame_any m B k capb L (1048576 - n) W (by omega) (by omega) hm2 h)
  have HTO := Lib.hid (fun W hn h => toGame_any m B k capb L W hn h)
  have HTL := Lib.hid (fun (hn : k + tot L ≤ 1048576) => (show tot L + L.length ≤ 1048576 from by rw [HLEN.out]; omega))
  obtain ⟨T, hT⟩ : ∃ T, T = tot L := ⟨_, rfl⟩
  rw [← hT] at HSZ HTO
  have HTT := Lib.hid hT
  clear hT
  go_enter Try.func4, Try.ntmps4
  go_wp2_with fail
  refine (szCommittee_yes _ A n cap _ hn').mono ?_
  rintro e w1 ⟨rfl, hb1⟩
  have g1 := bfrom hb0 hb1
  have hx1 := hx0.now hb1
  have hy1 := hy0.now hb1
  clear a0 a1
  obtain ⟨a0, a1⟩ := hx1.cells
  obtain ⟨b0, b1⟩ := hy1.cells
  have hge0 : ¬ 1048576 - (n : Int) < 0 := by omega
  go_wp2_with fail
  refine (HSZ.out _ (HKL.out.now g1)).mono ?_
  rintro e w2 ⟨h, hb2⟩
  rcases h with rfl | ⟨hle, rfl⟩
  · go_wp2
    go_ret
    exact ⟨rfl, bfrom g1 hb2⟩
  have hge : ¬ 1048576 - (n : Int) - (k : Int) - (T : Int) < 0 := by omega
  have hnt : k + T ≤ 1048576 := by omega
  have hl : k ≤ 1048576 := by omega
  have HLL := Lib.hid (HTL.out (by rw [← HTT.out]; exact hnt))
  have g2 := bfrom g1 hb2
  have hx2 := hx1.now hb2
  have hy2 := hy1.now hb2
  clear a0 a1 b0 b1
  obtain ⟨a0, a1⟩ := hx2.cells
  obtain ⟨b0, b1⟩ := hy2.cells
  have K2 := Lib.hid (show ∀ W, Below w2.heap.size w2 W → (W.cell? ⟨w.heap.size, 0, none⟩ = some (.int .i64 q) ∧ W.cell? ⟨w.heap.size, 1, none⟩ = some (.slice A n cap) ∧ W.cell? ⟨w.heap.size + 1, 0, none⟩ = some (.int .i64 m) ∧ W.cell? ⟨w.heap.size + 1, 1, none⟩ = some (.slice B k capb)) from fun W hb => ⟨(hx2.now hb).cells.1, (hx2.now hb).cells.2, (hy2.now hb).cells.1, (hy2.now hb).cells.2⟩)
  go_wp2_with fail
  go_region_held3 (fun w' => w'.cell? ⟨w.heap.size, 0, none⟩ = some (.int .i64 q) ∧ w'.cell? ⟨w.heap.size, 1, none⟩ = some (.slice A n cap) ∧ w'.cell? ⟨w.heap.size + 1, 0, none⟩ = some (.int .i64 m) ∧ w'.cell? ⟨w.heap.size + 1, 1, none⟩ = some (.slice B k capb))
    (first | exact ⟨r0, r1, r2, r3⟩ | exact ⟨s0, s1, s2, s3⟩ | exact ⟨p0, p1, p2, p3⟩ | exact ⟨a0, a1, b0, b1⟩ | go_keep)
    (first
      | (go_at_call 17; refine (toCommittee_any q A n cap ws _ hn' (HK.out.now g2.drew)).mono ?_; rintro e wA ⟨rfl, hiA, hbA⟩; have HIA := Lib.hid hiA.sl; clear hiA; have gA := bfrom (Below.refl _ _).drew hbA; obtain ⟨r0, r1, r2, r3⟩ := K2.out _ gA)
      | (go_at_call 8; refine (HTO.out _ hnt (HKL.out.now (bfrom g2 gA))).mono ?_; rintro e wB ⟨rfl, hlB, hbB⟩; have HLB := Lib.hid (show ListsR wB (some ⟨wA.heap.size + 3, 0, none⟩) k L from (RSS.weak (Lies.here hlB)).listsR HLEN.out HLL.out hlB.hi_le); clear hlB; have gB := bfrom gA hbB; obtain ⟨s0, s1, s2, s3⟩ := K2.out _ gB)
      | (go_at_call 16; refine (sDoesFitGame_any q _ n n ws m _ k k L _ hm (Known.of (HIA.out.now hbB)) hl (Nat.le_refl _) HLB.out).mono ?_; rintro e wC ⟨rfl, hbC⟩; have gC := bfrom gB hbC; obtain ⟨p0, p1, p2, p3⟩ := K2.out _ gC))
  have g3 := bfrom g2 gC
  have hx3 := hx2.now gC
  have hy3 := hy2.now gC
  clear a0 a1 b0 b1 r0 r1 r2 r3 s0 s1 s2 s3 p0 p1 p2 p3 hx0 hx1 hy0 hy1 hb0 hb1 hb2 g1 hx2 hy2
  obtain ⟨a0, a1⟩ := hx3.cells
  obtain ⟨b0, b1⟩ := hy3.cells
  go_wp2_with fail
  refine (toCommittee_any q A n cap ws _ hn' (HK.out.now g3)).mono ?_
  rintro e w4 ⟨rfl, hi4, hb4⟩
  have HI4 := Lib.hid hi4.sl
  have b5 := below1 w4 (.cells #[.int .i64 q, .slice (some ⟨wC.heap.size + 3, 0, none⟩) n n] 41)
  have g5 := bfrom (bfrom g3 hb4) b5
  have hx5 := (hx3.now hb4).now b5
  have hy5 := (hy3.now hb4).now b5
  have hu5 := Box.new w4 (.int .i64 q) (.slice (some ⟨wC.heap.size + 3, 0, none⟩) n n)
  have HI5 := Lib.hid (HI4.out.now b5)
  clear a0 a1 b0 b1 hi4
  obtain ⟨a0, a1⟩ := hx5.cells
  obtain ⟨b0, b1⟩ := hy5.cells
  go_wp2_with fail
  obtain ⟨w5, hw5⟩ : ∃ w5, w5 = w4.alloc (.cells #[.int .i64 q, .slice (some ⟨wC.heap.size + 3, 0, none⟩) n n] 41) := ⟨_, rfl⟩
  obtain ⟨u, hu⟩ : ∃ u, u = w4.heap.size := ⟨_, rfl⟩
  obtain ⟨cg, hcg⟩ : ∃ cg, cg = wC.heap.size + 3 := ⟨_, rfl⟩
  rw [← hcg] at hw5
  rw [← hcg, ← hw5] at b5 g5 hx5 hy5 HI5 a0 a1 b0 b1
  rw [← hcg, ← hw5, ← hu] at hu5
  rw [← hcg, ← hw5, ← hu]
  clear b5 hw5 hu hcg HI4 hb4
  refine (HTO.out _ hnt (HKL.out.now g5)).mono ?_
  rintro e w6 ⟨rfl, hl6, hb6⟩
  have g6 := bfrom g5 hb6
  have b7 := below1 w6 (.cells #[.int .i64 m, .slice (some ⟨w5.heap.size + 3, 0, none⟩) k k] 29)
  have HIG := Lib.hid (hl6.now b7)
  have HLG := Lib.hid (show Lists _ (some ⟨w5.heap.size + 3, 0, none⟩) k L from ((RSS.weak (Lies.here hl6)).lists HLEN.out HLL.out).now b7)
  have g7 := bfrom g6 b7
  have hx7 := (hx5.now hb6).now b7
  have hy7 := (hy5.now hb6).now b7
  have hu7 := (hu5.now hb6).now b7
  have hv7 := BoxT.new 29 w6 (.int .i64 m) (.slice (some ⟨w5.heap.size + 3, 0, none⟩) k k)
  have HI7 := Lib.hid ((HI5.out.now hb6).now b7)
  clear a0 a1 b0 b1 hl6
  obtain ⟨a0, a1⟩ := hx7.cells
  obtain ⟨b0, b1⟩ := hy7.cells
  obtain ⟨p0, p1⟩ := hu7.cells
  obtain ⟨r0, r1⟩ := hv7.cells
  go_wp2_with fail
  refine (doesFitGame_any q _ n n ws m _ k k L _ hm (Known.of HI7.out) hl HLG.out).mono ?_
  rintro e w8 ⟨rfl, hb8⟩
  generalize fitV q ws n m L = z0
  generalize fitOk q ws n m L = z1
  have g8 := bfrom g7 hb8
  have hx8 := hx7.now hb8
  have hy8 := hy7.now hb8
  have hu8 := hu7.now hb8
  have hv8 := hv7.now hb8
  have HI8 := Lib.hid (HI7.out.now hb8)
  have HIG8 := Lib.hid (HIG.out.now hb8)
  clear a0 a1 b0 b1 p0 p1 r0 r1
  obtain ⟨a0, a1⟩ := hx8.cells
  obtain ⟨b0, b1⟩ := hy8.cells
  obtain ⟨p0, p1⟩ := hu8.cells
  obtain ⟨r0, r1⟩ := hv8.cells
  have K8 := Lib.hid (show ∀ W, Below w8.heap.size w8 W → (W.cell? ⟨w.heap.size, 0, none⟩ = some (.int .i64 q) ∧ W.cell? ⟨w.heap.size, 1, none⟩ = some (.slice A n cap) ∧ W.cell? ⟨w.heap.size + 1, 0, none⟩ = some (.int .i64 m) ∧ W.cell? ⟨w.heap.size + 1, 1, none⟩ = some (.slice B k capb)) ∧ (W.cell? ⟨u, 0, none⟩ = some (.int .i64 q) ∧ W.cell? ⟨u, 1, none⟩ = some (.slice (some ⟨cg, 0, none⟩) n n) ∧ W.cell? ⟨w6.heap.size, 0, none⟩ = some (.int .i64 m) ∧ W.cell? ⟨w6.heap.size, 1, none⟩ = some (.slice (some ⟨w5.heap.size + 3, 0, none⟩) k k)) from fun W hb => ⟨⟨(hx8.now hb).cells.1, (hx8.now hb).cells.2, (hy8.now hb).cells.1, (hy8.now hb).cells.2⟩, (hu8.now hb).cells.1, (hu8.now hb).cells.2, (hv8.now hb).cells.1, (hv8.now hb).cells.2⟩)
  clear hx3 hy3 hx5 hy5 hu5 hx7 hy7 hu7 hv7 hx8 hy8 hu8 hv8 g3 g5 g6 g7 b7 hb6 hb8 HLG HIG HI7 HI5 gC gB gA hbA hbB hbC HIA HLB
  go_wp2_with fail
  go_region_held3 (fun w' => w'.cell? ⟨w.heap.size, 0, none⟩ = some (.int .i64 q) ∧ w'.cell? ⟨w.heap.size, 1, none⟩ = some (.slice A n cap) ∧ w'.cell? ⟨u, 0, none⟩ = some (.int .i64 q) ∧ w'.cell? ⟨u, 1, none⟩ = some (.slice (some ⟨cg, 0, none⟩) n n))
    (first | exact ⟨c0, c1, d0, d1⟩ | exact ⟨e0, e1, f0, f1⟩ | exact ⟨a0, a1, p0, p1⟩ | go_keep)
    (first
      | (go_at_call 17; refine (toCommittee_any q A n cap ws _ hn' (HK.out.now g8.drew)).mono ?_; rintro e w9 ⟨rfl, hi9, hb9⟩; have HI9 := Lib.hid hi9.sl; clear hi9; have g9 := bfrom (Below.refl _ _).drew hb9; obtain ⟨⟨c0, c1, _, _⟩, d0, d1, _, _⟩ := K8.out _ g9)
      | (go_at_call 19; refine (eqCommittee_same q _ _ n n _ _ n ws _ hm (HI8.out.now g9) HI9.out).mono ?_; rintro e wE ⟨rfl, hbE⟩; have gE := bfrom g9 hbE; obtain ⟨⟨e0, e1, _, _⟩, f0, f1, _, _⟩ := K8.out _ gE))
  clear a0 a1 b0 b1 p0 p1 r0 r1 c0 c1 d0 d1 e0 e1 f0 f1
  obtain ⟨⟨a0, a1, b0, b1⟩, p0, p1, r0, r1⟩ := K8.out _ gE
  have hwE := gE.size
  go_wp2_with fail
  go_region_held3 (fun w' => w'.cell? ⟨w.heap.size + 1, 0, none⟩ = some (.int .i64 m) ∧ w'.cell? ⟨w.heap.size + 1, 1, none⟩ = some (.slice B k capb) ∧ w'.cell? ⟨w6.heap.size, 0, none⟩ = some (.int .i64 m) ∧ w'.cell? ⟨w6.heap.size, 1, none⟩ = some (.slice (some ⟨w5.heap.size + 3, 0, none⟩) k k))
    (first | exact ⟨c0, c1, d0, d1⟩ | exact ⟨e0, e1, f0, f1⟩ | exact ⟨b0, b1, r0, r1⟩ | go_keep)
    (first
      | (go_at_call 8; refine (HTO.out _ hnt (HKL.out.now (bfrom g8 gE.drew))).mono ?_; rintro e wF ⟨rfl, hlF, hbF⟩; have HLF := Lib.hid hlF; clear hlF; have gF := bfrom gE.drew hbF; obtain ⟨⟨_, _, c0, c1⟩, _, _, d0, d1⟩ := K8.out _ gF)
      | (go_at_call 11; refine (eqGame_v m _ _ k k k _ HLL.out (HIG8.out.now gF) HLF.out.rss0).mono ?_; rintro e wG ⟨rfl, hbG⟩; have gG := bfrom gF hbG; obtain ⟨⟨_, _, e0, e1⟩, _, _, f0, f1⟩ := K8.out _ gG))
  clear a0 a1 b0 b1 p0 p1 r0 r1 c0 c1 d0 d1 e0 e1 f0 f1
  go_wp2
  go_ret
  exact ⟨rfl, bfrom g8 gG⟩
end Go.Proofs.Ytipplbcjdcdapab
