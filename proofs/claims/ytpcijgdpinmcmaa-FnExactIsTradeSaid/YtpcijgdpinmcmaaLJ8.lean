/- The walk of the exact law of IsTrade. -/
import Derived.Test.YtpcijgdpinmcmaaL1
import Derived.Test.YtpcijgdpinmcmaaK4
import Derived.Test.YtpcijgdpinmcmaaFc
import Derived.Test.YtpcijgdpinmcmaaFd
import Derived.BigQuiet
namespace Go.Proofs.Ytpcijgdpinmcmaa
open Go.RowKit Vo

set_option maxRecDepth 20000 in
set_option maxHeartbeats 4000000 in
theorem lawIsTrade (m : Int) (A : Option Addr) (n cap : Nat) (L : List (List Int)) (A1 : Option Addr) (n1 k1 : Nat) (L1 : List (List Int)) (A2 : Option Addr) (n2 k2 : Nat) (L2 : List (List Int)) (w : World) (hm : n ≤ 9223372036854775807) (hk : KSS w A n L) (hm1 : n1 ≤ 9223372036854775807) (hk1 : KSS w A1 n1 L1) (hm2 : n2 ≤ 9223372036854775807) (hk2 : KSS w A2 n2 L2) :
    Calls Try.prog 3 #[.agg #[.int .i64 m, .slice A n cap], .agg #[.slice A1 n1 k1, .slice A2 n2 k2]] w fun e w' => e = .returned (.bool true) ∧ Below w.heap.size w w' := by
  have HK := Lib.hid hk
  have HLEN := Lib.hid hk.1
  have HK1 := Lib.hid hk1
  have HLEN1 := Lib.hid hk1.1
  have HK2 := Lib.hid hk2
  have HLEN2 := Lib.hid hk2.1
  clear hk hk1 hk2
  have hb0 : Below w.heap.size w ((w.alloc (.cells #[.int .i64 m, .slice A n cap] 24)).alloc (.cells #[.slice A1 n1 k1, .slice A2 n2 k2] 26)) := (below1 w _).alloc (by simp) _
  have hx0 := (BoxT.new 24 w (.int .i64 m) (.slice A n cap)).alloc (.cells #[.slice A1 n1 k1, .slice A2 n2 k2] 26)
  have hy0 := BoxT.new 26 (w.alloc (.cells #[.int .i64 m, .slice A n cap] 24)) (.slice A1 n1 k1) (.slice A2 n2 k2)
  simp only [World.size_alloc] at hy0
  obtain ⟨a0, a1⟩ := hx0.cells
  have HSZ := Lib.hid (fun W h => szGame_any m A n cap L 1048576 W (by omega) (by omega) hm h)
  have HTO := Lib.hid (fun W hn h => toGame_any m A n cap L W hn h)
  have HTL := Lib.hid (fun (hn : n + tot L ≤ 1048576) => (show tot L + L.length ≤ 1048576 from by rw [HLEN.out]; omega))
  have HST := Lib.hid (fun l W h0 h1 x y => szTrade_any A1 n1 k1 L1 A2 n2 k2 L2 l W h0 h1 hm1 hm2 x y)
  have HTO2 := Lib.hid (fun W h1 h2 x y => toTrade_any A1 n1 k1 L1 A2 n2 k2 L2 W h1 h2 x y)
  have HTL1 := Lib.hid (fun (hn : n1 + tot L1 ≤ 1048576) => (show tot L1 + L1.length ≤ 1048576 from by rw [HLEN1.out]; omega))
  have HTL2 := Lib.hid (fun (hn : n2 + tot L2 ≤ 1048576) => (show tot L2 + L2.length ≤ 1048576 from by rw [HLEN2.out]; omega))
  obtain ⟨T, hT⟩ : ∃ T, T = tot L := ⟨_, rfl⟩
  obtain ⟨T1, hT1⟩ : ∃ T, T = tot L1 := ⟨_, rfl⟩
  obtain ⟨T2, hT2⟩ : ∃ T, T = tot L2 := ⟨_, rfl⟩
  rw [← hT] at HSZ HTO
  simp only [← hT1, ← hT2] at HST HTO2
  have HTT := Lib.hid hT
  have HTT1 := Lib.hid hT1
  have HTT2 := Lib.hid hT2
  clear hT hT1 hT2
  go_enter Try.func3, Try.ntmps3
  go_wp2_with fail
  refine (HSZ.out _ (HK.out.now hb0)).mono ?_
  rintro e w1 ⟨h, hb1⟩
  rcases h with rfl | ⟨hle, rfl⟩
  · go_wp2
    go_ret
    exact ⟨rfl, bfrom hb0 hb1⟩
  have hge : ¬ 1048576 - (n : Int) - (T : Int) < 0 := by omega
  have hnt : n + T ≤ 1048576 := by omega
  have hl : n ≤ 1048576 := by omega
  have HLL := Lib.hid (HTL.out (by rw [← HTT.out]; exact hnt))
  have g1 := bfrom hb0 hb1
  have hx1 := hx0.now hb1
  have hy1 := hy0.now hb1
  clear a0 a1
  obtain ⟨a0, a1⟩ := hx1.cells
  obtain ⟨b0, b1⟩ := hy1.cells
  obtain ⟨l1, hl1⟩ : ∃ z, z = 1048576 - (n : Int) - (T : Int) := ⟨_, rfl⟩
  have HS1 := Lib.hid (fun W => HST.out l1 W (by omega) (by omega))
  have hle1 : l1 ≤ 1048576 := by omega
  rw [← hl1] at hge ⊢
  clear hl1
  go_wp2_with fail
  refine (HS1.out _ (HK1.out.now g1) (HK2.out.now g1)).mono ?_
  rintro e w2 ⟨h, hb2⟩
  rcases h with rfl | ⟨hle2, rfl⟩
  · go_wp2
    go_ret
    exact ⟨rfl, bfrom g1 hb2⟩
  have hge2 : ¬ l1 - (n1 : Int) - (T1 : Int) - (n2 : Int) - (T2 : Int) < 0 := by omega
  have hnt1 : n1 + T1 ≤ 1048576 := by omega
  have hnt2 : n2 + T2 ≤ 1048576 := by omega
  have hln1 : n1 ≤ 1048576 := by omega
  have hln2 : n2 ≤ 1048576 := by omega
  have HLL1 := Lib.hid (HTL1.out (by rw [← HTT1.out]; exact hnt1))
  have HLL2 := Lib.hid (HTL2.out (by rw [← HTT2.out]; exact hnt2))
  have g2 := bfrom g1 hb2
  have hx2 := hx1.now hb2
  have hy2 := hy1.now hb2
  clear a0 a1 b0 b1
  obtain ⟨a0, a1⟩ := hx2.cells
  obtain ⟨b0, b1⟩ := hy2.cells
  have K2 := Lib.hid (show ∀ W, Below w2.heap.size w2 W → (W.cell? ⟨w.heap.size, 0, none⟩ = some (.int .i64 m) ∧ W.cell? ⟨w.heap.size, 1, none⟩ = some (.slice A n cap) ∧ W.cell? ⟨w.heap.size + 1, 0, none⟩ = some (.slice A1 n1 k1) ∧ W.cell? ⟨w.heap.size + 1, 1, none⟩ = some (.slice A2 n2 k2)) from fun W hb => ⟨(hx2.now hb).cells.1, (hx2.now hb).cells.2, (hy2.now hb).cells.1, (hy2.now hb).cells.2⟩)
  go_wp2_with fail
  go_region_held3 (fun w' => w'.cell? ⟨w.heap.size, 0, none⟩ = some (.int .i64 m) ∧ w'.cell? ⟨w.heap.size, 1, none⟩ = some (.slice A n cap) ∧ w'.cell? ⟨w.heap.size + 1, 0, none⟩ = some (.slice A1 n1 k1) ∧ w'.cell? ⟨w.heap.size + 1, 1, none⟩ = some (.slice A2 n2 k2))
    (first | exact ⟨r0, r1, r2, r3⟩ | exact ⟨s0, s1, s2, s3⟩ | exact ⟨p0, p1, p2, p3⟩ | exact ⟨a0, a1, b0, b1⟩ | go_keep)
    (first
      | (go_at_call 13; refine (HTO.out _ hnt (HK.out.now g2.drew)).mono ?_; rintro e wA ⟨rfl, hlA, hbA⟩; have HLA := Lib.hid (show ListsR wA (some ⟨w2.heap.size + 3, 0, none⟩) n L from (RSS.weak (Lies.here hlA)).listsR HLEN.out HLL.out hlA.hi_le); clear hlA; have gA := bfrom (Below.refl _ _).drew hbA; obtain ⟨r0, r1, r2, r3⟩ := K2.out _ gA)
      | (go_at_call 14; refine (HTO2.out _ hnt1 hnt2 (HK1.out.now (bfrom g2 gA)) (HK2.out.now (bfrom g2 gA))).mono ?_; rintro e wB ⟨⟨tv, rfl, t1, t2, lo1, hi1, lo2, hi2, rfl, _, _, hT1, hT2⟩, hbB⟩; have HT1 := Lib.hid (show ListsR wB (some ⟨t1, 0, none⟩) n1 L1 from (RSS.weak (Lies.here hT1)).listsR HLEN1.out HLL1.out hT1.hi_le); have HT2 := Lib.hid (show ListsR wB (some ⟨t2, 0, none⟩) n2 L2 from (RSS.weak (Lies.here hT2)).listsR HLEN2.out HLL2.out hT2.hi_le); clear hT1 hT2; have gB := bfrom gA hbB; obtain ⟨s0, s1, s2, s3⟩ := K2.out _ gB)
      | (go_at_call 12; refine (sIsTrade_any m _ n n L _ n1 n1 L1 _ n2 n2 L2 _ hl (Nat.le_refl _) hln1 hln2 (HLA.out.now hbB) HT1.out HT2.out).mono ?_; rintro e wC ⟨rfl, hbC⟩; have gC := bfrom gB hbC; obtain ⟨p0, p1, p2, p3⟩ := K2.out _ gC))
  have g3 := bfrom g2 gC
  have hx3 := hx2.now gC
  have hy3 := hy2.now gC
  clear a0 a1 b0 b1 r0 r1 r2 r3 s0 s1 s2 s3 p0 p1 p2 p3 hx0 hx1 hy0 hy1 hb0 hb1 hb2 g1 hx2 hy2
  obtain ⟨a0, a1⟩ := hx3.cells
  obtain ⟨b0, b1⟩ := hy3.cells
  go_wp2_with fail
  refine (HTO.out _ hnt (HK.out.now g3)).mono ?_
  rintro e w4 ⟨rfl, hl4, hb4⟩
  have HI4 := Lib.hid hl4
  have b5 := below1 w4 (.cells #[.int .i64 m, .slice (some ⟨wC.heap.size + 3, 0, none⟩) n n] 31)
  have g5 := bfrom (bfrom g3 hb4) b5
  have hx5 := (hx3.now hb4).now b5
  have hy5 := (hy3.now hb4).now b5
  have hu5 := BoxT.new 31 w4 (.int .i64 m) (.slice (some ⟨wC.heap.size + 3, 0, none⟩) n n)
  have HI5 := Lib.hid (HI4.out.now b5)
  have HL5 := Lib.hid (show Lists _ (some ⟨wC.heap.size + 3, 0, none⟩) n L from ((RSS.weak (Lies.here HI4.out)).lists HLEN.out HLL.out).now b5)
  clear a0 a1 b0 b1 hl4
  obtain ⟨a0, a1⟩ := hx5.cells
  obtain ⟨b0, b1⟩ := hy5.cells
  go_wp2_with fail
  obtain ⟨w5, hw5⟩ : ∃ w5, w5 = w4.alloc (.cells #[.int .i64 m, .slice (some ⟨wC.heap.size + 3, 0, none⟩) n n] 31) := ⟨_, rfl⟩
  obtain ⟨u, hu⟩ : ∃ u, u = w4.heap.size := ⟨_, rfl⟩
  obtain ⟨cg, hcg⟩ : ∃ cg, cg = wC.heap.size + 3 := ⟨_, rfl⟩
  rw [← hcg] at hw5
  rw [← hcg, ← hw5] at b5 g5 hx5 hy5 HI5 HL5 a0 a1 b0 b1
  rw [← hcg, ← hw5, ← hu] at hu5
  rw [← hcg, ← hw5, ← hu]
  clear b5 hw5 hu hcg HI4 hb4
  refine (HTO2.out _ hnt1 hnt2 (HK1.out.now g5) (HK2.out.now g5)).mono ?_
  rintro e w6 ⟨⟨tv, rfl, t1', t2', lo1', hi1', lo2', hi2', rfl, _, _, hT1, hT2⟩, hb6⟩
  have g6 := bfrom g5 hb6
  have b7 := below1 w6 (.cells #[.slice (some ⟨t1', 0, none⟩) n1 n1, .slice (some ⟨t2', 0, none⟩) n2 n2] 33)
  have HT1 := Lib.hid (hT1.now b7)
  have HT2 := Lib.hid (hT2.now b7)
  have HLT1 := Lib.hid (show Lists _ (some ⟨t1', 0, none⟩) n1 L1 from ((RSS.weak (Lies.here hT1)).lists HLEN1.out HLL1.out).now b7)
  have HLT2 := Lib.hid (show Lists _ (some ⟨t2', 0, none⟩) n2 L2 from ((RSS.weak (Lies.here hT2)).lists HLEN2.out HLL2.out).now b7)
  have g7 := bfrom g6 b7
  have hx7 := (hx5.now hb6).now b7
  have hy7 := (hy5.now hb6).now b7
  have hu7 := (hu5.now hb6).now b7
  have hv7 := BoxT.new 33 w6 (.slice (some ⟨t1', 0, none⟩) n1 n1) (.slice (some ⟨t2', 0, none⟩) n2 n2)
  have HI7 := Lib.hid ((HI5.out.now hb6).now b7)
  have HL7 := Lib.hid ((HL5.out.now hb6).now b7)
  clear a0 a1 b0 b1 hT1 hT2
  obtain ⟨a0, a1⟩ := hx7.cells
  obtain ⟨b0, b1⟩ := hy7.cells
  obtain ⟨p0, p1⟩ := hu7.cells
  obtain ⟨r0, r1⟩ := hv7.cells
  go_wp2_with fail
  refine (iIsTrade_any m _ n n L _ n1 n1 L1 _ n2 n2 L2 _ hl hln1 hln2 HL7.out HLT1.out HLT2.out).mono ?_
  rintro e w8 ⟨rfl, hb8⟩
  generalize trI m L L1 L2 = z0
  generalize goodG m L = z1
  have g8 := bfrom g7 hb8
  have hx8 := hx7.now hb8
  have hy8 := hy7.now hb8
  have hu8 := hu7.now hb8
  have hv8 := hv7.now hb8
  have HI8 := Lib.hid (HI7.out.now hb8)
  have HT18 := Lib.hid (HT1.out.now hb8)
  have HT28 := Lib.hid (HT2.out.now hb8)
  clear a0 a1 b0 b1 p0 p1 r0 r1
  obtain ⟨a0, a1⟩ := hx8.cells
  obtain ⟨b0, b1⟩ := hy8.cells
  obtain ⟨p0, p1⟩ := hu8.cells
  obtain ⟨r0, r1⟩ := hv8.cells
  have K8 := Lib.hid (show ∀ W, Below w8.heap.size w8 W → (W.cell? ⟨w.heap.size, 0, none⟩ = some (.int .i64 m) ∧ W.cell? ⟨w.heap.size, 1, none⟩ = some (.slice A n cap) ∧ W.cell? ⟨w.heap.size + 1, 0, none⟩ = some (.slice A1 n1 k1) ∧ W.cell? ⟨w.heap.size + 1, 1, none⟩ = some (.slice A2 n2 k2)) ∧ (W.cell? ⟨u, 0, none⟩ = some (.int .i64 m) ∧ W.cell? ⟨u, 1, none⟩ = some (.slice (some ⟨cg, 0, none⟩) n n) ∧ W.cell? ⟨w6.heap.size, 0, none⟩ = some (.slice (some ⟨t1', 0, none⟩) n1 n1) ∧ W.cell? ⟨w6.heap.size, 1, none⟩ = some (.slice (some ⟨t2', 0, none⟩) n2 n2)) from fun W hb => ⟨⟨(hx8.now hb).cells.1, (hx8.now hb).cells.2, (hy8.now hb).cells.1, (hy8.now hb).cells.2⟩, (hu8.now hb).cells.1, (hu8.now hb).cells.2, (hv8.now hb).cells.1, (hv8.now hb).cells.2⟩)
  clear hx3 hy3 hx5 hy5 hu5 hx7 hy7 hu7 hv7 hx8 hy8 hu8 hv8 g3 g5 g6 g7 b7 hb6 hb8 HI7 HI5 HL5 HL7 HLT1 HLT2 HT1 HT2 gC gB gA hbA hbB hbC HLA
  go_wp2_with fail
  go_region_held3 (fun w' => w'.cell? ⟨w.heap.size, 0, none⟩ = some (.int .i64 m) ∧ w'.cell? ⟨w.heap.size, 1, none⟩ = some (.slice A n cap) ∧ w'.cell? ⟨u, 0, none⟩ = some (.int .i64 m) ∧ w'.cell? ⟨u, 1, none⟩ = some (.slice (some ⟨cg, 0, none⟩) n n))
    (first | exact ⟨c0, c1, d0, d1⟩ | exact ⟨e0, e1, f0, f1⟩ | exact ⟨a0, a1, p0, p1⟩ | go_keep)
    (first
      | (go_at_call 13; refine (HTO.out _ hnt (HK.out.now g8.drew)).mono ?_; rintro e w9 ⟨rfl, hl9, hb9⟩; have HL9 := Lib.hid hl9; clear hl9; have g9 := bfrom (Below.refl _ _).drew hb9; obtain ⟨⟨c0, c1, _, _⟩, d0, d1, _, _⟩ := K8.out _ g9)
      | (go_at_call 16; refine (eqGame_v m _ _ n n n _ HLL.out (HI8.out.now g9) HL9.out.rss0).mono ?_; rintro e wE ⟨rfl, hbE⟩; have gE := bfrom g9 hbE; obtain ⟨⟨e0, e1, _, _⟩, f0, f1, _, _⟩ := K8.out _ gE))
  clear a0 a1 b0 b1 p0 p1 r0 r1 c0 c1 d0 d1 e0 e1 f0 f1
  obtain ⟨⟨a0, a1, b0, b1⟩, p0, p1, r0, r1⟩ := K8.out _ gE
  have hwE := gE.size
  go_wp2_with fail
  go_region_held3 (fun w' => w'.cell? ⟨w.heap.size + 1, 0, none⟩ = some (.slice A1 n1 k1) ∧ w'.cell? ⟨w.heap.size + 1, 1, none⟩ = some (.slice A2 n2 k2) ∧ w'.cell? ⟨w6.heap.size, 0, none⟩ = some (.slice (some ⟨t1', 0, none⟩) n1 n1) ∧ w'.cell? ⟨w6.heap.size, 1, none⟩ = some (.slice (some ⟨t2', 0, none⟩) n2 n2))
    (first | exact ⟨c0, c1, d0, d1⟩ | exact ⟨e0, e1, f0, f1⟩ | exact ⟨b0, b1, r0, r1⟩ | go_keep)
    (first
      | (go_at_call 14; refine (HTO2.out _ hnt1 hnt2 (HK1.out.now (bfrom g8 gE.drew)) (HK2.out.now (bfrom g8 gE.drew))).mono ?_; rintro e wF ⟨⟨tv, rfl, u1, u2, lu1, hu1, lu2, hu2, rfl, _, _, hU1, hU2⟩, hbF⟩; have HU1 := Lib.hid hU1; have HU2 := Lib.hid hU2; clear hU1 hU2; have gF := bfrom gE.drew hbF; obtain ⟨⟨_, _, c0, c1⟩, _, _, d0, d1⟩ := K8.out _ gF)
      | (go_at_call 17; refine (eqTrade_v _ _ _ _ n1 n2 n1 n2 n1 n2 _ HLL1.out HLL2.out (HT18.out.now gF) (HT28.out.now gF) HU1.out.rss0 HU2.out.rss0).mono ?_; rintro e wG ⟨rfl, hbG⟩; have gG := bfrom gF hbG; obtain ⟨⟨_, _, e0, e1⟩, _, _, f0, f1⟩ := K8.out _ gG))
  clear a0 a1 b0 b1 p0 p1 r0 r1 c0 c1 d0 d1 e0 e1 f0 f1
  go_wp2
  go_ret
  exact ⟨rfl, bfrom g8 gG⟩
end Go.Proofs.Ytpcijgdpinmcmaa
