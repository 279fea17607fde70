/- The walks of exact laws of functions of a committee and a list of committees. -/
import Derived.Test.YtkckefjpkhjeaaaBt
import Derived.Test.YtkckefjpkhjeaaaBr
import Derived.Test.YtkckefjpkhjeaaaBu
import Derived.Test.YtkckefjpkhjeaaaBb
import Derived.Test.YtkckefjpkhjeaaaK4
import Derived.Test.YtkckefjpkhjeaaaL1
namespace Go.Proofs.Ytkckefjpkhjeaaa
open Go.RowKit Vo

set_option maxHeartbeats 16000000 in
theorem lawCouncilGame (q : Int) (A : Option Addr) (n cap : Nat) (ws : List Int) (A2 : Option Addr) (k cap2 : Nat) (C : List (Int × List Int)) (w : World) (hm : n ≤ 9223372036854775807) (hk : Known w A n ws) (hm2 : k ≤ 9223372036854775807) (hk2 : KCS w A2 k C) :
    Calls Try.prog 12 #[.agg #[.int .i64 q, .slice A n cap], .slice A2 k cap2] w fun e w' => e = .returned (.bool true) ∧ Below w.heap.size w w' := by
  have HK := Lib.hid hk
  have HK2 := Lib.hid hk2
  have HLEN := Lib.hid hk2.1
  clear hk hk2
  have hx0 := BoxT.new 44 w (.int .i64 q) (.slice A n cap)
  have g0 := below1 w (.cells #[.int .i64 q, .slice A n cap] 44)
  have HSZ := Lib.hid (fun left W h0 h1 h => szCommitteeS_any A2 k cap2 C left W h0 h1 hm2 h)
  have HTO := Lib.hid (fun W hn h => toCommitteeS_any A2 k cap2 C W hn h)
  obtain ⟨T, hT⟩ : ∃ T, T = csum C k := ⟨_, rfl⟩
  rw [← hT] at HSZ HTO
  have HT := Lib.hid hT
  clear hT
  go_enter Try.func12, Try.ntmps12
  obtain ⟨c0, c1⟩ := hx0.cells
  go_wp2_with fail
  refine (szCommittee_left _ A n cap 1048576 _ hm (by omega) (by omega)).mono ?_
  rintro e w1 ⟨he, hb1⟩
  have g1 := bfrom g0 hb1
  have hx1 := hx0.now hb1
  clear c0 c1
  rcases he with ⟨rfl, hlo⟩ | ⟨hn', rfl⟩
  · go_wp2
    go_ret
    exact ⟨rfl, g1⟩
  have hge1 : ¬ 1048576 - (n : Int) < 0 := by omega
  go_wp2_with fail
  refine (HSZ.out (1048576 - n) _ (by omega) (by omega) (HK2.out.now g1)).mono ?_
  rintro e w2 ⟨he, hb2⟩
  have g2 := bfrom g1 hb2
  have hx2 := hx1.now hb2
  rcases he with rfl | ⟨hle, rfl⟩
  · go_wp2
    go_ret
    exact ⟨rfl, g2⟩
  have hge2 : ¬ 1048576 - (n : Int) - (k : Int) - (T : Int) < 0 := by omega
  have hzw : w.heap.size < w2.heap.size := hx2.lt
  have HNT := Lib.hid (show k + T ≤ 1048576 from by omega)
  have HNT2 := Lib.hid (show k + csum C k ≤ 1048576 from by have := HT.out; omega)
  have HCT := Lib.hid (show csum C k ≤ 1048576 from by have := HT.out; omega)
  have hl : k ≤ 1048576 := by omega
  have hn20 : n ≤ 1048576 := by omega
  have HKC := Lib.hid (fun lo hi W (h : RCS C lo hi W) => h.kcsn HLEN.out HNT2.out)
  clear hle hn'
  obtain ⟨L, hL⟩ : ∃ L, L = okG (cnB q ws n C) ((inOrder (csum C n)).filter (leastP (councilP q ws n C) (csum C n))) := ⟨_, rfl⟩
  have HLL := Lib.hid (show tot L + L.length ≤ 1048576 from by rw [hL]; exact council_few q ws n C _)
  have HL := Lib.hid hL
  clear hL
  obtain ⟨N, hN⟩ : ∃ N : Nat, N = tot L := ⟨_, rfl⟩
  have hNm : N ≤ 1048576 := by have := HLL.out; omega
  have HN := Lib.hid hN
  clear hN
  obtain ⟨ln, hln⟩ : ∃ z : Nat, z = L.length := ⟨_, rfl⟩
  have hlnm : ln ≤ 1048576 := by have := HLL.out; omega
  have HLN := Lib.hid hln
  clear hln
  obtain ⟨mm, hmm⟩ : ∃ z : Int, z = okM (cnB q ws n C) (csum C n : Nat) := ⟨_, rfl⟩
  have HM := Lib.hid hmm
  clear hmm
  obtain ⟨ok, hok⟩ : ∃ ok, ok = cnB q ws n C := ⟨_, rfl⟩
  have HOKB := Lib.hid hok
  clear hok
  obtain ⟨c0, c1⟩ := hx2.cells
  go_wp2_with fail
  refine (toCommittee_any q A n cap ws _ hn20 (HK.out.now g2)).mono ?_
  rintro e w3 ⟨rfl, hi3, hb3⟩
  have g3 := bfrom g2 hb3
  have hx3 := hx2.now hb3
  have HI3 := Lib.hid hi3.sl
  have hz3 := hb3.size
  clear hi3 c0 c1
  go_wp2_with fail
  refine (HTO.out _ HNT.out (HK2.out.now g3)).mono ?_
  rintro e w4 ⟨rfl, hl4, hb4⟩
  have g4 := bfrom g3 hb4
  have hx4 := hx3.now hb4
  have HL4 := Lib.hid hl4
  have HI4 := Lib.hid (HI3.out.now hb4)
  have hz4 := hb4.size
  clear hl4
  go_wp2_with fail
  refine (sCouncilGame_ans q _ n n ws _ k k C _ hm (Known.of HI4.out) hm2 (HKC.out _ _ _ HL4.out.here) HCT.out).mono ?_
  rintro e w5 ⟨A5, cp5, rfl, hl5, hb5⟩
  rw [← HL.out, ← HLN.out] at hl5 ⊢
  rw [← HM.out, ← HOKB.out]
  have g5 := bfrom g4 hb5
  have hx5 := hx4.now hb5
  have hz5 := hb5.size
  have b5 := below1 w5 (.cells #[.int .i64 mm, .slice A5 ln cp5] 37)
  have HW := Lib.hid (hl5.now b5)
  have hw := BoxT.new 37 w5 (.int .i64 mm) (.slice A5 ln cp5)
  have g5 := bfrom g5 b5
  have hx5 := hx5.now b5
  clear hl5
  clear HL4 HI4 HI3 hb1 hb2 hb3 hb4 hb5 hx0 hx1 hx2 hx3 hx4 g1 g2 g3 g4 g0
  obtain ⟨c0, c1⟩ := hx5.cells
  go_wp2_with fail
  refine (toCommittee_any q A n cap ws _ hn20 (HK.out.now g5)).mono ?_
  rintro e w6 ⟨rfl, hi6, hb6⟩
  try simp only [World.size_alloc] at hi6
  have hz6 : w5.heap.size + 1 + 3 < w6.heap.size := hi6.lt
  have b6 := below1 w6 (.cells #[.int .i64 q, .slice (some ⟨w5.heap.size + 1 + 3, 0, none⟩) n n] 47)
  have g6 := bfrom (bfrom g5 hb6) b6
  have hx6 := (hx5.now hb6).now b6
  have hy6 := Box.new w6 (.int .i64 q) (.slice (some ⟨w5.heap.size + 1 + 3, 0, none⟩) n n)
  have HI6 := Lib.hid (Own.below hi6 b6 hi6.lt)
  have HW := Lib.hid (HW.out.now hb6)
  have hw := hw.now hb6
  have HW := Lib.hid (HW.out.now b6)
  have hw := hw.now b6
  clear hi6 c0 c1
  go_wp2_with fail
  refine (HTO.out _ HNT.out (HK2.out.now g6)).mono ?_
  rintro e w7 ⟨rfl, hl7, hb7⟩
  simp only [World.size_alloc] at hl7
  have g7 := bfrom g6 hb7
  have hx7 := hx6.now hb7
  have hy7 := hy6.now hb7
  have HI7 := Lib.hid (Own.below HI6.out hb7 HI6.out.lt)
  have HX7 := Lib.hid hl7
  have hz7 := hb7.size
  simp only [World.size_alloc] at hz7
  have HW := Lib.hid (HW.out.now hb7)
  have hw := hw.now hb7
  clear hl7
  obtain ⟨d0, d1⟩ := hy7.cells
  go_wp2_with fail
  refine (iCouncilGame_ans q _ n n ws _ k k C _ hm (Known.of (Ints.sl HI7.out)) hm2 (HKC.out _ _ _ HX7.out.here) HCT.out).mono ?_
  rintro e w8 ⟨A8, cp8, rfl, hl8, hb8⟩
  rw [← HL.out, ← HLN.out] at hl8 ⊢
  rw [← HM.out, ← HOKB.out]
  have g8 := bfrom g7 hb8
  have hx8 := hx7.now hb8
  have hy8 := hy7.now hb8
  have HI8 := Lib.hid (Own.below HI7.out hb8 HI7.out.lt)
  have HX8 := Lib.hid (HX7.out.now hb8)
  have hz8 := hb8.size

  have HW := Lib.hid (HW.out.now hb8)
  have hw := hw.now hb8
  clear d0 d1
  have b8 := below1 w8 (.cells #[.int .i64 mm, .slice A8 ln cp8] 37)
  have HV := Lib.hid (hl8.now b8)
  have hv := BoxT.new 37 w8 (.int .i64 mm) (.slice A8 ln cp8)
  have g8 := bfrom g8 b8
  have hx8 := hx8.now b8
  have hy8 := hy8.now b8
  have HI8 := Lib.hid (Own.below HI8.out b8 HI8.out.lt)
  have HX8 := Lib.hid (HX8.out.now b8)
  have HW := Lib.hid (HW.out.now b8)
  have hw := hw.now b8
  clear hl8
  clear g5 g6 g7 hx5 hx6 hx7 hy6 hy7 HI6 HI7 HX7 hb6 hb7 hb8 b6
  obtain ⟨d0, d1⟩ := hw.cells
  obtain ⟨v0, v1⟩ := hv.cells
  go_wp2_with fail
  refine (eqGame_v mm A8 A5 ln cp8 cp5 _ HLL.out HV.out HW.out).mono ?_
  rintro e w9 ⟨rfl, hb9⟩
  have g9 := bfrom g8 hb9
  have hx9 := hx8.now hb9
  have hy9 := hy8.now hb9
  have HI9 := Lib.hid (Own.below HI8.out hb9 HI8.out.lt)
  have HX9 := Lib.hid (HX8.out.now hb9)
  have hz9 := hb9.size
  try simp only [World.size_alloc] at hz9
  have HW := Lib.hid (HW.out.now hb9)
  have hw := hw.now hb9
  have HV := Lib.hid (HV.out.now hb9)
  have hv := hv.now hb9
  clear hb9 g8 hx8 hy8 HI8 HX8 d0 d1 v0 v1
  obtain ⟨c0, c1⟩ := hx9.cells
  obtain ⟨d0, d1⟩ := hy9.cells
  go_wp2_with fail
  go_region_held3 (fun w' => w'.cell? ⟨w.heap.size, 0, none⟩ = some (.int .i64 q) ∧ w'.cell? ⟨w.heap.size, 1, none⟩ = some (.slice A n cap) ∧ w'.cell? ⟨w6.heap.size, 0, none⟩ = some (.int .i64 q) ∧ w'.cell? ⟨w6.heap.size, 1, none⟩ = some (.slice (some ⟨w5.heap.size + 1 + 3, 0, none⟩) n n))
    (first | exact ⟨c0, c1, d0, d1⟩ | exact ⟨c80, c81, d80, d81⟩ | exact ⟨c90, c91, d90, d91⟩ | go_keep)
    (first
      | (go_at_call 36; refine (toCommittee_any q A n cap ws _ hn20 (HK.out.now g9.drew)).mono ?_; rintro e w10 ⟨rfl, hi10, hb10⟩; have HI10 := Lib.hid hi10; clear hi10; obtain ⟨c80, c81⟩ := (hx9.drew.now hb10).cells; obtain ⟨d80, d81⟩ := (hy9.drew.now hb10).cells)
      | (go_at_call 38; refine (eqCommittee_same q _ _ n n _ _ n ws _ hm ((Ints.sl HI9.out).drew.now hb10) HI10.out.sl).mono ?_; rintro e w11 ⟨rfl, hb11⟩; obtain ⟨c90, c91⟩ := ((hx9.drew.now hb10).now hb11).cells; obtain ⟨d90, d91⟩ := ((hy9.drew.now hb10).now hb11).cells)
      | fail)
  have b11 := bfrom hb10 hb11
  have g11 := bfrom g9.drew b11
  have hx11 := hx9.drew.now b11
  have hy11 := hy9.drew.now b11
  have HI11 := Lib.hid (Own.below (Own.drew HI9.out) b11 (Own.drew HI9.out).lt)
  have HX11 := Lib.hid (HX9.out.drew.now b11)
  have hz11 : w9.heap.size ≤ w11.heap.size := by have := b11.size; simpa using this

  have HW := Lib.hid (HW.out.drew.now b11)
  have HV := Lib.hid (HV.out.drew.now b11)
  have hw := hw.drew.now b11
  have hv := hv.drew.now b11
  clear c0 c1 d0 d1 c80 c81 d80 d81 c90 c91 d90 d91 hx9 hy9 HI9 HX9 hb10 hb11 b11 g9 HI10
  go_wp2_with fail
  refine (HTO.out _ HNT.out (HK2.out.now g11)).mono ?_
  rintro e w12 ⟨rfl, hl12, hb12⟩
  have HY12 := Lib.hid hl12
  clear hl12
  go_wp2_with fail
  refine (eqCommitteeS_v _ _ _ _ k k k C _ HLEN.out.symm HNT2.out (HX11.out.now hb12).here HY12.out.here).mono ?_
  rintro e w13 ⟨rfl, hb13⟩
  have b13 := bfrom hb12 hb13
  have g13 := bfrom g11 b13
  have hz13 : w11.heap.size ≤ w13.heap.size := b13.size

  have hx13 := hx11.now b13
  have hy13 := hy11.now b13
  have HI13 := Lib.hid (Own.below HI11.out b13 HI11.out.lt)
  have HX13 := Lib.hid (HX11.out.now b13)
  have HW := Lib.hid (HW.out.now b13)
  have hw := hw.now b13
  have HV := Lib.hid (HV.out.now b13)
  have hv := hv.now b13
  clear hx11 hy11 HI11 HX11 hb12 hb13 b13 g11 HY12
  obtain ⟨d0, d1⟩ := hy13.cells
  go_wp2_with fail
  refine (markCommittee_any _ _ n n _ hn20 (Or.inr ⟨_, _, rfl, HI13.out⟩)).mono ?_
  rintro e w14 ⟨rfl, ho14⟩
  have t14 : Turn (w5.heap.size + 1 + 3) (w5.heap.size + 1 + 4) w13 w14 := Turn.of_grown ho14 (fun z hz => by simp at hz; omega)
  have g14 := Turn.below g13 t14 (by have := hx13.lt; omega) (by have := hx13.lt; omega)
  have hx14 := hx13.turn t14 (by omega)
  have HX14 := Lib.hid (HX13.out.turn t14 (by omega))
  have HW := Lib.hid (HW.out.turn t14 (by omega))
  have HV := Lib.hid (HV.out.turn t14 (by omega))
  have hz14 := t14.size
  have hw := hw.turn t14 (by omega)
  have hv := hv.turn t14 (by omega)
  clear ho14 t14 hx13 hy13 HI13 HX13 g13 d0 d1
  go_wp2_with fail
  refine (markCommitteeS_w _ _ k k C (1 + n) _ HLEN.out.symm HNT2.out (by omega) (by have := HT.out; omega) HX14.out.here).mono ?_
  rintro e w15 ⟨⟨z15, hz150, rfl⟩, t15⟩
  have g15 := Turn.below g14 t15 (by have := hx14.lt; omega) (by have := hx14.lt; omega)
  have hx15 := hx14.turn t15 (by omega)
  have HW := Lib.hid (HW.out.turn t15 (by omega))
  have HV := Lib.hid (HV.out.turn t15 (by omega))
  have hz15 := t15.size
  have hz151 : ¬ z15 < 0 := by omega
  have hw := hw.turn t15 (by omega)
  have hv := hv.turn t15 (by omega)
  clear t15 hx14 HX14 g14
  obtain ⟨d0, d1⟩ := hw.cells
  obtain ⟨v0, v1⟩ := hv.cells
  go_wp2_with fail
  refine (eqGame_v mm A8 A5 ln cp8 cp5 _ HLL.out HV.out HW.out).mono ?_
  rintro e w16 ⟨rfl, hb16⟩
  have g16 := bfrom g15 hb16
  have hx16 := hx15.now hb16
  have HW := Lib.hid (HW.out.now hb16)
  have hw := hw.now hb16
  have HV := Lib.hid (HV.out.now hb16)
  have hv := hv.now hb16
  have hz16 := hb16.size
  clear hb16 g15 hx15 d0 d1 v0 v1
  obtain ⟨v0, v1⟩ := hv.cells
  go_wp2_with fail
  refine (markGame_v mm A8 ln cp8 _ HLL.out HV.out).mono ?_
  rw [← HN.out]
  rintro e w17 ⟨rfl, t17, hmk⟩
  have hh17 := HV.out.hi_le
  have hz17 := t17.size
  have HMK := Lib.hid (hmk.lies (by omega))
  have g17 := Turn.below g16 t17 (by have := hx16.lt; omega) (by have := hx16.lt; omega)
  have hx17 := hx16.turn t17 (by omega)
  have HW := Lib.hid (HW.out.turn t17 (by omega))
  have hw := hw.turn t17 (by omega)
  have hv := hv.turn t17 (by omega)
  clear v0 v1
  obtain ⟨v0, v1⟩ := hv.cells
  clear hmk t17 hx16 HV g16 hh17
  go_wp2_with fail
  refine (heldGame_v mm A8 ln cp8 _ HLL.out HMK.out).mono ?_
  rw [← HN.out]
  rintro e w18 ⟨rfl, hb18⟩
  have g18 := bfrom g17 hb18
  have hx18 := hx17.now hb18
  have HW := Lib.hid (HW.out.now hb18)
  have hw := hw.now hb18
  have HMK := Lib.hid (HMK.out.now hb18)
  have hv := hv.now hb18
  clear hb18 g17 hx17 v0 v1
  obtain ⟨c0, c1⟩ := hx18.cells
  go_wp2_with fail
  refine (toCommittee_any q A n cap ws _ hn20 (HK.out.now g18)).mono ?_
  rintro e w19 ⟨rfl, hi19, hb19⟩
  have g19 := bfrom g18 hb19
  have HI19 := Lib.hid hi19.sl
  have HW := Lib.hid (HW.out.now hb19)
  have hw := hw.now hb19
  have HMK := Lib.hid (HMK.out.now hb19)
  have hv := hv.now hb19
  clear hi19 c0 c1
  go_wp2_with fail
  refine (HTO.out _ HNT.out (HK2.out.now g19)).mono ?_
  rintro e w20 ⟨rfl, hl20, hb20⟩
  have g20 := bfrom g19 hb20
  have HX20 := Lib.hid hl20
  have HI20 := Lib.hid (HI19.out.now hb20)
  have HW := Lib.hid (HW.out.now hb20)
  have hw := hw.now hb20
  have HMK := Lib.hid (HMK.out.now hb20)
  have hv := hv.now hb20
  clear hl20
  go_wp2_with fail
  refine (iCouncilGame_ans q _ n n ws _ k k C _ hm (Known.of HI20.out) hm2 (HKC.out _ _ _ HX20.out.here) HCT.out).mono ?_
  rintro e w21 ⟨A21, cp21, rfl, hl21, hb21⟩
  rw [← HL.out, ← HLN.out] at hl21 ⊢
  rw [← HM.out, ← HOKB.out]
  have b21 := below1 w21 (.cells #[.int .i64 mm, .slice A21 ln cp21] 37)
  have g21 := bfrom (bfrom g20 hb21) b21
  have HU := Lib.hid (hl21.now b21)
  have hu := BoxT.new 37 w21 (.int .i64 mm) (.slice A21 ln cp21)
  have HW := Lib.hid (HW.out.now hb21)
  have hw := hw.now hb21
  have HW := Lib.hid (HW.out.now b21)
  have hw := hw.now b21
  have HMK := Lib.hid (HMK.out.now hb21)
  have HMK := Lib.hid (HMK.out.now b21)
  have hv := (hv.now hb21).now b21
  clear hl21 hb21 b21
  obtain ⟨d0, d1⟩ := hw.cells
  obtain ⟨u0, u1⟩ := hu.cells
  go_wp2_with fail
  refine (eqGame_v mm A21 A5 ln cp21 cp5 _ HLL.out HU.out HW.out).mono ?_
  rintro e w22 ⟨rfl, hb22⟩
  have g22 := bfrom g21 hb22
  have HMK := Lib.hid (HMK.out.now hb22)
  have hv := hv.now hb22
  clear d0 d1 u0 u1
  obtain ⟨v0, v1⟩ := hv.cells
  go_wp2_with fail
  refine (heldGame_v mm A8 ln cp8 _ HLL.out HMK.out).mono ?_
  rw [← HN.out]
  rintro e w23 ⟨rfl, hb23⟩
  go_wp2
  go_ret
  exact ⟨rfl, bfrom g22 hb23⟩

end Go.Proofs.Ytkckefjpkhjeaaa
