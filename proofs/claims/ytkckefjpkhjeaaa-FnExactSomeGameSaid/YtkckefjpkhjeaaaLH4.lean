/- The walks of exact laws of functions of lists of committees. -/
import Derived.Test.YtkckefjpkhjeaaaBl
import Derived.Test.YtkckefjpkhjeaaaBb
import Derived.Test.YtkckefjpkhjeaaaK4
import Derived.Test.YtkckefjpkhjeaaaL1
namespace Go.Proofs.Ytkckefjpkhjeaaa
open Go.RowKit Vo

set_option maxHeartbeats 8000000 in
theorem lawAllGame (A : Option Addr) (n cap : Nat) (C : List (Int × List Int)) (w : World) (hm : n ≤ 9223372036854775807) (hk : KCS w A n C) :
    Calls Try.prog 6 #[.slice A n cap] w fun e w' => e = .returned (.bool true) ∧ Below w.heap.size w w' := by
  have HK := Lib.hid hk
  have HLEN := Lib.hid hk.1
  clear hk
  have HSZ := Lib.hid (fun W h => szCommitteeS_any A n cap C 1048576 W (by omega) (by omega) hm h)
  have HTO := Lib.hid (fun W hn h => toCommitteeS_any A n cap C W hn h)
  go_enter Try.func6, Try.ntmps6
  go_wp2_with fail
  refine (HSZ.out _ HK.out).mono ?_
  rintro e w1 ⟨h, g1⟩
  rcases h with rfl | ⟨hle, rfl⟩
  · go_wp2
    go_ret
    exact ⟨rfl, g1⟩
  have HNT := Lib.hid (show n + csum C n ≤ 1048576 from by omega)
  have hl : n ≤ 1048576 := by omega
  have hge : ¬ 1048576 - (n : Int) - (csum C n : Nat) < 0 := by omega
  obtain ⟨T, hT⟩ : ∃ T, T = csum C n := ⟨_, rfl⟩
  rw [← hT] at hge hle ⊢
  clear hT
  have HKC := Lib.hid (fun lo hi W (h : RCS C lo hi W) => h.kcsn HLEN.out HNT.out)
  obtain ⟨L, hL⟩ : ∃ L, L = okG (chB C) ((inOrder (nAt C 0)).filter (leastP (allP C) (nAt C 0))) := ⟨_, rfl⟩
  have HLL := Lib.hid (show tot L + L.length ≤ 1048576 from by rw [hL]; exact chGame_few C _)
  have HL := Lib.hid hL
  clear hL
  obtain ⟨N, hN⟩ : ∃ N : Nat, N = tot L := ⟨_, rfl⟩
  have hNm : N ≤ 1048576 := by have := HLL.out; omega
  have HN := Lib.hid hN
  clear hN
  obtain ⟨ln, hln⟩ : ∃ z : Nat, z = L.length := ⟨_, rfl⟩
  have hlnm : ln ≤ 1048576 := by have := HLL.out; omega
  have HLN := Lib.hid hln
  clear hln
  obtain ⟨mm, hmm⟩ : ∃ z : Int, z = okM (chB C) (nAt C 0) := ⟨_, rfl⟩
  have HM := Lib.hid hmm
  clear hmm
  obtain ⟨ok, hok⟩ : ∃ ok, ok = chB C := ⟨_, rfl⟩
  have HOKB := Lib.hid hok
  clear hok
  go_wp2_with fail
  refine (HTO.out _ HNT.out (HK.out.now g1)).mono ?_
  rintro e w2 ⟨rfl, hl2, hb2⟩
  have g2 := bfrom g1 hb2
  have hz2 := hb2.size
  have HL2 := Lib.hid hl2
  clear hl2 hle
  go_wp2_with fail
  refine (sAllGame_ans _ 0 n C _ hm (HKC.out _ _ _ HL2.out.here)).mono ?_
  rintro e w3 ⟨A3, cp3, rfl, hl3, hb3⟩
  rw [← HL.out, ← HLN.out] at hl3 ⊢
  rw [← HM.out, ← HOKB.out]
  have b3 := below1 w3 (.cells #[.int .i64 mm, .slice A3 ln cp3] 37)
  have HH3 := Lib.hid (hl3.now b3)
  have hw3 := BoxT.new 37 w3 (.int .i64 mm) (.slice A3 ln cp3)
  have g3 := bfrom (bfrom g2 hb3) b3
  have hz3 := hb3.size
  clear hl3 HL2
  go_wp2_with fail
  refine (HTO.out _ HNT.out (HK.out.now g3)).mono ?_
  rintro e w4 ⟨rfl, hl4, hb4⟩
  simp only [World.size_alloc] at hl4
  have g4 := bfrom g3 hb4
  have hz4 := hb4.size
  simp only [World.size_alloc] at hz4
  have HX4 := Lib.hid hl4
  have hw4 := hw3.now hb4
  have HH34 := Lib.hid (HH3.out.now hb4)
  clear hl4
  go_wp2_with fail
  refine (allGame_ans _ n n C _ hm (HKC.out _ _ _ HX4.out.here)).mono ?_
  rintro e w5 ⟨A5, cp5, rfl, hl5, hb5⟩
  rw [← HL.out, ← HLN.out] at hl5 ⊢
  rw [← HM.out, ← HOKB.out]
  have hz5 := hb5.size
  have b5 := below1 w5 (.cells #[.int .i64 mm, .slice A5 ln cp5] 37)
  have b45 := bfrom hb5 b5
  have g5 := bfrom g4 b45
  have hw5 := hw4.now b45
  have hv5 := BoxT.new 37 w5 (.int .i64 mm) (.slice A5 ln cp5)
  have HX5 := Lib.hid (HX4.out.now b45)
  have HH35 := Lib.hid (HH34.out.now b45)
  have HH55 := Lib.hid (hl5.now b5)
  clear hl5 hb2 g2 hb3 b3 HH3 hw3 g3 hb4 g4 hw4 HH34 HX4 hb5 b5 b45
  obtain ⟨d0, d1⟩ := hw5.cells
  obtain ⟨v0, v1⟩ := hv5.cells
  go_wp2_with fail
  refine (eqGame_v mm A5 A3 ln cp5 cp3 _ HLL.out HH55.out HH35.out).mono ?_
  rintro e w6 ⟨rfl, hb6⟩
  have g6 := bfrom g5 hb6
  have hw6 := hw5.now hb6
  have hv6 := hv5.now hb6
  have HX6 := Lib.hid (HX5.out.now hb6)
  have HH36 := Lib.hid (HH35.out.now hb6)
  have HH56 := Lib.hid (HH55.out.now hb6)
  have hz6 := hb6.size
  simp only [World.size_alloc] at hz6
  clear g5 hw5 hv5 HX5 HH35 HH55 hb6 d0 d1 v0 v1
  go_wp2_with fail
  refine (HTO.out _ HNT.out (HK.out.now g6)).mono ?_
  rintro e w7 ⟨rfl, hl7, hb7⟩
  have HY7 := Lib.hid hl7
  clear hl7
  go_wp2_with fail
  refine (eqCommitteeS_v _ _ _ _ n n n C _ HLEN.out.symm HNT.out (HX6.out.now hb7).here HY7.out.here).mono ?_
  rintro e w8 ⟨rfl, hb8⟩
  have b68 := bfrom hb7 hb8
  have g8 := bfrom g6 b68
  have hw8 := hw6.now b68
  have hv8 := hv6.now b68
  have HX8 := Lib.hid (HX6.out.now b68)
  have HH38 := Lib.hid (HH36.out.now b68)
  have HH58 := Lib.hid (HH56.out.now b68)
  have hz8 : w6.heap.size ≤ w8.heap.size := b68.size
  clear hw6 hv6 HX6 HH36 HH56 hb7 hb8 b68 g6 HY7
  go_wp2_with fail
  refine (markCommitteeS_v _ _ n n C 1 _ HLEN.out.symm HNT.out (by omega) (by have := HNT.out; omega) HX8.out.here (by omega)).mono ?_
  rintro e w9 ⟨⟨z9, hz90, rfl⟩, t9⟩
  have g9 := Turn.below g8 t9 (by have := g1.size; omega) (by have := g1.size; omega)
  have hw9 := hw8.turn t9 (by omega)
  have hv9 := hv8.turn t9 (by omega)
  have HH59 := Lib.hid (HH58.out.turn t9 (by omega))
  have HH39 := Lib.hid (HH38.out.turn t9 (by omega))
  have hz9 := t9.size
  have hz91 : ¬ z9 < 0 := by omega
  clear t9 hw8 hv8 HX8 HH38 HH58 g8
  obtain ⟨d0, d1⟩ := hw9.cells
  obtain ⟨v0, v1⟩ := hv9.cells
  go_wp2_with fail
  refine (eqGame_v mm A5 A3 ln cp5 cp3 _ HLL.out HH59.out HH39.out).mono ?_
  rintro e w10 ⟨rfl, hb10⟩
  have g10 := bfrom g9 hb10
  have hw10 := hw9.now hb10
  have hv10 := hv9.now hb10
  have HH510 := Lib.hid (HH59.out.now hb10)
  have HH310 := Lib.hid (HH39.out.now hb10)
  have hz10 := hb10.size
  clear hw9 hv9 HH59 HH39 hb10 g9 d0 d1 v0 v1
  obtain ⟨v0, v1⟩ := hv10.cells
  go_wp2_with fail
  refine (markGame_v mm A5 ln cp5 _ HLL.out HH510.out).mono ?_
  rw [← HN.out]
  rintro e w11 ⟨rfl, t11, hmk⟩
  have hh11 := HH510.out.hi_le
  have hz11 := t11.size
  have HMK := Lib.hid (hmk.lies (by omega))
  have g11 := Turn.below g10 t11 (by have := g1.size; omega) (by have := g1.size; omega)
  have hw11 := hw10.turn t11 (by omega)
  have hv11 := hv10.turn t11 (by omega)
  have HH311 := Lib.hid (HH310.out.turn t11 (by omega))
  clear hmk t11 hw10 hv10 HH510 HH310 g10 hh11 v0 v1
  obtain ⟨v0, v1⟩ := hv11.cells
  go_wp2_with fail
  refine (heldGame_v mm A5 ln cp5 _ HLL.out HMK.out).mono ?_
  rw [← HN.out]
  rintro e w12 ⟨rfl, hb12⟩
  have g12 := bfrom g11 hb12
  have hw12 := hw11.now hb12
  have hv12 := hv11.now hb12
  have HH312 := Lib.hid (HH311.out.now hb12)
  have HMK12 := Lib.hid (HMK.out.now hb12)
  clear g11 hw11 hv11 HH311 HMK hb12 v0 v1
  go_wp2_with fail
  refine (HTO.out _ HNT.out (HK.out.now g12)).mono ?_
  rintro e w13 ⟨rfl, hl13, hb13⟩
  have HX13 := Lib.hid hl13
  clear hl13
  go_wp2_with fail
  refine (allGame_ans _ n n C _ hm (HKC.out _ _ _ HX13.out.here)).mono ?_
  rintro e w14 ⟨A14, cp14, rfl, hl14, hb14⟩
  rw [← HL.out, ← HLN.out] at hl14 ⊢
  rw [← HM.out, ← HOKB.out]
  have b14 := below1 w14 (.cells #[.int .i64 mm, .slice A14 ln cp14] 37)
  have b124 := bfrom (bfrom hb13 hb14) b14
  have g14 := bfrom g12 b124
  have HH14 := Lib.hid (hl14.now b14)
  have HH314 := Lib.hid (HH312.out.now b124)
  have HMK14 := Lib.hid (HMK12.out.now b124)
  have hw14 := hw12.now b124
  have hv14 := hv12.now b124
  have hu14 := BoxT.new 37 w14 (.int .i64 mm) (.slice A14 ln cp14)
  clear hl14 hb13 hb14 b14 b124 g12 hw12 hv12 HH312 HMK12
  obtain ⟨d0, d1⟩ := hw14.cells
  obtain ⟨u0, u1⟩ := hu14.cells
  go_wp2_with fail
  refine (eqGame_v mm A14 A3 ln cp14 cp3 _ HLL.out HH14.out HH314.out).mono ?_
  rintro e w15 ⟨rfl, hb15⟩
  have g15 := bfrom g14 hb15
  have HMK15 := Lib.hid (HMK14.out.now hb15)
  have hv15 := hv14.now hb15
  clear d0 d1 u0 u1
  obtain ⟨v0, v1⟩ := hv15.cells
  go_wp2_with fail
  refine (heldGame_v mm A5 ln cp5 _ HLL.out HMK15.out).mono ?_
  rw [← HN.out]
  rintro e w16 ⟨rfl, hb16⟩
  go_wp2
  go_ret
  exact ⟨rfl, bfrom g15 hb16⟩

set_option maxHeartbeats 8000000 in
theorem lawSomeGame (A : Option Addr) (n cap : Nat) (C : List (Int × List Int)) (w : World) (hm : n ≤ 9223372036854775807) (hk : KCS w A n C) :
    Calls Try.prog 7 #[.slice A n cap] w fun e w' => e = .returned (.bool true) ∧ Below w.heap.size w w' := by
  have HK := Lib.hid hk
  have HLEN := Lib.hid hk.1
  clear hk
  have HSZ := Lib.hid (fun W h => szCommitteeS_any A n cap C 1048576 W (by omega) (by omega) hm h)
  have HTO := Lib.hid (fun W hn h => toCommitteeS_any A n cap C W hn h)
  go_enter Try.func7, Try.ntmps7
  go_wp2_with fail
  refine (HSZ.out _ HK.out).mono ?_
  rintro e w1 ⟨h, g1⟩
  rcases h with rfl | ⟨hle, rfl⟩
  · go_wp2
    go_ret
    exact ⟨rfl, g1⟩
  have HNT := Lib.hid (show n + csum C n ≤ 1048576 from by omega)
  have hl : n ≤ 1048576 := by omega
  have hge : ¬ 1048576 - (n : Int) - (csum C n : Nat) < 0 := by omega
  obtain ⟨T, hT⟩ : ∃ T, T = csum C n := ⟨_, rfl⟩
  rw [← hT] at hge hle ⊢
  clear hT
  have HKC := Lib.hid (fun lo hi W (h : RCS C lo hi W) => h.kcsn HLEN.out HNT.out)
  obtain ⟨L, hL⟩ : ∃ L, L = okG (chB C) ((inOrder (nAt C 0)).filter (leastP (someP C) (nAt C 0))) := ⟨_, rfl⟩
  have HLL := Lib.hid (show tot L + L.length ≤ 1048576 from by rw [hL]; exact chGame_few C _)
  have HL := Lib.hid hL
  clear hL
  obtain ⟨N, hN⟩ : ∃ N : Nat, N = tot L := ⟨_, rfl⟩
  have hNm : N ≤ 1048576 := by have := HLL.out; omega
  have HN := Lib.hid hN
  clear hN
  obtain ⟨ln, hln⟩ : ∃ z : Nat, z = L.length := ⟨_, rfl⟩
  have hlnm : ln ≤ 1048576 := by have := HLL.out; omega
  have HLN := Lib.hid hln
  clear hln
  obtain ⟨mm, hmm⟩ : ∃ z : Int, z = okM (chB C) (nAt C 0) := ⟨_, rfl⟩
  have HM := Lib.hid hmm
  clear hmm
  obtain ⟨ok, hok⟩ : ∃ ok, ok = chB C := ⟨_, rfl⟩
  have HOKB := Lib.hid hok
  clear hok
  go_wp2_with fail
  refine (HTO.out _ HNT.out (HK.out.now g1)).mono ?_
  rintro e w2 ⟨rfl, hl2, hb2⟩
  have g2 := bfrom g1 hb2
  have hz2 := hb2.size
  have HL2 := Lib.hid hl2
  clear hl2 hle
  go_wp2_with fail
  refine (sSomeGame_ans _ 0 n C _ hm (HKC.out _ _ _ HL2.out.here)).mono ?_
  rintro e w3 ⟨A3, cp3, rfl, hl3, hb3⟩
  rw [← HL.out, ← HLN.out] at hl3 ⊢
  rw [← HM.out, ← HOKB.out]
  have b3 := below1 w3 (.cells #[.int .i64 mm, .slice A3 ln cp3] 37)
  have HH3 := Lib.hid (hl3.now b3)
  have hw3 := BoxT.new 37 w3 (.int .i64 mm) (.slice A3 ln cp3)
  have g3 := bfrom (bfrom g2 hb3) b3
  have hz3 := hb3.size
  clear hl3 HL2
  go_wp2_with fail
  refine (HTO.out _ HNT.out (HK.out.now g3)).mono ?_
  rintro e w4 ⟨rfl, hl4, hb4⟩
  simp only [World.size_alloc] at hl4
  have g4 := bfrom g3 hb4
  have hz4 := hb4.size
  simp only [World.size_alloc] at hz4
  have HX4 := Lib.hid hl4
  have hw4 := hw3.now hb4
  have HH34 := Lib.hid (HH3.out.now hb4)
  clear hl4
  go_wp2_with fail
  refine (someGame_ans _ n n C _ hm (HKC.out _ _ _ HX4.out.here)).mono ?_
  rintro e w5 ⟨A5, cp5, rfl, hl5, hb5⟩
  rw [← HL.out, ← HLN.out] at hl5 ⊢
  rw [← HM.out, ← HOKB.out]
  have hz5 := hb5.size
  have b5 := below1 w5 (.cells #[.int .i64 mm, .slice A5 ln cp5] 37)
  have b45 := bfrom hb5 b5
  have g5 := bfrom g4 b45
  have hw5 := hw4.now b45
  have hv5 := BoxT.new 37 w5 (.int .i64 mm) (.slice A5 ln cp5)
  have HX5 := Lib.hid (HX4.out.now b45)
  have HH35 := Lib.hid (HH34.out.now b45)
  have HH55 := Lib.hid (hl5.now b5)
  clear hl5 hb2 g2 hb3 b3 HH3 hw3 g3 hb4 g4 hw4 HH34 HX4 hb5 b5 b45
  obtain ⟨d0, d1⟩ := hw5.cells
  obtain ⟨v0, v1⟩ := hv5.cells
  go_wp2_with fail
  refine (eqGame_v mm A5 A3 ln cp5 cp3 _ HLL.out HH55.out HH35.out).mono ?_
  rintro e w6 ⟨rfl, hb6⟩
  have g6 := bfrom g5 hb6
  have hw6 := hw5.now hb6
  have hv6 := hv5.now hb6
  have HX6 := Lib.hid (HX5.out.now hb6)
  have HH36 := Lib.hid (HH35.out.now hb6)
  have HH56 := Lib.hid (HH55.out.now hb6)
  have hz6 := hb6.size
  simp only [World.size_alloc] at hz6
  clear g5 hw5 hv5 HX5 HH35 HH55 hb6 d0 d1 v0 v1
  go_wp2_with fail
  refine (HTO.out _ HNT.out (HK.out.now g6)).mono ?_
  rintro e w7 ⟨rfl, hl7, hb7⟩
  have HY7 := Lib.hid hl7
  clear hl7
  go_wp2_with fail
  refine (eqCommitteeS_v _ _ _ _ n n n C _ HLEN.out.symm HNT.out (HX6.out.now hb7).here HY7.out.here).mono ?_
  rintro e w8 ⟨rfl, hb8⟩
  have b68 := bfrom hb7 hb8
  have g8 := bfrom g6 b68
  have hw8 := hw6.now b68
  have hv8 := hv6.now b68
  have HX8 := Lib.hid (HX6.out.now b68)
  have HH38 := Lib.hid (HH36.out.now b68)
  have HH58 := Lib.hid (HH56.out.now b68)
  have hz8 : w6.heap.size ≤ w8.heap.size := b68.size
  clear hw6 hv6 HX6 HH36 HH56 hb7 hb8 b68 g6 HY7
  go_wp2_with fail
  refine (markCommitteeS_v _ _ n n C 1 _ HLEN.out.symm HNT.out (by omega) (by have := HNT.out; omega) HX8.out.here (by omega)).mono ?_
  rintro e w9 ⟨⟨z9, hz90, rfl⟩, t9⟩
  have g9 := Turn.below g8 t9 (by have := g1.size; omega) (by have := g1.size; omega)
  have hw9 := hw8.turn t9 (by omega)
  have hv9 := hv8.turn t9 (by omega)
  have HH59 := Lib.hid (HH58.out.turn t9 (by omega))
  have HH39 := Lib.hid (HH38.out.turn t9 (by omega))
  have hz9 := t9.size
  have hz91 : ¬ z9 < 0 := by omega
  clear t9 hw8 hv8 HX8 HH38 HH58 g8
  obtain ⟨d0, d1⟩ := hw9.cells
  obtain ⟨v0, v1⟩ := hv9.cells
  go_wp2_with fail
  refine (eqGame_v mm A5 A3 ln cp5 cp3 _ HLL.out HH59.out HH39.out).mono ?_
  rintro e w10 ⟨rfl, hb10⟩
  have g10 := bfrom g9 hb10
  have hw10 := hw9.now hb10
  have hv10 := hv9.now hb10
  have HH510 := Lib.hid (HH59.out.now hb10)
  have HH310 := Lib.hid (HH39.out.now hb10)
  have hz10 := hb10.size
  clear hw9 hv9 HH59 HH39 hb10 g9 d0 d1 v0 v1
  obtain ⟨v0, v1⟩ := hv10.cells
  go_wp2_with fail
  refine (markGame_v mm A5 ln cp5 _ HLL.out HH510.out).mono ?_
  rw [← HN.out]
  rintro e w11 ⟨rfl, t11, hmk⟩
  have hh11 := HH510.out.hi_le
  have hz11 := t11.size
  have HMK := Lib.hid (hmk.lies (by omega))
  have g11 := Turn.below g10 t11 (by have := g1.size; omega) (by have := g1.size; omega)
  have hw11 := hw10.turn t11 (by omega)
  have hv11 := hv10.turn t11 (by omega)
  have HH311 := Lib.hid (HH310.out.turn t11 (by omega))
  clear hmk t11 hw10 hv10 HH510 HH310 g10 hh11 v0 v1
  obtain ⟨v0, v1⟩ := hv11.cells
  go_wp2_with fail
  refine (heldGame_v mm A5 ln cp5 _ HLL.out HMK.out).mono ?_
  rw [← HN.out]
  rintro e w12 ⟨rfl, hb12⟩
  have g12 := bfrom g11 hb12
  have hw12 := hw11.now hb12
  have hv12 := hv11.now hb12
  have HH312 := Lib.hid (HH311.out.now hb12)
  have HMK12 := Lib.hid (HMK.out.now hb12)
  clear g11 hw11 hv11 HH311 HMK hb12 v0 v1
  go_wp2_with fail
  refine (HTO.out _ HNT.out (HK.out.now g12)).mono ?_
  rintro e w13 ⟨rfl, hl13, hb13⟩
  have HX13 := Lib.hid hl13
  clear hl13
  go_wp2_with fail
  refine (someGame_ans _ n n C _ hm (HKC.out _ _ _ HX13.out.here)).mono ?_
  rintro e w14 ⟨A14, cp14, rfl, hl14, hb14⟩
  rw [← HL.out, ← HLN.out] at hl14 ⊢
  rw [← HM.out, ← HOKB.out]
  have b14 := below1 w14 (.cells #[.int .i64 mm, .slice A14 ln cp14] 37)
  have b124 := bfrom (bfrom hb13 hb14) b14
  have g14 := bfrom g12 b124
  have HH14 := Lib.hid (hl14.now b14)
  have HH314 := Lib.hid (HH312.out.now b124)
  have HMK14 := Lib.hid (HMK12.out.now b124)
  have hw14 := hw12.now b124
  have hv14 := hv12.now b124
  have hu14 := BoxT.new 37 w14 (.int .i64 mm) (.slice A14 ln cp14)
  clear hl14 hb13 hb14 b14 b124 g12 hw12 hv12 HH312 HMK12
  obtain ⟨d0, d1⟩ := hw14.cells
  obtain ⟨u0, u1⟩ := hu14.cells
  go_wp2_with fail
  refine (eqGame_v mm A14 A3 ln cp14 cp3 _ HLL.out HH14.out HH314.out).mono ?_
  rintro e w15 ⟨rfl, hb15⟩
  have g15 := bfrom g14 hb15
  have HMK15 := Lib.hid (HMK14.out.now hb15)
  have hv15 := hv14.now hb15
  clear d0 d1 u0 u1
  obtain ⟨v0, v1⟩ := hv15.cells
  go_wp2_with fail
  refine (heldGame_v mm A5 ln cp5 _ HLL.out HMK15.out).mono ?_
  rw [← HN.out]
  rintro e w16 ⟨rfl, hb16⟩
  go_wp2
  go_ret
  exact ⟨rfl, bfrom g15 hb16⟩

end Go.Proofs.Ytkckefjpkhjeaaa
