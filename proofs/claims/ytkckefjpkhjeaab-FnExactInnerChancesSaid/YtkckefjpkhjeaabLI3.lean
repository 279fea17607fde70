/- The walks of exact laws of functions of lists of committees. -/
import Derived.Test.YtkckefjpkhjeaabCa
import Derived.Test.YtkckefjpkhjeaabBb
import Derived.Test.YtkckefjpkhjeaabK2
import Derived.Test.YtkckefjpkhjeaabL1
namespace Go.Proofs.Ytkckefjpkhjeaab
open Go.RowKit Vo

set_option maxHeartbeats 8000000 in
theorem lawInnerChances (A : Option Addr) (n cap : Nat) (C : List (Int × List Int)) (w : World) (hm : n ≤ 9223372036854775807) (hk : KCS w A n C) :
    Calls Try.prog 3 #[.slice A n cap] w fun e w' => e = .returned (.bool true) ∧ Below w.heap.size w w' := by
  have HK := Lib.hid hk
  have HLEN := Lib.hid hk.1
  clear hk
  have HSZ := Lib.hid (fun W h => szCommitteeS_any A n cap C 1048576 W (by omega) (by omega) hm h)
  have HTO := Lib.hid (fun W hn h => toCommitteeS_any A n cap C W hn h)
  go_enter Try.func3, Try.ntmps3
  go_wp2_with fail
  refine (HSZ.out _ HK.out).mono ?_
  rintro e w1 ⟨h, g1⟩
  rcases h with rfl | ⟨hle, rfl⟩
  · go_wp2
    go_ret
    exact ⟨rfl, g1⟩
  have HNT := Lib.hid (show n + csum C n ≤ 1048576 from by omega)
  have hl : n ≤ 1048576 := by omega
  have hge : ¬ 1048576 - (n : Int) - (csum C n : Nat) < 0 := by omega
  obtain ⟨T, hT⟩ : ∃ T, T = csum C n := ⟨_, rfl⟩
  rw [← hT] at hge hle ⊢
  clear hT
  have HKC := Lib.hid (fun lo hi W (h : RCS C lo hi W) => h.kcsn HLEN.out HNT.out)
  obtain ⟨L, hL⟩ : ∃ L, L = icA C := ⟨_, rfl⟩
  have HLL := Lib.hid (show 2 * L.length ≤ 1048576 from by rw [hL]; exact icA_len C)
  have HL := Lib.hid hL
  clear hL
  obtain ⟨N, hN⟩ : ∃ N : Nat, N = 2 * L.length := ⟨_, rfl⟩
  have hNm : N ≤ 1048576 := by have := HLL.out; omega
  have HN := Lib.hid hN
  clear hN
  obtain ⟨ok, hok⟩ : ∃ ok, ok = comsB 9 C := ⟨_, rfl⟩
  have HOKB := Lib.hid hok
  clear hok
  go_wp2_with fail
  refine (HTO.out _ HNT.out (HK.out.now g1)).mono ?_
  rintro e w2 ⟨rfl, hl2, hb2⟩
  have g2 := bfrom g1 hb2
  have hz2 := hb2.size
  have HL2 := Lib.hid hl2
  clear hl2 hle
  go_wp2_with fail
  refine (sInnerChances_ans _ 0 n C _ hm (HKC.out _ _ _ HL2.out.here) (Nat.le_trans (Nat.le_add_left _ _) HNT.out)).mono ?_
  rintro e w3 ⟨v3, rfl, hl3, hb3⟩
  rw [← HL.out] at hl3
  rw [← HOKB.out]
  have HH3 := Lib.hid hl3
  have g3 := bfrom g2 hb3
  have hz3 := hb3.size
  clear hl3 HL2
  go_wp2_with fail
  refine (HTO.out _ HNT.out (HK.out.now g3)).mono ?_
  rintro e w4 ⟨rfl, hl4, hb4⟩
  have g4 := bfrom g3 hb4
  have hz4 := hb4.size
  have HX4 := Lib.hid hl4
  have HH34 := Lib.hid (HH3.out.now hb4)
  clear hl4
  go_wp2_with fail
  refine (iInnerChances_ans _ n n C _ hm (HKC.out _ _ _ HX4.out.here) (Nat.le_trans (Nat.le_add_left _ _) HNT.out)).mono ?_
  rintro e w5 ⟨v5, rfl, hl5, hb5⟩
  rw [← HL.out] at hl5
  rw [← HOKB.out]
  have hz5 := hb5.size
  have HH5 := Lib.hid hl5
  have g5 := bfrom g4 hb5
  have HX5 := Lib.hid (HX4.out.now hb5)
  have HH35 := Lib.hid (HH34.out.now hb5)
  clear hl5 hb2 g2 hb3 HH3 g3 hb4 g4 HX4 HH34 hb5
  go_wp2_with fail
  refine (eqShareS_v _ HLL.out HH5.out.here HH35.out.here).mono ?_
  rintro e w6 ⟨rfl, hb6⟩
  have g6 := bfrom g5 hb6
  have HX6 := Lib.hid (HX5.out.now hb6)
  have HH36 := Lib.hid (HH35.out.now hb6)
  have HH56 := Lib.hid (HH5.out.now hb6)
  have hz6 := hb6.size
  clear g5 HX5 HH35 HH5 hb6
  go_wp2_with fail
  refine (HTO.out _ HNT.out (HK.out.now g6)).mono ?_
  rintro e w7 ⟨rfl, hl7, hb7⟩
  have HY7 := Lib.hid hl7
  clear hl7
  go_wp2_with fail
  refine (eqCommitteeS_v _ _ _ _ n n n C _ HLEN.out.symm HNT.out (HX6.out.now hb7).here HY7.out.here).mono ?_
  rintro e w8 ⟨rfl, hb8⟩
  have b68 := bfrom hb7 hb8
  have g8 := bfrom g6 b68
  have HX8 := Lib.hid (HX6.out.now b68)
  have HH38 := Lib.hid (HH36.out.now b68)
  have HH58 := Lib.hid (HH56.out.now b68)
  have hz8 : w6.heap.size ≤ w8.heap.size := b68.size
  clear HX6 HH36 HH56 hb7 hb8 b68 g6 HY7
  go_wp2_with fail
  refine (markCommitteeS_v _ _ n n C 1 _ HLEN.out.symm HNT.out (by omega) (by have := HNT.out; omega) HX8.out.here (by omega)).mono ?_
  rintro e w9 ⟨⟨z9, hz90, rfl⟩, t9⟩
  have g9 := Turn.below g8 t9 (by have := g1.size; omega) (by have := g1.size; omega)
  have HH59 := Lib.hid (HH58.out.turn t9 (by omega))
  have HH39 := Lib.hid (HH38.out.turn t9 (by omega))
  have hz9 := t9.size
  have hz91 : ¬ z9 < 0 := by omega
  clear t9 HX8 HH38 HH58 g8
  go_wp2_with fail
  refine (eqShareS_v _ HLL.out HH59.out.here HH39.out.here).mono ?_
  rintro e w10 ⟨rfl, hb10⟩
  have g10 := bfrom g9 hb10
  have HH510 := Lib.hid (HH59.out.now hb10)
  have HH310 := Lib.hid (HH39.out.now hb10)
  have hz10 := hb10.size
  clear HH59 HH39 hb10 g9
  go_wp2_with fail
  refine (markShareS_v 1 _ (by omega) (by omega) HLL.out HH510.out.here).mono ?_
  rw [← HN.out]
  rintro e w11 ⟨rfl, t11, hmk⟩
  have hh11 := HH510.out.hi_le
  have hz11 := t11.size
  have HMK := Lib.hid (hmk.lies (by omega))
  have g11 := Turn.below g10 t11 (by have := g1.size; omega) (by have := g1.size; omega)
  have HH311 := Lib.hid (HH310.out.turn t11 (by omega))
  clear hmk t11 HH510 HH310 g10 hh11
  go_wp2_with fail
  refine (heldShareS_v 1 _ (by omega) (by omega) HLL.out HMK.out.here).mono ?_
  rw [← HN.out]
  rintro e w12 ⟨rfl, hb12⟩
  have g12 := bfrom g11 hb12
  have HH312 := Lib.hid (HH311.out.now hb12)
  have HMK12 := Lib.hid (HMK.out.now hb12)
  clear g11 HH311 HMK hb12
  go_wp2_with fail
  refine (HTO.out _ HNT.out (HK.out.now g12)).mono ?_
  rintro e w13 ⟨rfl, hl13, hb13⟩
  have HX13 := Lib.hid hl13
  clear hl13
  go_wp2_with fail
  refine (iInnerChances_ans _ n n C _ hm (HKC.out _ _ _ HX13.out.here) (Nat.le_trans (Nat.le_add_left _ _) HNT.out)).mono ?_
  rintro e w14 ⟨v14, rfl, hl14, hb14⟩
  rw [← HL.out] at hl14
  rw [← HOKB.out]
  have b124 := bfrom hb13 hb14
  have g14 := bfrom g12 b124
  have HH14 := Lib.hid hl14
  have HH314 := Lib.hid (HH312.out.now b124)
  have HMK14 := Lib.hid (HMK12.out.now b124)
  clear hl14 hb13 hb14 b124 g12 HH312 HMK12
  go_wp2_with fail
  refine (eqShareS_v _ HLL.out HH14.out.here HH314.out.here).mono ?_
  rintro e w15 ⟨rfl, hb15⟩
  have g15 := bfrom g14 hb15
  have HMK15 := Lib.hid (HMK14.out.now hb15)
  go_wp2_with fail
  refine (heldShareS_v 1 _ (by omega) (by omega) HLL.out HMK15.out.here).mono ?_
  rw [← HN.out]
  rintro e w16 ⟨rfl, hb16⟩
  go_wp2
  go_ret
  exact ⟨rfl, bfrom g15 hb16⟩

end Go.Proofs.Ytkckefjpkhjeaab
