/- The walks of exact laws of functions of lists of committees. -/
import Derived.Test.YtkckefjpkhjeaaaBl
import Derived.Test.YtkckefjpkhjeaaaBb
import Derived.Test.YtkckefjpkhjeaaaL1
namespace Go.Proofs.Ytkckefjpkhjeaaa
open Go.RowKit Vo

set_option maxHeartbeats 8000000 in
theorem lawWinsAll (A : Option Addr) (n cap : Nat) (C : List (Int × List Int)) (A1s : Option Addr) (m1 cap1 : Nat) (xs1 : List Int) (w : World) (hm : n ≤ 9223372036854775807) (hk : KCS w A n C) (hm1 : m1 ≤ 9223372036854775807) (hk1 : Known w A1s m1 xs1) :
    Calls Try.prog 4 #[.slice A n cap, .slice A1s m1 cap1] w fun e w' => e = .returned (.bool true) ∧ Below w.heap.size w w' := by
  have HK := Lib.hid hk
  have HLEN := Lib.hid hk.1
  clear hk
  have HSZ := Lib.hid (fun W h => szCommitteeS_any A n cap C 1048576 W (by omega) (by omega) hm h)
  have HTO := Lib.hid (fun W hn h => toCommitteeS_any A n cap C W hn h)
  have HK1 := Lib.hid hk1
  clear hk1
  by_cases hn1 : 1048576 < m1
  · go_enter Try.func4, Try.ntmps4
    go_wp2
    go_ret
    exact ⟨rfl, Below.refl _ _⟩
  have hm1' : m1 ≤ 1048576 := by omega
  go_enter Try.func4, Try.ntmps4
  go_wp2_with fail
  refine (HSZ.out _ HK.out).mono ?_
  rintro e w1 ⟨h, g1⟩
  rcases h with rfl | ⟨hle, rfl⟩
  · go_wp2
    go_ret
    exact ⟨rfl, g1⟩
  have HNT := Lib.hid (show n + csum C n ≤ 1048576 from by omega)
  have hl : n ≤ 1048576 := by omega
  have hge : ¬ 1048576 - (n : Int) - (csum C n : Nat) < 0 := by omega
  obtain ⟨T, hT⟩ : ∃ T, T = csum C n := ⟨_, rfl⟩
  rw [← hT] at hge hle ⊢
  clear hT
  have HKC := Lib.hid (fun lo hi W (h : RCS C lo hi W) => h.kcsn HLEN.out HNT.out)
  go_wp2_with fail
  refine (HTO.out _ HNT.out (HK.out.now g1)).mono ?_
  rintro e w2 ⟨rfl, hl2, hb2⟩
  have g2 := bfrom g1 hb2
  have HL2 := Lib.hid hl2
  clear hl2 hle
  go_wp2_with fail
  refine (toIntS_any A1s m1 cap1 xs1 _ hm1' (HK1.out.now g2)).mono ?_
  rintro e w3 ⟨rfl, hi3, hb3⟩
  have g3 := bfrom g2 hb3
  have HL3 := Lib.hid (HL2.out.now hb3)
  have HI3_1 := Lib.hid hi3.sl
  clear hi3
  go_wp2_with fail
  refine (sWinsAll_any _ 0 n C _ 0 m1 m1 xs1 _ hm (HKC.out _ _ _ HL3.out.here) hm1 HI3_1.out).mono ?_
  rintro e w4 ⟨rfl, hb4⟩
  have g4 := bfrom g3 hb4
  clear HL2
  go_wp2_with fail
  refine (HTO.out _ HNT.out (HK.out.now g4)).mono ?_
  rintro e w5 ⟨rfl, hl5, hb5⟩
  have g5 := bfrom g4 hb5
  have HX5 := Lib.hid hl5
  clear hl5
  go_wp2_with fail
  refine (toIntS_any A1s m1 cap1 xs1 _ hm1' (HK1.out.now g5)).mono ?_
  rintro e w6 ⟨rfl, hi6, hb6⟩
  have g6 := bfrom g5 hb6
  have HX6 := Lib.hid (HX5.out.now hb6)
  have HI6_1 := Lib.hid hi6.sl
  clear hi6
  go_wp2_with fail
  refine (iWinsAll_any _ n n C _ 0 m1 m1 xs1 _ hm (HKC.out _ _ _ HX6.out.here) hm1 HI6_1.out).mono ?_
  rintro e w7 ⟨rfl, hb7⟩
  generalize (chSetB C xs1 m1 && allP C (ofK xs1 m1)) = r0
  generalize chSetB C xs1 m1 = r1
  have g7 := bfrom g6 hb7
  have HX7 := Lib.hid (HX6.out.now hb7)
  have HI7_1 := Lib.hid (HI6_1.out.now hb7)
  go_wp2_with fail
  refine (HTO.out _ HNT.out (HK.out.now g7)).mono ?_
  rintro e w8 ⟨rfl, hl8, hb8⟩
  have g8 := bfrom g7 hb8
  have HX8 := Lib.hid (HX7.out.now hb8)
  have HY8 := Lib.hid hl8
  clear hl8
  have HI8_1 := Lib.hid (HI7_1.out.now hb8)
  go_wp2_with fail
  refine (eqCommitteeS_v _ _ _ _ n n n C _ HLEN.out.symm HNT.out HX8.out.here HY8.out.here).mono ?_
  rintro e w9 ⟨rfl, hb9⟩
  have g9 := bfrom g8 hb9
  have HI9_1 := Lib.hid (HI8_1.out.now hb9)
  go_wp2_with fail
  refine (toIntS_any A1s m1 cap1 xs1 _ hm1' (HK1.out.now g9)).mono ?_
  rintro e w10 ⟨rfl, hi10, hb10⟩
  have g10 := bfrom g9 hb10
  have HJ10 := Lib.hid hi10.sl
  clear hi10
  have HSM1 := Lib.hid (sameB_yes (xs := xs1) (ys := xs1) (n := m1) (fun _ _ => rfl))
  go_wp2_with fail
  refine (eqIntS_in _ _ m1 m1 _ _ m1 xs1 xs1 _ hm1 (HI9_1.out.now hb10) HJ10.out).mono ?_
  rintro e w11 ⟨rfl, hb11⟩
  rw [HSM1.out]
  have g11 := bfrom g10 hb11
  go_wp2
  go_ret
  exact ⟨rfl, g11⟩

set_option maxHeartbeats 8000000 in
theorem lawWinsSome (A : Option Addr) (n cap : Nat) (C : List (Int × List Int)) (A1s : Option Addr) (m1 cap1 : Nat) (xs1 : List Int) (w : World) (hm : n ≤ 9223372036854775807) (hk : KCS w A n C) (hm1 : m1 ≤ 9223372036854775807) (hk1 : Known w A1s m1 xs1) :
    Calls Try.prog 5 #[.slice A n cap, .slice A1s m1 cap1] w fun e w' => e = .returned (.bool true) ∧ Below w.heap.size w w' := by
  have HK := Lib.hid hk
  have HLEN := Lib.hid hk.1
  clear hk
  have HSZ := Lib.hid (fun W h => szCommitteeS_any A n cap C 1048576 W (by omega) (by omega) hm h)
  have HTO := Lib.hid (fun W hn h => toCommitteeS_any A n cap C W hn h)
  have HK1 := Lib.hid hk1
  clear hk1
  by_cases hn1 : 1048576 < m1
  · go_enter Try.func5, Try.ntmps5
    go_wp2
    go_ret
    exact ⟨rfl, Below.refl _ _⟩
  have hm1' : m1 ≤ 1048576 := by omega
  go_enter Try.func5, Try.ntmps5
  go_wp2_with fail
  refine (HSZ.out _ HK.out).mono ?_
  rintro e w1 ⟨h, g1⟩
  rcases h with rfl | ⟨hle, rfl⟩
  · go_wp2
    go_ret
    exact ⟨rfl, g1⟩
  have HNT := Lib.hid (show n + csum C n ≤ 1048576 from by omega)
  have hl : n ≤ 1048576 := by omega
  have hge : ¬ 1048576 - (n : Int) - (csum C n : Nat) < 0 := by omega
  obtain ⟨T, hT⟩ : ∃ T, T = csum C n := ⟨_, rfl⟩
  rw [← hT] at hge hle ⊢
  clear hT
  have HKC := Lib.hid (fun lo hi W (h : RCS C lo hi W) => h.kcsn HLEN.out HNT.out)
  go_wp2_with fail
  refine (HTO.out _ HNT.out (HK.out.now g1)).mono ?_
  rintro e w2 ⟨rfl, hl2, hb2⟩
  have g2 := bfrom g1 hb2
  have HL2 := Lib.hid hl2
  clear hl2 hle
  go_wp2_with fail
  refine (toIntS_any A1s m1 cap1 xs1 _ hm1' (HK1.out.now g2)).mono ?_
  rintro e w3 ⟨rfl, hi3, hb3⟩
  have g3 := bfrom g2 hb3
  have HL3 := Lib.hid (HL2.out.now hb3)
  have HI3_1 := Lib.hid hi3.sl
  clear hi3
  go_wp2_with fail
  refine (sWinsSome_any _ 0 n C _ 0 m1 m1 xs1 _ hm (HKC.out _ _ _ HL3.out.here) hm1 HI3_1.out).mono ?_
  rintro e w4 ⟨rfl, hb4⟩
  have g4 := bfrom g3 hb4
  clear HL2
  go_wp2_with fail
  refine (HTO.out _ HNT.out (HK.out.now g4)).mono ?_
  rintro e w5 ⟨rfl, hl5, hb5⟩
  have g5 := bfrom g4 hb5
  have HX5 := Lib.hid hl5
  clear hl5
  go_wp2_with fail
  refine (toIntS_any A1s m1 cap1 xs1 _ hm1' (HK1.out.now g5)).mono ?_
  rintro e w6 ⟨rfl, hi6, hb6⟩
  have g6 := bfrom g5 hb6
  have HX6 := Lib.hid (HX5.out.now hb6)
  have HI6_1 := Lib.hid hi6.sl
  clear hi6
  go_wp2_with fail
  refine (iWinsSome_any _ n n C _ 0 m1 m1 xs1 _ hm (HKC.out _ _ _ HX6.out.here) hm1 HI6_1.out).mono ?_
  rintro e w7 ⟨rfl, hb7⟩
  generalize (chSetB C xs1 m1 && someP C (ofK xs1 m1)) = r0
  generalize chSetB C xs1 m1 = r1
  have g7 := bfrom g6 hb7
  have HX7 := Lib.hid (HX6.out.now hb7)
  have HI7_1 := Lib.hid (HI6_1.out.now hb7)
  go_wp2_with fail
  refine (HTO.out _ HNT.out (HK.out.now g7)).mono ?_
  rintro e w8 ⟨rfl, hl8, hb8⟩
  have g8 := bfrom g7 hb8
  have HX8 := Lib.hid (HX7.out.now hb8)
  have HY8 := Lib.hid hl8
  clear hl8
  have HI8_1 := Lib.hid (HI7_1.out.now hb8)
  go_wp2_with fail
  refine (eqCommitteeS_v _ _ _ _ n n n C _ HLEN.out.symm HNT.out HX8.out.here HY8.out.here).mono ?_
  rintro e w9 ⟨rfl, hb9⟩
  have g9 := bfrom g8 hb9
  have HI9_1 := Lib.hid (HI8_1.out.now hb9)
  go_wp2_with fail
  refine (toIntS_any A1s m1 cap1 xs1 _ hm1' (HK1.out.now g9)).mono ?_
  rintro e w10 ⟨rfl, hi10, hb10⟩
  have g10 := bfrom g9 hb10
  have HJ10 := Lib.hid hi10.sl
  clear hi10
  have HSM1 := Lib.hid (sameB_yes (xs := xs1) (ys := xs1) (n := m1) (fun _ _ => rfl))
  go_wp2_with fail
  refine (eqIntS_in _ _ m1 m1 _ _ m1 xs1 xs1 _ hm1 (HI9_1.out.now hb10) HJ10.out).mono ?_
  rintro e w11 ⟨rfl, hb11⟩
  rw [HSM1.out]
  have g11 := bfrom g10 hb11
  go_wp2
  go_ret
  exact ⟨rfl, g11⟩

end Go.Proofs.Ytkckefjpkhjeaaa
