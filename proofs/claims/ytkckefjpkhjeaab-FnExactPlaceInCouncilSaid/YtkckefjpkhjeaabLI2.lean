/- The walks of exact laws of functions of lists of committees. -/
import Derived.Test.YtkckefjpkhjeaabBy
import Derived.Test.YtkckefjpkhjeaabBb
import Derived.Test.YtkckefjpkhjeaabL1
namespace Go.Proofs.Ytkckefjpkhjeaab
open Go.RowKit Vo

set_option maxHeartbeats 8000000 in
theorem lawPlaceInCouncil (A : Option Addr) (n cap : Nat) (C : List (Int × List Int)) (x1 : Int) (w : World) (hm : n ≤ 9223372036854775807) (hk : KCS w A n C) (hx1w : (Lit.int .i64 x1).wf = true) :
    Calls Try.prog 4 #[.slice A n cap, .int .i64 x1] w fun e w' => e = .returned (.bool true) ∧ Below w.heap.size w w' := by
  have HK := Lib.hid hk
  have HLEN := Lib.hid hk.1
  clear hk
  have HSZ := Lib.hid (fun W h => szCommitteeS_any A n cap C 1048576 W (by omega) (by omega) hm h)
  have HTO := Lib.hid (fun W hn h => toCommitteeS_any A n cap C W hn h)
  go_enter Try.func4, Try.ntmps4
  go_wp2_with fail
  refine (HSZ.out _ HK.out).mono ?_
  rintro e w1 ⟨h, g1⟩
  rcases h with rfl | ⟨hle, rfl⟩
  · go_wp2
    go_ret
    exact ⟨rfl, g1⟩
  have HNT := Lib.hid (show n + csum C n ≤ 1048576 from by omega)
  have hl : n ≤ 1048576 := by omega
  have hge : ¬ 1048576 - (n : Int) - (csum C n : Nat) < 0 := by omega
  obtain ⟨T, hT⟩ : ∃ T, T = csum C n := ⟨_, rfl⟩
  rw [← hT] at hge hle ⊢
  clear hT
  have HKC := Lib.hid (fun lo hi W (h : RCS C lo hi W) => h.kcsn HLEN.out HNT.out)
  go_wp2_with fail
  refine (HTO.out _ HNT.out (HK.out.now g1)).mono ?_
  rintro e w2 ⟨rfl, hl2, hb2⟩
  have g2 := bfrom g1 hb2
  have hz2 := hb2.size
  have HL2 := Lib.hid hl2
  clear hl2 hle
  go_wp2_with fail
  refine (sPlaceInCouncil_any _ 0 n C x1 _ hm (HKC.out _ _ _ HL2.out.here) hx1w (Nat.le_trans (Nat.le_add_left _ _) HNT.out)).mono ?_
  rintro e w3 ⟨rfl, hb3⟩
  have g3 := bfrom g2 hb3
  clear HL2
  go_wp2_with fail
  refine (HTO.out _ HNT.out (HK.out.now g3)).mono ?_
  rintro e w4 ⟨rfl, hl4, hb4⟩
  have g4 := bfrom g3 hb4
  have HX4 := Lib.hid hl4
  clear hl4
  go_wp2_with fail
  refine (iPlaceInCouncil_any _ n n C x1 _ hm (HKC.out _ _ _ HX4.out.here) hx1w (Nat.le_trans (Nat.le_add_left _ _) HNT.out)).mono ?_
  rintro e w5 ⟨rfl, hb5⟩
  generalize ((plT C n x1 : Nat) : Int) = r0
  generalize ((plR C n x1 : Nat) : Int) = r1
  generalize plB C n x1 = r2
  have g5 := bfrom g4 hb5
  have HX5 := Lib.hid (HX4.out.now hb5)
  go_wp2_with fail
  refine (HTO.out _ HNT.out (HK.out.now g5)).mono ?_
  rintro e w6 ⟨rfl, hl6, hb6⟩
  have g6 := bfrom g5 hb6
  have HX6 := Lib.hid (HX5.out.now hb6)
  have HY6 := Lib.hid hl6
  clear hl6
  go_wp2_with fail
  refine (eqCommitteeS_v _ _ _ _ n n n C _ HLEN.out.symm HNT.out HX6.out.here HY6.out.here).mono ?_
  rintro e w7 ⟨rfl, hb7⟩
  have g7 := bfrom g6 hb7
  go_wp2
  go_ret
  exact ⟨rfl, g7⟩

end Go.Proofs.Ytkckefjpkhjeaab
