/- Contract of the program's SpareOf. -/
import Derived.Test.YtkeiojfnjgjliaaWi
import Derived.Deep.RegionHeld3
namespace Go.Proofs.Ytkeiojfnjgjliaa
open Go.RowKit Vo

set_option maxRecDepth 20000 in
set_option maxHeartbeats 4000000 in
theorem spareOf_any (q : Int) (A : Option Addr) (n cap : Nat) (ws : List Int) (w : World) (hm : n ≤ 9223372036854775807) (hk : Known w A n ws) :
    Calls Try.prog 44 #[.agg #[.int .i64 q, .slice A n cap]] w fun e w' => e = .returned (.tuple #[.int .i64 (spareX q ws n), .int .i64 (spareY q ws n), .bool (goodB q ws n)]) ∧ Below w.heap.size w w' := by
  have HK := Lib.hid hk
  clear hk
  have hb0 := below1 w (.cells #[.int .i64 q, .slice A n cap] 32)
  have hx := Box.new w (.int .i64 q) (.slice A n cap)
  by_cases hg : Vo.Good q ws n
  · obtain ⟨b, off, rfl, hsl⟩ := HK.out.get hg.lo
    have HSL := Lib.hid hsl
    have HG := Lib.hid hg
    have HGB := Lib.hid (goodB_true hg)
    have HOK := Lib.hid hg.ok
    have hn9 := hg.hi
    have hn1 := hg.lo
    have hq1 := hg.q1
    have hq2 := hg.q2
    have htot := hg.tot
    have hn10 : n < 10 := by omega
    have hpos := Nat.two_pow_pos n
    rw [spareX_yes HGB.out, spareY_yes HGB.out, HGB.out]
    obtain ⟨p, hp⟩ : ∃ p, p = winB q ws n := ⟨_, rfl⟩
    have hfull : p (2^n - 1) = true := by rw [hp]; exact win_full hg
    have HWL := Lib.hid (winL_pos hn9 (s := 2^n - 1) (by omega) hfull)
    have HRU := Lib.hid (fun (W : World) (h : Sl W b off n ws) => (show Rule p n 32 (.agg #[.int .i64 q, .slice (some ⟨b, off, none⟩) n cap]) 101 100 W from by rw [hp]; exact comRule q b off n cap ws W hn10 HOK.out h))
    have hw5 := winL_512 p n hn9
    have hl5 := loseL_512 p n hn9
    have hlo := lowK_bd HOK.out hn9 (winL p n) ((winL p n).length - 1)
    have hhi := highK_bd HOK.out hn9 (loseL p n) (loseL p n).length
    have HLO := Lib.hid (show lowK ws n (winL p n) ((winL p n).length - 1) = lowS p ws n from rfl)
    have HHI := Lib.hid (show highK ws n (loseL p n) (loseL p n).length = highS p ws n from rfl)
    rw [HLO.out] at hlo
    rw [HHI.out] at hhi
    rw [← hp]
    have HLOW := Lib.hid (show lowS p ws n = lowS p ws n from rfl)
    obtain ⟨lo, hlo'⟩ : ∃ lo, lo = lowS p ws n := ⟨_, rfl⟩
    obtain ⟨hi, hhi'⟩ : ∃ hi, hi = highS p ws n := ⟨_, rfl⟩
    rw [← hlo'] at HLO hlo ⊢
    rw [← hhi'] at HHI hhi ⊢
    have HW1 := Lib.hid (show IntKind.i64.wrap (lo - q) = lo - q from IntWalk.i64_in _ (by omega))
    have HW2 := Lib.hid (show IntKind.i64.wrap (q - hi) = q - hi from IntWalk.i64_in _ (by omega))
    clear hg hsl hfull hlo hhi hq1 hq2 htot hpos HLOW hlo' hhi' hp
    go_enter Try.func44, Try.ntmps44
    go_wp2_with fail
    refine (isCommittee_any q _ n cap ws _ hm (HK.out.now hb0)).mono ?_
    rintro e w1 ⟨rfl, hb1⟩
    rw [HGB.out]
    have g1 := bfrom hb0 hb1
    have hx1 := hx.now hb1
    obtain ⟨c0, c1⟩ := hx1.cells
    clear hx hb0 hb1
    go_wp2_with fail
    refine (borderOf_any p n 32 _ _ _ w1 hn10 (HRU.out w1 (HSL.out.now g1))).mono ?_
    rintro e w2 ⟨A2, c12, B2, c22, rfl, hA2, hcc, hB2, hb2⟩
    have g2 := bfrom g1 hb2
    have hbA := below1 w2 (.cells #[.slice A2 (winL p n).length c12, .slice B2 (loseL p n).length c22] 78)
    have HA := Lib.hid (hA2.now hbA)
    have HB := Lib.hid (hB2.now hbA)
    have HCC := Lib.hid (hcc HWL.out)
    have hx3 := (hx1.now hb2).now hbA
    have hd3 := BoxT.new 78 w2 (.slice A2 (winL p n).length c12) (.slice B2 (loseL p n).length c22)
    have g3 := bfrom g2 hbA
    obtain ⟨w3, hw3⟩ : ∃ w3, w3 = w2.alloc (.cells #[.slice A2 (winL p n).length c12, .slice B2 (loseL p n).length c22] 78) := ⟨_, rfl⟩
    obtain ⟨db, hdb⟩ : ∃ db, db = w2.heap.size := ⟨_, rfl⟩
    clear c0 c1 hA2 hB2 hcc
    go_wp2_with fail
    rw [← hw3] at hbA HA HB hx3 hd3 g3 ⊢
    rw [← hdb] at hd3 ⊢
    have hs3 := Lib.hid (HSL.out.now g3)
    have K := Lib.hid (show ∀ W, Below w3.heap.size w3 W → (W.cell? ⟨w.heap.size, 0, none⟩ = some (.int .i64 q) ∧ W.cell? ⟨w.heap.size, 1, none⟩ = some (.slice (some ⟨b, off, none⟩) n cap) ∧ W.cell? ⟨db, 0, none⟩ = some (.slice A2 (winL p n).length c12) ∧ W.cell? ⟨db, 1, none⟩ = some (.slice B2 (loseL p n).length c22)) from fun W hb => ⟨(hx3.now hb).cells.1, (hx3.now hb).cells.2, (hd3.now hb).cells.1, (hd3.now hb).cells.2⟩)
    clear hbA hw3 hdb hb2 hx3 hd3
    obtain ⟨c0, c1, c2, c3⟩ := K.out _ (Below.refl _ _)
    obtain ⟨la, hla⟩ : ∃ la, la = (winL p n).length := ⟨_, rfl⟩
    go_region_held3 (fun w' => w'.cell? ⟨w.heap.size, 0, none⟩ = some (.int .i64 q) ∧ w'.cell? ⟨w.heap.size, 1, none⟩ = some (.slice (some ⟨b, off, none⟩) n cap) ∧ w'.cell? ⟨db, 0, none⟩ = some (.slice A2 (winL p n).length c12) ∧ w'.cell? ⟨db, 1, none⟩ = some (.slice B2 (loseL p n).length c22))
      (first | exact ⟨b0, b1, b2, b3⟩ | exact ⟨a0, a1, a2, a3⟩ | exact ⟨c0, c1, c2, c3⟩ | go_keep)
      (first
        | (go_at_call 86; refine (leastOf_any b off n cap ws A2 c12 (winL p n) _ hn10 HOK.out (hs3.out.now ?_) HWL.out hw5.1 HCC.out.1 HCC.out.2 hw5.2 (HA.out.now ?_)).mono ?_; (first | exact gB | exact gA); (first | exact gB | exact gA); rw [HLO.out]; rintro e w' ⟨rfl, rfl⟩)
        | (go_at_call 87; refine (greatestOf_any b off n cap ws B2 c22 (loseL p n) _ hn10 HOK.out (hs3.out.now ?_) hl5.1 hl5.2 (HB.out.now ?_)).mono ?_; (first | exact gB | exact gA); (first | exact gB | exact gA); rw [HHI.out]; rintro e w' ⟨rfl, rfl⟩)
        | (go_at_call 74; refine (weights_any _ _ n cap _).mono ?_; rintro e wB ⟨rfl, hbB⟩; have gB := bfrom gA hbB; obtain ⟨b0, b1, b2, b3⟩ := K.out _ gB)
        | (go_at_call 74; refine (weights_any _ _ n cap _).mono ?_; rintro e wA ⟨rfl, hbA⟩; have gA := bfrom (Below.refl _ _).drew hbA; obtain ⟨a0, a1, a2, a3⟩ := K.out _ gA))
    all_goals
      rw [HW1.out, HW2.out]
      go_wp2
      go_ret3
      exact ⟨rfl, bfrom g3 gB⟩
  · have HGB := Lib.hid (goodB_false hg)
    clear hg
    go_enter Try.func44, Try.ntmps44
    go_wp2_with fail
    refine (isCommittee_any q A n cap ws _ hm (HK.out.now hb0)).mono ?_
    rintro e w1 ⟨rfl, hb1⟩
    rw [HGB.out]
    go_wp2
    go_ret3
    exact ⟨by rw [spareX_no HGB.out, spareY_no HGB.out, HGB.out]; rfl, bfrom hb0 hb1⟩
end Go.Proofs.Ytkeiojfnjgjliaa
