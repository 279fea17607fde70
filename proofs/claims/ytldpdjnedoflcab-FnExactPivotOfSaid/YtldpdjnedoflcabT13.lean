/- Contracts of PivotOf, the program's and the model's. -/
import Derived.Test.YtldpdjnedoflcabT12
import Derived.Outline
namespace Go.Proofs.Ytldpdjnedoflcab
open Go.RowKit Vo

set_option maxRecDepth 20000 in
set_option maxHeartbeats 4000000 in
theorem pivotOf_any (q : Int) (A : Option Addr) (n cap : Nat) (ws : List Int) (b2 off2 m cap2 : Nat) (xs : List Int) (w : World) (hm : n ≤ 9223372036854775807) (hk : Known w A n ws) (hm2 : m ≤ 9223372036854775807) (hs : Sl w b2 off2 m xs) :
    Calls Try.prog 44 #[.agg #[.int .i64 q, .slice A n cap], .slice (some ⟨b2, off2, none⟩) m cap2] w fun e w' =>
      e = .returned (.tuple #[.int .i64 (pivV q ws n xs m), .bool (ordOk q ws n xs m)]) ∧ Below w.heap.size w w' := by
  have HK := Lib.hid hk
  have HSL := Lib.hid hs
  clear hk hs
  have hx := Box.new w (.int .i64 q) (.slice A n cap)
  have hb0 := below1 w (.cells #[.int .i64 q, .slice A n cap] 29)
  by_cases hg : Vo.Good q ws n
  · have HGB := Lib.hid (goodB_true hg)
    obtain ⟨b, off, rfl, hsl⟩ := HK.out.get hg.lo
    have HW := Lib.hid hsl
    have HOK := Lib.hid hg.ok
    have hn9 := hg.hi
    have hn10 : n < 10 := by omega
    have h512 := pow_lt hn9
    clear hg hsl
    cases hok : ordOk q ws n xs m with
    | true =>
      have HE := Lib.hid hok
      have HD := Lib.hid (ordOk_parts hok)
      have hmn := HD.out.len
      subst hmn
      have HOR := Lib.hid (show orderB m xs m = true from by unfold ordOk at hok; simp at hok; exact hok.2)
      have HNONE := Lib.hid HD.out.none
      clear hok
      go_enter Try.func44, Try.ntmps44
      go_wp2_with fail
      refine (isCommittee_any q _ m cap ws _ hm (HK.out.now hb0)).mono ?_
      rintro e w1 ⟨rfl, hb⟩
      rw [HGB.out]
      have hx1 := hx.now hb
      have g1 := bfrom hb0 hb
      have hw1 := Lib.hid (HW.out.now g1)
      have hs1 := Lib.hid (HSL.out.now g1)
      obtain ⟨hc0, hc1⟩ := hx1.cells
      go_wp2_with (first
        | (go_at_call 61; refine (members_any _ _ m cap _).mono ?_; rintro e w2 ⟨rfl, hb2⟩; have hw2 := Lib.hid (hw1.out.now hb2); have hs2 := Lib.hid (hs1.out.now hb2); have hx2 := hx1.now hb2; have g2 := bfrom g1 hb2; clear hc0 hc1; obtain ⟨hc0, hc1⟩ := hx2.cells)
        | (go_at_call 69; refine (isOrder_any m b2 off2 m cap2 xs _ hn10 hm2 hs2.out).mono ?_; rintro e w3 ⟨rfl, rfl⟩; rw [HOR.out]))
      clear hc0 hc1
      go_loopw [6, 7, 8] (fun c p i wr => ∃ j : Nat, j ≤ m ∧ i = .int .i64 j ∧ c = .int .u64 (ofK xs j : Nat) ∧ (∀ i, i < j → winB q ws m (ofK xs i) = false) ∧ (∃ pv, p = .int .i64 pv ∧ (0 < j → pv = xs.getD (j-1) 0)) ∧ Below w2.heap.size w2 wr) (fun _ _ i _ => m - (intOf i).toNat)
      case atStart => exact ⟨0, Nat.zero_le _, rfl, rfl, fun i hi => by omega, ⟨0, rfl, fun h => by omega⟩, Below.refl _ _⟩
      case round =>
        obtain ⟨j, hj, rfl, rfl, hlo, ⟨pv, rfl, hpv⟩, hbr⟩ := hrel
        have HLO := Lib.hid hlo
        have HPV := Lib.hid hpv
        have hsj : ofK xs j < 512 := by have h1 := ofK_small (n := m) (by omega) (HD.out.inr.mono hj); omega
        have hwr := Lib.hid (hw2.out.now hbr)
        have hsr := Lib.hid (hs2.out.now hbr)
        obtain ⟨hc0, hc1⟩ := (hx2.now hbr).cells
        clear hlo hpv
        cases hwin : winB q ws m (ofK xs j)
        · have HWN := Lib.hid (show (!decide (q ≤ wtK ws (ofK xs j) m)) = true from by unfold winB at hwin; rw [hwin]; rfl)
          have hlt : j < m := by
            rcases Nat.lt_or_ge j m with h | h
            · exact h
            · have : j = m := by omega
              subst this; rw [HD.out.all] at hwin; cases hwin
          have HLO2 := Lib.hid (show ∀ i, i < j + 1 → winB q ws m (ofK xs i) = false from fun i hi => by
            by_cases e : i = j
            · subst e; exact hwin
            · exact HLO.out i (by omega))
          clear hwin
          have hcell : wr.cell? ⟨b2, off2 + j, none⟩ = some (.int .i64 (xs.getD j 0)) := hsr.out.cell j hlt
          have hin := HD.out.inr j hlt
          obtain ⟨z, hz⟩ : ∃ z : Nat, xs.getD j 0 = z := ⟨(xs.getD j 0).toNat, by omega⟩
          have hzm : z < m := by omega
          have HOF := Lib.hid (show ofK xs (j+1) = ofK xs j ||| 2 ^ z from by simp only [ofK]; rw [hz, Int.toNat_natCast])
          have HZ := Lib.hid hz
          rw [hz] at hcell
          clear hz hin
          obtain ⟨s, hs'⟩ : ∃ s, ofK xs j = s := ⟨_, rfl⟩
          rw [hs'] at HOF HWN hsj ⊢
          clear hs'
          have hlt' : (j : Int) < m := by omega
          go_wp2_with (first
            | (go_at_call 62; refine (loses_any q b off m cap ws s _ hn10 hsj HOK.out hwr.out).mono ?_; rintro e w4 ⟨rfl, hb4⟩; rw [HWN.out]; have hcell4 := (hsr.out.now hb4).cell j hlt; rw [HZ.out] at hcell4)
            | (go_at_call 80; refine (with_any s z _ (by omega) hsj).mono ?_; rintro e w5 ⟨rfl, rfl⟩; rw [← HOF.out]))
          go_roundw
          case rel => exact ⟨j + 1, by omega, by go_num, rfl, HLO2.out, ⟨_, rfl, fun _ => by rw [Nat.add_sub_cancel, HZ.out]⟩, bfrom hbr hb4⟩
          case measure => simp [intOf]; omega
        · have HWN := Lib.hid (show (!decide (q ≤ wtK ws (ofK xs j) m)) = false from by unfold winB at hwin; rw [hwin]; rfl)
          have hj0 : 0 < j := by
            rcases Nat.eq_zero_or_pos j with h | h
            · subst h; rw [HNONE.out] at hwin; cases hwin
            · exact h
          have HV := Lib.hid (show pivV q ws m xs m = pv from by
            rw [HPV.out hj0]
            exact pivV_at HE.out (by omega) (fun i hi => HLO.out (i+1) (by omega)) (by rw [show j - 1 + 1 = j by omega]; exact hwin))
          clear hwin
          obtain ⟨s, hs'⟩ : ∃ s, ofK xs j = s := ⟨_, rfl⟩
          rw [hs'] at HWN hsj ⊢
          clear hs'
          go_wp2_with (go_at_call 62; refine (loses_any q b off m cap ws s _ hn10 hsj HOK.out hwr.out).mono ?_; rintro e w4 ⟨rfl, hb4⟩; rw [HWN.out])
          go_ret2
          exact ⟨by rw [HV.out]; rfl, bfrom g2 (bfrom hbr hb4)⟩
    | false =>
      have HE := Lib.hid hok
      have HOR := Lib.hid (show orderB n xs m = false from by unfold ordOk at hok; rw [HGB.out] at hok; simpa using hok)
      clear hok
      go_enter Try.func44, Try.ntmps44
      go_wp2_with fail
      refine (isCommittee_any q _ n cap ws _ hm (HK.out.now hb0)).mono ?_
      rintro e w1 ⟨rfl, hb⟩
      rw [HGB.out]
      have hx1 := hx.now hb
      have g1 := bfrom hb0 hb
      have hs1 := Lib.hid (HSL.out.now g1)
      obtain ⟨hc0, hc1⟩ := hx1.cells
      go_wp2_with (first
        | (go_at_call 61; refine (members_any _ _ n cap _).mono ?_; rintro e w2 ⟨rfl, hb2⟩; have hs2 := Lib.hid (hs1.out.now hb2); have g2 := bfrom g1 hb2)
        | (go_at_call 69; refine (isOrder_any n b2 off2 m cap2 xs _ hn10 hm2 hs2.out).mono ?_; rintro e w3 ⟨rfl, rfl⟩; rw [HOR.out]))
      go_ret2
      exact ⟨by rw [pivV_no HE.out]; rfl, g2⟩
  · have HGB := Lib.hid (goodB_false hg)
    have HE := Lib.hid (show ordOk q ws n xs m = false from by unfold ordOk; rw [goodB_false hg]; rfl)
    clear hg
    go_enter Try.func44, Try.ntmps44
    go_wp2_with fail
    refine (isCommittee_any q A n cap ws _ hm (HK.out.now hb0)).mono ?_
    rintro e w1 ⟨rfl, hb⟩
    rw [HGB.out]
    go_wp2
    go_ret2
    exact ⟨by rw [pivV_no HE.out, HE.out]; rfl, bfrom hb0 hb⟩
set_option maxRecDepth 20000 in
set_option maxHeartbeats 4000000 in
theorem sPivotOf_any (q : Int) (A : Option Addr) (n cap : Nat) (ws : List Int) (b2 off2 m cap2 : Nat) (xs : List Int) (w : World) (hm : n ≤ 9223372036854775807) (hk : Known w A n ws) (hm2 : m ≤ 9223372036854775807) (hs : Sl w b2 off2 m xs) (hcap : m ≤ cap2 := by exact Nat.le_refl _) :
    Calls Try.prog 43 #[.agg #[.int .i64 q, .slice A n cap], .slice (some ⟨b2, off2, none⟩) m cap2] w fun e w' =>
      e = .returned (.tuple #[.int .i64 (pivV q ws n xs m), .bool (ordOk q ws n xs m)]) ∧ Below w.heap.size w w' := by
  have HK := Lib.hid hk
  have HSL := Lib.hid hs
  clear hk hs
  have hx := Box.new w (.int .i64 q) (.slice A n cap)
  have hb0 := below1 w (.cells #[.int .i64 q, .slice A n cap] 29)
  by_cases hg : Vo.Good q ws n
  · have HGB := Lib.hid (goodB_true hg)
    obtain ⟨b, off, rfl, hsl⟩ := HK.out.get hg.lo
    have HW := Lib.hid hsl
    have HOK := Lib.hid hg.ok
    have hn9 := hg.hi
    have hn10 : n < 10 := by omega
    have htot := hg.tot
    clear hg hsl
    cases hok : ordOk q ws n xs m with
    | true =>
      have HE := Lib.hid hok
      have HD := Lib.hid (ordOk_parts hok)
      have hmn := HD.out.len
      subst hmn
      have HOR := Lib.hid (show orderB m xs m = true from by unfold ordOk at hok; simp at hok; exact hok.2)
      have HNONE := Lib.hid HD.out.none
      have HWT := Lib.hid (show ∀ s, 0 ≤ wtK ws s m ∧ wtK ws s m ≤ sumK ws m from fun s => wtK_bd HOK.out)
      have hq0 : (0 : Int) = wtK ws (ofK xs 0) m := by
        have : ∀ k, wtK ws 0 k = 0 := by
          intro k
          induction k with
          | zero => rfl
          | succ k ih => simp only [wtK]; rw [ih]; simp
        exact (this m).symm
      have HQ0 := Lib.hid hq0
      clear hok hq0
      go_enter Try.func43, Try.ntmps43
      go_wp2_with fail
      refine (voGood_any q _ m cap ws _ hm (HK.out.now hb0)).mono ?_
      rintro e w1 ⟨rfl, hb⟩
      rw [HGB.out]
      have hx1 := hx.now hb
      have g1 := bfrom hb0 hb
      have hw1 := Lib.hid (HW.out.now g1)
      have hs1 := Lib.hid (HSL.out.now g1)
      obtain ⟨hc0, hc1⟩ := hx1.cells
      go_wp2_with (go_at_call 68; refine (voOrder_any m b2 off2 m cap2 xs _ hn10 hm2 hcap hs1.out).mono ?_; rintro e w3 ⟨rfl, rfl⟩; rw [HOR.out])
      go_loop [6, 8, 22] (fun c _ i => ∃ j : Nat, j ≤ m ∧ i = .int .i64 j ∧ c = .int .i64 (wtK ws (ofK xs j) m) ∧ (∀ i, i ≤ j → winB q ws m (ofK xs i) = false)) (fun _ _ i => m - (intOf i).toNat)
      case atStart => exact ⟨0, Nat.zero_le _, rfl, by rw [← HQ0.out], fun i hi => by rw [show i = 0 by omega]; exact HNONE.out⟩
      case round =>
        obtain ⟨j, hj, rfl, rfl, hlo⟩ := hrel
        have HLO := Lib.hid hlo
        clear hlo
        by_cases hlt : j < m
        · have hcell := hs1.out.cell j hlt
          have hin := HD.out.inr j hlt
          obtain ⟨z, hz⟩ : ∃ z : Nat, xs.getD j 0 = z := ⟨(xs.getD j 0).toNat, by omega⟩
          have hzm : z < m := by omega
          have hcw := hw1.out.cell z hzm
          have HNX := Lib.hid (wtK_next (ws := ws) HD.out.inr HD.out.once hlt hz)
          have HZ := Lib.hid hz
          have hb1 := HWT.out (ofK xs (j+1))
          have hb2 := HWT.out (ofK xs j)
          rw [hz] at hcell
          clear hz hin
          have hlt' : (j : Int) < m := by omega
          have hzm' : (z : Int) < m := by omega
          obtain ⟨y, hy⟩ : ∃ y, ws.getD z 0 = y := ⟨_, rfl⟩
          rw [hy] at hcw HNX
          clear hy
          obtain ⟨t, ht⟩ : ∃ t, wtK ws (ofK xs j) m = t := ⟨_, rfl⟩
          rw [ht] at HNX hb2 ⊢
          have hwr : wrap64 (t + y) = t + y := IntWalk.wrap64_in _ (by rw [← HNX.out]; omega)
          clear ht
          by_cases hwin : q ≤ t + y
          · have HV := Lib.hid (show pivV q ws m xs m = z from by
              rw [← HZ.out]
              exact pivV_at HE.out hlt (fun i hi => HLO.out (i+1) (by omega)) (by unfold winB; rw [HNX.out]; exact decide_eq_true hwin))
            clear hb1 hb2
            go_wp2
            go_ret2
            exact ⟨by rw [HV.out]; rfl, g1⟩
          · have HLO2 := Lib.hid (show ∀ i, i ≤ j + 1 → winB q ws m (ofK xs i) = false from fun i hi => by
              by_cases e : i = j + 1
              · subst e; unfold winB; rw [HNX.out]; exact decide_eq_false hwin
              · exact HLO.out i (by omega))
            clear hb1 hb2
            go_wp2
            go_round
            case rel => exact ⟨j + 1, by omega, by go_num, by rw [HNX.out, hwr], HLO2.out⟩
            case measure => simp [intOf]; omega
        · obtain rfl : m = j := by omega
          have h1 := HLO.out m (Nat.le_refl _)
          rw [HD.out.all] at h1
          cases h1
    | false =>
      have HE := Lib.hid hok
      have HOR := Lib.hid (show orderB n xs m = false from by unfold ordOk at hok; rw [HGB.out] at hok; simpa using hok)
      clear hok
      go_enter Try.func43, Try.ntmps43
      go_wp2_with fail
      refine (voGood_any q _ n cap ws _ hm (HK.out.now hb0)).mono ?_
      rintro e w1 ⟨rfl, hb⟩
      rw [HGB.out]
      have hx1 := hx.now hb
      have g1 := bfrom hb0 hb
      have hs1 := Lib.hid (HSL.out.now g1)
      obtain ⟨hc0, hc1⟩ := hx1.cells
      go_wp2_with (go_at_call 68; refine (voOrder_any n b2 off2 m cap2 xs _ hn10 hm2 hcap hs1.out).mono ?_; rintro e w3 ⟨rfl, rfl⟩; rw [HOR.out])
      go_ret2
      exact ⟨by rw [pivV_no HE.out]; rfl, g1⟩
  · have HGB := Lib.hid (goodB_false hg)
    have HE := Lib.hid (show ordOk q ws n xs m = false from by unfold ordOk; rw [goodB_false hg]; rfl)
    clear hg
    go_enter Try.func43, Try.ntmps43
    go_wp2_with fail
    refine (voGood_any q A n cap ws _ hm (HK.out.now hb0)).mono ?_
    rintro e w1 ⟨rfl, hb⟩
    rw [HGB.out]
    go_wp2
    go_ret2
    exact ⟨by rw [pivV_no HE.out, HE.out]; rfl, bfrom hb0 hb⟩
end Go.Proofs.Ytldpdjnedoflcab
