/- Contracts of WinsCouncil of the model. -/
import Derived.Test.YtkckefjpkhjeaaaBv
import Derived.Test.YtkckefjpkhjeaaaBs
import Derived.Deep.RegionHeld3
import Derived.Outline
namespace Go.Proofs.Ytkckefjpkhjeaaa
open Go.RowKit Vo

set_option maxHeartbeats 1000000 in
theorem voSet_kn (n : Nat) (A : Option Addr) (m cap : Nat) (xs : List Int) (w : World) (hn : n < 10) (hm : m ≤ 9223372036854775807) (hk : Known w A m xs) :
    Calls Try.prog 99 #[.int .i64 n, .slice A m cap] w fun e w' => e = .returned (.bool (riseB n xs m)) ∧ w = w' := by
  by_cases hz : m = 0
  · subst hz
    have H2 := Lib.hid (riseB_yes (n := n) (xs := xs) (m := 0) RiseK.zero)
    go_enter Try.func99, Try.ntmps99
    go_wp2
    refine wp_loop_rounds 1 ?_
    rw [rounds_succ]
    go_wp2
    go_ret
    exact ⟨by rw [H2.out]; try rfl, rfl⟩
  · obtain ⟨b, off, rfl, hsl⟩ := hk.get (by omega)
    exact voSet_any n b off m cap xs w hn hm hsl
set_option maxHeartbeats 1000000 in
theorem voBits_kn (n : Nat) (A : Option Addr) (m cap : Nat) (xs : List Int) (w : World) (hn : n < 10) (hm : m ≤ 9223372036854775807) (hr : RiseK n xs m) (hk : Known w A m xs) :
    Calls Try.prog 67 #[.slice A m cap] w fun e w' => e = .returned (.int .i64 (ofK xs m : Nat)) ∧ w = w' := by
  by_cases hz : m = 0
  · subst hz
    have H2 := Lib.hid (show ofK xs 0 = 0 from rfl)
    go_enter Try.func67, Try.ntmps67
    go_wp2
    refine wp_loop_rounds 1 ?_
    rw [rounds_succ]
    go_wp2
    go_ret
    exact ⟨by rw [H2.out]; try rfl, rfl⟩
  · obtain ⟨b, off, rfl, hsl⟩ := hk.get (by omega)
    exact voBits_any n b off m cap xs w hn hm hr hsl

set_option maxRecDepth 20000 in
set_option maxHeartbeats 4000000 in
theorem sWinsCouncil_any (q : Int) (A : Option Addr) (n cap : Nat) (ws : List Int) (A2 : Option Addr) (k cp : Nat) (C : List (Int × List Int)) (A3 : Option Addr) (j cap3 : Nat) (X : List (List Int)) (w : World) (hm : n ≤ 9223372036854775807) (hk : Known w A n ws) (hm2 : k ≤ 9223372036854775807) (hk2 : KCS w A2 k C) (hT : csum C k ≤ 1048576) (_hj20 : j ≤ 1048576) (hk3 : KSS w A3 j X) :
    Calls Try.prog 51 #[.agg #[.int .i64 q, .slice A n cap], .slice A2 k cp, .slice A3 j cap3] w fun e w' => e = .returned (.tuple #[.bool (wcV q ws n C j X), .bool (wcB q ws n C j X)]) ∧ Below w.heap.size w w' := by
  have hx := Box.new w (.int .i64 q) (.slice A n cap)
  have hb0 := below1 w (.cells #[.int .i64 q, .slice A n cap] 47)
  obtain ⟨c0, c1⟩ := hx.cells
  have HK3 := Lib.hid hk3
  have HAC := Lib.hid (sAreCouncil_any q A n cap ws A2 k cp C _ hm (hk.now hb0) hm2 (hk2.now hb0) hT)
  clear hk3
  cases hc : cnB q ws n C with
  | false =>
    have HC := Lib.hid hc
    have HB := Lib.hid (show wcB q ws n C j X = false from by unfold wcB; rw [hc]; rfl)
    have HV := Lib.hid (show wcV q ws n C j X = false from by unfold wcV; rw [HB.out]; rfl)
    clear hk hk2 hc
    go_enter Try.func51, Try.ntmps51
    go_wp2_with fail
    refine HAC.out.mono ?_
    rintro e w1 ⟨rfl, hb1⟩
    rw [HC.out]
    have g1 := bfrom hb0 hb1
    go_wp2
    go_ret2
    exact ⟨by rw [HV.out, HB.out]; rfl, g1⟩
  | true =>
    have HC := Lib.hid hc
    obtain ⟨hkn, hco⟩ := council_of hk hk2 hc
    subst hkn
    have HCO := Lib.hid hco
    have hn9 := hco.good.hi
    have hn1 := hco.good.lo
    by_cases hjk : j = k
    · obtain rfl : k = j := hjk.symm
      have HB := Lib.hid (show wcB q ws k C k X = allK (setR C X) k from by unfold wcB; rw [hc]; simp)
      have HV := Lib.hid (show wcV q ws k C k X = (wcB q ws k C k X && winB q ws k (wonL C (setK C X) k)) from rfl)
      have HWL := Lib.hid (wonL_lt C (setK C X))
      clear hk hk2 hc hco hjk
      go_enter Try.func51, Try.ntmps51
      go_wp2_with fail
      refine HAC.out.mono ?_
      rintro e w1 ⟨rfl, hb1⟩
      rw [HC.out]
      have g1 := bfrom hb0 hb1
      have HX1 := Lib.hid (hx.now hb1)
      clear hx c0 c1 hb0 hb1
      go_wp2_with fail
      go_loopw [8, 9, 10, 24] (fun u _ _ i wr => ∃ t : Nat, t ≤ k ∧ i = .int .i64 t ∧ u = .int .i64 (wonL C (setK C X) t : Nat) ∧ allK (setR C X) t = true ∧ Below w1.heap.size w1 wr) (fun _ _ _ i _ => k - (intOf i).toNat)
      case atStart => exact ⟨0, Nat.zero_le _, rfl, rfl, rfl, Below.refl _ _⟩
      case round =>
        obtain ⟨t, ht, rfl, rfl, hall, hbr⟩ := hrel
        have HALL := Lib.hid hall
        have hb := bfrom g1 hbr
        have hwl := HWL.out t
        have hw512 : wonL C (setK C X) t < 512 := by have := Nat.pow_le_pow_right (show 1 ≤ 2 by omega) (show t ≤ 9 by omega); omega
        clear hall
        by_cases hlt : t < k
        · obtain ⟨_, b, off, hA, hrow⟩ := (HCO.out.inner.now hb)
          obtain ⟨rfl, hbl⟩ := hA (by omega)
          obtain ⟨A', cap', e0, e1, _, hkn'⟩ := hrow t hlt
          obtain ⟨_, b5, off5, hA5, hrow5⟩ := (HK3.out.now hb)
          obtain ⟨rfl, hbl5⟩ := hA5 (by omega)
          obtain ⟨A'', cap'', hcell, hml, hkn⟩ := hrow5 t hlt
          have hgj := HCO.out.each t hlt
          have hm9 := hgj.hi
          obtain ⟨bb, oo, rfl, hsl⟩ := hkn'.get hgj.lo
          have HSL := Lib.hid hsl
          have HOKJ := Lib.hid hgj.ok
          have HKN := Lib.hid hkn
          have HVS := Lib.hid (fun W h => voSet_kn (nAt C t) A'' (X.getD t []).length cap'' (X.getD t []) W (by omega) hml h)
          have HWS := Lib.hid (wonL_succ C (setK C X) t)
          have hsk := setK_lt C X t hm9
          clear hA hrow hA5 hrow5 hkn hkn' hgj hsl hwl
          by_cases hrise : RiseK (nAt C t) (X.getD t []) (X.getD t []).length
          · have HR := Lib.hid (riseB_yes hrise)
            have HSK := Lib.hid (show setK C X t = ofK (X.getD t []) (X.getD t []).length from ofB_yes hrise)
            have HNX := Lib.hid (show allK (setR C X) (t+1) = true from by simp only [allK]; rw [HALL.out]; unfold setR; rw [HR.out]; rfl)
            have HVB := Lib.hid (fun W h => voBits_kn (nAt C t) A'' (X.getD t []).length cap'' (X.getD t []) W (by omega) hml hrise h)
            have HWN := Lib.hid (show winB (qAt C t) (wAt C t) (nAt C t) (setK C X t) = decide (qAt C t ≤ wtK (wAt C t) (setK C X t) (nAt C t)) from rfl)
            rw [HR.out] at HVS
            rw [← HSK.out] at HVB
            clear hrise HR HSK hml
            obtain ⟨sk, hske⟩ : ∃ z, z = setK C X t := ⟨_, rfl⟩
            rw [← hske] at HVB HWN HWS hsk
            clear hske
            obtain ⟨m5, hm5⟩ : ∃ z, z = (X.getD t []).length := ⟨_, rfl⟩
            rw [← hm5] at hcell HVS HVB HKN
            clear hm5
            generalize qAt C t = q1 at *
            generalize wAt C t = ws1 at *
            generalize nAt C t = m1 at *
            generalize wonL C (setK C X) t = won at *
            have HVW := Lib.hid (fun W hs => voWeight_any (.int .i64 q1) bb oo m1 cap' ws1 sk W (by omega) hsk HOKJ.out hs)
            obtain ⟨wv, hwv⟩ : ∃ z, z = wtK ws1 sk m1 := ⟨_, rfl⟩
            simp only [← hwv] at HVW
            rw [← hwv] at HWN
            clear hwv
            have hy := Box.new wr (.int .i64 q1) (.slice (some ⟨bb, oo, none⟩) m1 cap')
            have b0 := below1 wr (.cells #[.int .i64 q1, .slice (some ⟨bb, oo, none⟩) m1 cap'] 47)
            have K := Lib.hid (show ∀ W, Below (wr.alloc (.cells #[.int .i64 q1, .slice (some ⟨bb, oo, none⟩) m1 cap'] 47)).heap.size (wr.alloc (.cells #[.int .i64 q1, .slice (some ⟨bb, oo, none⟩) m1 cap'] 47)) W → W.cell? ⟨wr.heap.size, 0, none⟩ = some (.int .i64 q1) ∧ W.cell? ⟨wr.heap.size, 1, none⟩ = some (.slice (some ⟨bb, oo, none⟩) m1 cap') ∧ W.cell? ⟨b5, off5 + t, none⟩ = some (.slice A'' m5 cap'') ∧ Below wr.heap.size wr W from fun W h => ⟨(hy.now h).cells.1, (hy.now h).cells.2, ((bfrom b0 h).cell (p := ⟨b5, off5 + t, none⟩) hbl5).trans hcell, bfrom b0 h⟩)
            obtain ⟨k0, k1, k2, _⟩ := K.out _ (Below.refl _ _)
            have HOR := Lib.hid (or_pow64 won t (by omega) hw512)
            have htk : (t : Int) < (k : Int) := by omega
            have hm1n : (0 : Int) ≤ (m1 : Int) := by omega
            clear hy
            by_cases hge : q1 ≤ wv
            · have hd : decide (q1 ≤ wv) = true := decide_eq_true hge
              rw [hd] at HWN
              rw [HWN.out] at HWS
              simp only [if_true] at HWS
              go_wp2_with fail
              go_region_held3 (fun w' => w'.cell? ⟨wr.heap.size, 0, none⟩ = some (.int .i64 q1) ∧ w'.cell? ⟨wr.heap.size, 1, none⟩ = some (.slice (some ⟨bb, oo, none⟩) m1 cap') ∧ w'.cell? ⟨b5, off5 + t, none⟩ = some (.slice A'' m5 cap''))
                (first | exact ⟨k0, k1, k2⟩ | go_keep)
                (first
                  | (go_at_call 99; refine (HVS.out _ (HKN.out.now (K.out _ (Below.refl _ _).drew).2.2.2)).mono ?_; rintro e w3 ⟨rfl, rfl⟩)
                  | fail)
              obtain ⟨f0, f1, f2, _⟩ := K.out _ (Below.refl _ _).drew
              go_wp2_with fail
              go_region_held3 (fun w' => w'.cell? ⟨wr.heap.size, 0, none⟩ = some (.int .i64 q1) ∧ w'.cell? ⟨wr.heap.size, 1, none⟩ = some (.slice (some ⟨bb, oo, none⟩) m1 cap') ∧ w'.cell? ⟨b5, off5 + t, none⟩ = some (.slice A'' m5 cap''))
                (first | exact ⟨f0, f1, f2⟩ | exact ⟨l0, l1, l2⟩ | go_keep)
                (first
                  | (go_at_call 67; refine (HVB.out _ (HKN.out.now (K.out _ (Below.refl _ _).drew.drew).2.2.2)).mono ?_; rintro e w3 ⟨rfl, rfl⟩)
                  | (go_at_call 100; refine (HVW.out _ (HSL.out.now (K.out _ (Below.refl _ _).drew.drew).2.2.2)).mono ?_; rintro e w4 ⟨rfl, hb4⟩; obtain ⟨l0, l1, l2, b4⟩ := K.out _ (bfrom (Below.refl _ _).drew.drew hb4))
                  | fail)
              all_goals
                go_wp2
                go_roundw
                case rel => exact ⟨t + 1, by omega, by go_num, by rw [HOR.out, HWS.out], HNX.out, bfrom hbr b4⟩
                case measure => simp [intOf]; omega
            · have hd : decide (q1 ≤ wv) = false := decide_eq_false hge
              rw [hd] at HWN
              rw [HWN.out] at HWS
              simp only [Bool.false_eq_true, if_false] at HWS
              go_wp2_with fail
              go_region_held3 (fun w' => w'.cell? ⟨wr.heap.size, 0, none⟩ = some (.int .i64 q1) ∧ w'.cell? ⟨wr.heap.size, 1, none⟩ = some (.slice (some ⟨bb, oo, none⟩) m1 cap') ∧ w'.cell? ⟨b5, off5 + t, none⟩ = some (.slice A'' m5 cap''))
                (first | exact ⟨k0, k1, k2⟩ | go_keep)
                (first
                  | (go_at_call 99; refine (HVS.out _ (HKN.out.now (K.out _ (Below.refl _ _).drew).2.2.2)).mono ?_; rintro e w3 ⟨rfl, rfl⟩)
                  | fail)
              obtain ⟨f0, f1, f2, _⟩ := K.out _ (Below.refl _ _).drew
              go_wp2_with fail
              go_region_held3 (fun w' => w'.cell? ⟨wr.heap.size, 0, none⟩ = some (.int .i64 q1) ∧ w'.cell? ⟨wr.heap.size, 1, none⟩ = some (.slice (some ⟨bb, oo, none⟩) m1 cap') ∧ w'.cell? ⟨b5, off5 + t, none⟩ = some (.slice A'' m5 cap''))
                (first | exact ⟨f0, f1, f2⟩ | exact ⟨l0, l1, l2⟩ | go_keep)
                (first
                  | (go_at_call 67; refine (HVB.out _ (HKN.out.now (K.out _ (Below.refl _ _).drew.drew).2.2.2)).mono ?_; rintro e w3 ⟨rfl, rfl⟩)
                  | (go_at_call 100; refine (HVW.out _ (HSL.out.now (K.out _ (Below.refl _ _).drew.drew).2.2.2)).mono ?_; rintro e w4 ⟨rfl, hb4⟩; obtain ⟨l0, l1, l2, b4⟩ := K.out _ (bfrom (Below.refl _ _).drew.drew hb4))
                  | fail)
              all_goals
                go_wp2
                go_roundw
                case rel => exact ⟨t + 1, by omega, by go_num, by rw [HWS.out], HNX.out, bfrom hbr b4⟩
                case measure => simp [intOf]; omega
          · have HR := Lib.hid (riseB_no hrise)
            have HF := Lib.hid (show allK (setR C X) k = false from allK_false t hlt HR.out)
            rw [HR.out] at HVS
            clear hrise HR hml
            obtain ⟨m5, hm5⟩ : ∃ z, z = (X.getD t []).length := ⟨_, rfl⟩
            rw [← hm5] at hcell HVS HKN
            clear hm5
            generalize qAt C t = q1 at *
            generalize wAt C t = ws1 at *
            generalize nAt C t = m1 at *
            generalize wonL C (setK C X) t = won at *
            have hy := Box.new wr (.int .i64 q1) (.slice (some ⟨bb, oo, none⟩) m1 cap')
            have b0 := below1 wr (.cells #[.int .i64 q1, .slice (some ⟨bb, oo, none⟩) m1 cap'] 47)
            have K := Lib.hid (show ∀ W, Below (wr.alloc (.cells #[.int .i64 q1, .slice (some ⟨bb, oo, none⟩) m1 cap'] 47)).heap.size (wr.alloc (.cells #[.int .i64 q1, .slice (some ⟨bb, oo, none⟩) m1 cap'] 47)) W → W.cell? ⟨wr.heap.size, 0, none⟩ = some (.int .i64 q1) ∧ W.cell? ⟨wr.heap.size, 1, none⟩ = some (.slice (some ⟨bb, oo, none⟩) m1 cap') ∧ W.cell? ⟨b5, off5 + t, none⟩ = some (.slice A'' m5 cap'') ∧ Below wr.heap.size wr W from fun W h => ⟨(hy.now h).cells.1, (hy.now h).cells.2, ((bfrom b0 h).cell (p := ⟨b5, off5 + t, none⟩) hbl5).trans hcell, bfrom b0 h⟩)
            obtain ⟨k0, k1, k2, _⟩ := K.out _ (Below.refl _ _)
            have htk : (t : Int) < (k : Int) := by omega
            clear hy
            go_wp2_with fail
            go_region_held3 (fun w' => w'.cell? ⟨wr.heap.size, 0, none⟩ = some (.int .i64 q1) ∧ w'.cell? ⟨wr.heap.size, 1, none⟩ = some (.slice (some ⟨bb, oo, none⟩) m1 cap') ∧ w'.cell? ⟨b5, off5 + t, none⟩ = some (.slice A'' m5 cap''))
              (first | exact ⟨k0, k1, k2⟩ | go_keep)
              (first
                | (go_at_call 99; refine (HVS.out _ (HKN.out.now (K.out _ (Below.refl _ _).drew).2.2.2)).mono ?_; rintro e w3 ⟨rfl, rfl⟩)
                | fail)
            go_wp2
            go_ret2
            exact ⟨by rw [HV.out, HB.out, HF.out]; rfl, bfrom hb (K.out _ (Below.refl _ _).drew).2.2.2⟩
        · obtain rfl : k = t := by omega
          have HK := Lib.hid (HCO.out.outer.now hb)
          obtain ⟨bo, oo, hAe, hsl⟩ := HK.out.get hn1
          have HSL := Lib.hid hsl
          have HOKO := Lib.hid HCO.out.good.ok
          have HWN := Lib.hid (show winB q ws k (wonL C (setK C X) k) = decide (q ≤ wtK ws (wonL C (setK C X) k) k) from rfl)
          have hxw := HX1.out.now hbr
          rw [hAe] at hxw
          have K := Lib.hid (show ∀ W, Below wr.heap.size wr W → W.cell? ⟨w.heap.size, 0, none⟩ = some (.int .i64 q) ∧ W.cell? ⟨w.heap.size, 1, none⟩ = some (.slice (some ⟨bo, oo, none⟩) k cap) from fun W h => ⟨(hxw.now h).cells.1, (hxw.now h).cells.2⟩)
          clear hxw hsl hAe
          rw [HALL.out] at HB
          rw [HB.out, HWN.out] at HV
          clear HWN
          generalize wonL C (setK C X) k = won at *
          have HVW := Lib.hid (fun W hs => voWeight_any (.int .i64 q) bo oo k cap ws won W (by omega) hw512 HOKO.out hs)
          obtain ⟨wv, hwv⟩ : ∃ z, z = wtK ws won k := ⟨_, rfl⟩
          simp only [← hwv] at HVW
          rw [← hwv] at HV
          clear hwv
          obtain ⟨k0, k1⟩ := K.out _ (Below.refl _ _)
          go_wp2_with fail
          go_region_held3 (fun w' => w'.cell? ⟨w.heap.size, 0, none⟩ = some (.int .i64 q) ∧ w'.cell? ⟨w.heap.size, 1, none⟩ = some (.slice (some ⟨bo, oo, none⟩) k cap))
            (first | exact ⟨k0, k1⟩ | exact ⟨l0, l1⟩ | go_keep)
            (first
              | (go_at_call 100; refine (HVW.out _ (HSL.out.now (Below.refl _ _).drew)).mono ?_; rintro e w4 ⟨rfl, hb4⟩; have b4 := bfrom (Below.refl _ wr).drew hb4; obtain ⟨l0, l1⟩ := K.out _ b4)
              | fail)
          all_goals
            go_wp2
            go_ret2
            exact ⟨by rw [HV.out, HB.out]; rfl, bfrom hb b4⟩
    · have HB := Lib.hid (show wcB q ws k C j X = false from by unfold wcB; rw [decide_eq_false hjk]; simp)
      have HV := Lib.hid (show wcV q ws k C j X = false from by unfold wcV; rw [HB.out]; rfl)
      have hjk' : ¬ (j : Int) = (k : Int) := by omega
      clear hk hk2 hc hco
      go_enter Try.func51, Try.ntmps51
      go_wp2_with fail
      refine HAC.out.mono ?_
      rintro e w1 ⟨rfl, hb1⟩
      rw [HC.out]
      have g1 := bfrom hb0 hb1
      go_wp2
      go_ret2
      exact ⟨by rw [HV.out, HB.out]; rfl, g1⟩
