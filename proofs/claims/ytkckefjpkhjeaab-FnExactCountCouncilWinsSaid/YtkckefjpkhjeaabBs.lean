/- Contract of the model's table of a council. -/
import Derived.Test.YtkckefjpkhjeaabBq
import Derived.Test.YtkckefjpkhjeaabBj
import Derived.Test.YtkckefjpkhjeaabS3
import Derived.Deep.RegionHeld3
import Derived.Outline
namespace Go.Proofs.Ytkckefjpkhjeaab
open Go.RowKit Vo

theorem cellf1 {w : World} {p q : Addr} {v u : Value} (h : w.cell? p = some v) (h1 : p.block ≠ q.block) : (w.setCell q u).cell? p = some v := by
  rw [World.cell?_of_block (w := w) (Below.heap_setCell _ q u p.block h1)]
  exact h
theorem wrap_div (a b : Nat) (h : a < 512) : wrap64 ((a : Int) / (b : Int)) = ((a / b : Nat) : Int) := by
  rw [show (a : Int) / (b : Int) = ((a / b : Nat) : Int) from by push_cast; rfl]
  have := Nat.div_le_self a b
  generalize a / b = d at *
  exact IntWalk.wrap64_in _ (by omega)

set_option maxRecDepth 20000 in
set_option maxHeartbeats 8000000 in
theorem chCouncil_any (q : Int) (A : Option Addr) (n cap : Nat) (ws : List Int) (A2 : Option Addr) (cp : Nat) (C : List (Int × List Int)) (w : World) (hm : n ≤ 9223372036854775807) (hc : Council q A n ws A2 C w) :
    Calls Try.prog 52 #[.agg #[.int .i64 q, .slice A n cap], .slice A2 n cp] w fun e w' => TableAt (councilP q ws n C) (2 ^ csum C n) w w' e := by
  have HC := Lib.hid hc
  have hn9 := hc.good.hi
  have hn1 := hc.good.lo
  have hT9 := hc.few
  have hx := Box.new w (.int .i64 q) (.slice A n cap)
  have hb0 := below1 w (.cells #[.int .i64 q, .slice A n cap] 43)
  have HCM := Lib.hid (fun W (hb : Below w.heap.size w W) => chMembers_any A2 n cp C W hm (by omega) (hc.inner.now hb))
  have HCI := Lib.hid (cmI_yes (C := C) (n := n) (allK_iff.2 fun i hi => decide_eq_true (hc.each i hi)))
  have h512 := pow_lt (n := csum C n) hT9
  have hpos := Nat.two_pow_pos (csum C n)
  have HPT := Lib.hid (show ∀ t, t < 2 ^ csum C n → t < 512 from fun t ht => by omega)
  clear hc
  obtain ⟨T, hT⟩ : ∃ z, z = csum C n := ⟨_, rfl⟩
  rw [HCI.out] at HCM
  rw [← hT] at h512 hpos HPT hT9 ⊢
  simp only [← hT] at HCM
  clear hT
  have HVA := Lib.hid (fun W => voAll_any T W (by omega))
  obtain ⟨N, hN⟩ : ∃ z, z = 2 ^ T := ⟨_, rfl⟩
  simp only [← hN] at HVA
  rw [← hN] at h512 hpos HPT ⊢
  clear hN
  obtain ⟨N1, hN1⟩ : ∃ z, z = N - 1 := ⟨_, rfl⟩
  simp only [← hN1] at HVA
  have hsum : (N1 : Int) + 1 = (N : Int) := by omega
  have HN1 := Lib.hid hN1
  clear hN1
  have hmk := run_make_row' (P := Try.prog) 61 4 (.bool false) 1 Try.underlying61 infoBool rfl .i64 .i64 N (by omega) (by omega)
  obtain ⟨c0, c1⟩ := hx.cells
  go_enter Try.func52, Try.ntmps52
  go_wp2_with (first
    | (go_at_call 46; refine (HCM.out _ hb0).mono ?_; rintro e w1 ⟨rfl, hb1⟩)
    | (go_at_call 78; refine (HVA.out _).mono ?_; rintro e w2 ⟨rfl, rfl⟩)
    | fail)
  have g1 := bfrom hb0 hb1
  have hx1 := hx.now hb1
  have HX := Lib.hid hx1
  have hzx := hx1.lt
  have HMADE := Lib.hid (Own.of_row (World.rowIs_made w1 (.bool false) N 4))
  clear hx hx1 c0 c1 hmk hsum
  go_loopw [6, 7, 8, 9, 10, 11, 19] (fun _ _ _ _ _ _ i wr => ∃ t : Nat, t ≤ N ∧ i = .int .i64 t ∧ Own wr w1.heap.size 4 N (fun s => .bool (if s < t then councilP q ws n C s else false)) ∧ Below w1.heap.size w1 wr) (fun _ _ _ _ _ _ i _ => N - (intOf i).toNat)
  case atStart => exact ⟨0, Nat.zero_le _, rfl, HMADE.out.congr fun s _ => by simp, below1 _ _⟩
  case round =>
    obtain ⟨t, ht, rfl, hownt, hbr⟩ := hrel
    have HOT := Lib.hid hownt
    have HBR := Lib.hid hbr
    clear hownt hbr
    by_cases hlt : t < N
    · have ht5 := HPT.out t hlt
      have hgl := HOT.out.lt
      have hb := bfrom g1 HBR.out
      have hxw := HX.out.of_below HBR.out hzx
      have HXW := Lib.hid hxw
      have HSLT := Lib.hid (fun j => wonL_lt C (partK C t) j)
      clear hxw
      go_wp2_with fail
      go_loopw [7, 8, 9, 10, 11, 25] (fun r u _ _ _ i wi => ∃ j : Nat, j ≤ n ∧ i = .int .i64 j ∧ r = .int .i64 (t / 2 ^ csum C j : Nat) ∧ u = .int .i64 (wonL C (partK C t) j : Nat) ∧ Below wr.heap.size wr wi) (fun _ _ _ _ _ i _ => n - (intOf i).toNat)
      case atStart => exact ⟨0, Nat.zero_le _, rfl, by simp [csum], rfl, Below.refl _ _⟩
      case round =>
        obtain ⟨j, hj, rfl, rfl, rfl, hbi⟩ := hrel
        have hbw := bfrom hb hbi
        have hwl := HSLT.out j
        have hw512 : wonL C (partK C t) j < 512 := by have := Nat.pow_le_pow_right (show 1 ≤ 2 by omega) (show j ≤ 9 by omega); omega
        have hr512 : t / 2 ^ csum C j < 512 := Nat.lt_of_le_of_lt (Nat.div_le_self _ _) ht5
        by_cases hlt2 : j < n
        · obtain ⟨_, b, off, hA, hrow⟩ := (HC.out.inner.now hbw)
          obtain ⟨rfl, hbl⟩ := hA (by omega)
          obtain ⟨A', cap', e0, e1, _, hkn⟩ := hrow j hlt2
          have hgj := HC.out.each j hlt2
          obtain ⟨bb, oo, rfl, hsl⟩ := hkn.get hgj.lo
          have hm9 := hgj.hi
          have HRS := Lib.hid (rest_succ C t j)
          have HWS := Lib.hid (wonL_succ C (partK C t) j)
          have hpk := partK_lt C t j
          have HPK := Lib.hid (show t / 2 ^ csum C j % 2 ^ nAt C j = partK C t j from rfl)
          have HWN := Lib.hid (show winB (qAt C j) (wAt C j) (nAt C j) (partK C t j) = decide (qAt C j ≤ wtK (wAt C j) (partK C t j) (nAt C j)) from rfl)
          have HSL := Lib.hid hsl
          have HOKJ := Lib.hid hgj.ok
          clear hA hrow hkn hgj hsl hwl
          generalize qAt C j = q1 at *
          generalize wAt C j = ws1 at *
          generalize nAt C j = m1 at *
          generalize partK C t j = pj at *
          generalize wonL C (partK C t) j = won at *
          generalize t / 2 ^ csum C j = rest at *
          have h5m := pow_lt (n := m1) (by omega)
          have hpm := Nat.two_pow_pos m1
          have HVM := Lib.hid (fun W => voAll_any m1 W (by omega))
          obtain ⟨M, hM⟩ : ∃ z, z = 2 ^ m1 := ⟨_, rfl⟩
          simp only [← hM] at HVM
          rw [← hM] at h5m hpm hpk HRS HPK
          clear hM
          obtain ⟨M1, hM1⟩ : ∃ z, z = M - 1 := ⟨_, rfl⟩
          simp only [← hM1] at HVM
          have hmsum : (M1 : Int) + 1 = (M : Int) := by omega
          have hrem : (rest : Int) % (M : Int) = (pj : Int) := by rw [← HPK.out]; push_cast; rfl
          have hM0 : (0 : Int) < (M : Int) := by omega
          have hMz : (M : Int) ≠ 0 := by omega
          have hMb : ((M : Int) == 0) = false := by simpa using hMz
          have hp5 : pj < 512 := by omega
          have HDIV := Lib.hid (wrap_div rest M hr512)
          clear hM1
          have HVW := Lib.hid (fun W hs => voWeight_any (.int .i64 q1) bb oo m1 cap' ws1 pj W (by omega) hp5 HOKJ.out hs)
          obtain ⟨wv, hwv⟩ : ∃ z, z = wtK ws1 pj m1 := ⟨_, rfl⟩
          simp only [← hwv] at HVW
          rw [← hwv] at HWN
          clear hwv
          have hy := Box.new wr (.int .i64 q1) (.slice (some ⟨bb, oo, none⟩) m1 cap')
          have b0 := below1 wr (.cells #[.int .i64 q1, .slice (some ⟨bb, oo, none⟩) m1 cap'] 43)
          have K := Lib.hid (show ∀ W, Below (wr.alloc (.cells #[.int .i64 q1, .slice (some ⟨bb, oo, none⟩) m1 cap'] 43)).heap.size (wr.alloc (.cells #[.int .i64 q1, .slice (some ⟨bb, oo, none⟩) m1 cap'] 43)) W → W.cell? ⟨wr.heap.size, 0, none⟩ = some (.int .i64 q1) ∧ W.cell? ⟨wr.heap.size, 1, none⟩ = some (.slice (some ⟨bb, oo, none⟩) m1 cap') ∧ Below wr.heap.size wr W from fun W h => ⟨(hy.now h).cells.1, (hy.now h).cells.2, bfrom b0 h⟩)
          obtain ⟨k0, k1, _⟩ := K.out _ (Below.refl _ _)
          have HOR := Lib.hid (or_pow64 won j (by omega) hw512)
          clear hy
          by_cases hge : q1 ≤ wv
          · have hd : decide (q1 ≤ wv) = true := decide_eq_true hge
            rw [hd] at HWN
            rw [HWN.out] at HWS
            simp only [if_true] at HWS
            go_wp2_with (first | (go_at_call 78; refine (HVM.out _).mono ?_; rintro e w3 ⟨rfl, rfl⟩) | fail)
            first
              | (go_region_with (first
                  | (go_at_call 79; refine (HVW.out _ (HSL.out.now (K.out _ (Below.refl _ _).drew).2.2)).mono ?_; rintro e w4 ⟨rfl, hb4⟩; obtain ⟨l0, l1, b4⟩ := K.out _ (bfrom (Below.refl _ _).drew hb4))
                  | fail))
              | fail
            all_goals
              go_wp2
              go_roundw
              case rel => exact ⟨j + 1, by omega, by go_num, congrArg (Value.int .i64) (by rw [HDIV.out, HRS.out]), by rw [HOR.out, HWS.out], bfrom hbi b4⟩
              case measure => simp [intOf]; omega
          · have hd : decide (q1 ≤ wv) = false := decide_eq_false hge
            rw [hd] at HWN
            rw [HWN.out] at HWS
            simp only [Bool.false_eq_true, if_false] at HWS
            go_wp2_with (first | (go_at_call 78; refine (HVM.out _).mono ?_; rintro e w3 ⟨rfl, rfl⟩) | fail)
            first
              | (go_region_with (first
                  | (go_at_call 79; refine (HVW.out _ (HSL.out.now (K.out _ (Below.refl _ _).drew).2.2)).mono ?_; rintro e w4 ⟨rfl, hb4⟩; obtain ⟨l0, l1, b4⟩ := K.out _ (bfrom (Below.refl _ _).drew hb4))
                  | fail))
              | fail
            all_goals
              go_wp2
              go_roundw
              case rel => exact ⟨j + 1, by omega, by go_num, congrArg (Value.int .i64) (by rw [HDIV.out, HRS.out]), by rw [HWS.out], bfrom hbi b4⟩
              case measure => simp [intOf]; omega
        · obtain rfl : n = j := by omega
          have HK := Lib.hid (HC.out.outer.now hbw)
          obtain ⟨bo, oo, hAe, hsl⟩ := HK.out.get hn1
          have HSL := Lib.hid hsl
          have HOKO := Lib.hid HC.out.good.ok
          have HCP := Lib.hid (show councilP q ws n C t = decide (q ≤ wtK ws (wonL C (partK C t) n) n) from rfl)
          have hxw := HXW.out.now hbi
          have HOT2 := Lib.hid (HOT.out.below hbi hgl)
          have hold := HOT2.out.cell hlt
          rw [if_neg (Nat.lt_irrefl t)] at hold
          have hfr := HOT2.out.frozen t
          have hgl2 := HOT2.out.lt
          have hwx := hxw.lt
          rw [hAe] at hxw
          have K := Lib.hid (show ∀ W, Below wr.heap.size wr W → W.cell? ⟨w.heap.size, 0, none⟩ = some (.int .i64 q) ∧ W.cell? ⟨w.heap.size, 1, none⟩ = some (.slice (some ⟨bo, oo, none⟩) n cap) ∧ W.cell? ⟨w1.heap.size, t, none⟩ = some (.bool false) ∧ W.frozen? ⟨w1.heap.size, t, none⟩ = false from fun W h => ⟨(hxw.now h).cells.1, (hxw.now h).cells.2, (h.cell (p := ⟨w1.heap.size, t, none⟩) hgl2).trans hold, (h.frozen (p := ⟨w1.heap.size, t, none⟩) hgl2).trans hfr⟩)
          have HSET := Lib.hid (show ∀ W, Below wr.heap.size wr W → Own (W.setCell ⟨w1.heap.size, t, none⟩ (.bool (councilP q ws n C t))) w1.heap.size 4 N (fun s => .bool (if s < t + 1 then councilP q ws n C s else false)) from fun W hb' => ((HOT2.out.below hb' hgl2).set t (.bool (councilP q ws n C t))).congr fun s hs => by
            by_cases e : s = t
            · subst e; rw [if_pos rfl, if_pos (by omega)]
            · rw [if_neg e]
              by_cases h : s < t
              · rw [if_pos h, if_pos (by omega)]
              · rw [if_neg h, if_neg (by omega)])
          have HB1W := Lib.hid (bfrom HBR.out hbi)
          clear hold hfr hxw hAe hsl
          generalize wonL C (partK C t) n = won at *
          have HVW := Lib.hid (fun W hs => voWeight_any (.int .i64 q) bo oo n cap ws won W (by omega) hw512 HOKO.out hs)
          obtain ⟨wv, hwv⟩ : ∃ z, z = wtK ws won n := ⟨_, rfl⟩
          simp only [← hwv] at HVW
          rw [← hwv] at HCP
          clear hwv
          obtain ⟨pt, hpt⟩ : ∃ z, z = councilP q ws n C t := ⟨_, rfl⟩
          rw [← hpt] at HCP
          simp only [← hpt] at HSET
          clear hpt
          obtain ⟨k0, k1, k2, k3⟩ := K.out _ (Below.refl _ _)
          have hne1 : w.heap.size ≠ w1.heap.size := by omega
          have htN : (t : Int) < (N : Int) := by omega
          by_cases hge : q ≤ wv
          · have hd : decide (q ≤ wv) = true := decide_eq_true hge
            rw [hd] at HCP
            go_wp2_with fail
            go_region_held3 (fun w' => w'.cell? ⟨w.heap.size, 0, none⟩ = some (.int .i64 q) ∧ w'.cell? ⟨w.heap.size, 1, none⟩ = some (.slice (some ⟨bo, oo, none⟩) n cap) ∧ (w'.cell? ⟨w1.heap.size, t, none⟩).isSome = true ∧ w'.frozen? ⟨w1.heap.size, t, none⟩ = false)
              (first | exact ⟨k0, k1, by rw [k2]; rfl, k3⟩ | exact ⟨l0, l1, by rw [l2]; rfl, l3⟩ | ((try dsimp only); (repeat' apply And.intro); all_goals (first | exact cellf1 l0 hne1 | exact cellf1 l1 hne1 | exact isSome_set (Option.isSome_iff_exists.2 ⟨_, l2⟩) | go_keep)) | go_keep)
              (first
                | (go_at_call 79; refine (HVW.out _ (HSL.out.now (Below.refl _ _).drew)).mono ?_; rintro e w4 ⟨rfl, hb4⟩; have b4 := bfrom (Below.refl _ wr).drew hb4; obtain ⟨l0, l1, l2, l3⟩ := K.out _ b4)
                | fail)
            all_goals
              go_wp2
              go_roundw
              case rel => exact ⟨t + 1, by omega, by go_num, by have := HSET.out _ b4; rw [HCP.out] at this; exact this, (HB1W.out.trans (b4.mono (by have := HB1W.out.size; omega))).setCell (Nat.le_refl _) _⟩
              case measure => simp [intOf]; omega
          · have hd : decide (q ≤ wv) = false := decide_eq_false hge
            rw [hd] at HCP
            go_wp2_with fail
            go_region_held3 (fun w' => w'.cell? ⟨w.heap.size, 0, none⟩ = some (.int .i64 q) ∧ w'.cell? ⟨w.heap.size, 1, none⟩ = some (.slice (some ⟨bo, oo, none⟩) n cap) ∧ (w'.cell? ⟨w1.heap.size, t, none⟩).isSome = true ∧ w'.frozen? ⟨w1.heap.size, t, none⟩ = false)
              (first | exact ⟨k0, k1, by rw [k2]; rfl, k3⟩ | exact ⟨l0, l1, by rw [l2]; rfl, l3⟩ | ((try dsimp only); (repeat' apply And.intro); all_goals (first | exact cellf1 l0 hne1 | exact cellf1 l1 hne1 | exact isSome_set (Option.isSome_iff_exists.2 ⟨_, l2⟩) | go_keep)) | go_keep)
              (first
                | (go_at_call 79; refine (HVW.out _ (HSL.out.now (Below.refl _ _).drew)).mono ?_; rintro e w4 ⟨rfl, hb4⟩; have b4 := bfrom (Below.refl _ wr).drew hb4; obtain ⟨l0, l1, l2, l3⟩ := K.out _ b4)
                | fail)
            all_goals
              go_wp2
              go_roundw
              case rel => exact ⟨t + 1, by omega, by go_num, by have := HSET.out _ b4; rw [HCP.out] at this; exact this, (HB1W.out.trans (b4.mono (by have := HB1W.out.size; omega))).setCell (Nat.le_refl _) _⟩
              case measure => simp [intOf]; omega
    · obtain rfl : N = t := by omega
      go_wp2
      go_ret
      exact ⟨w1.heap.size, N, rfl, g1.size, HOT.out.congr fun s hs => by rw [if_pos hs], bfrom g1 HBR.out⟩
end Go.Proofs.Ytkckefjpkhjeaab
