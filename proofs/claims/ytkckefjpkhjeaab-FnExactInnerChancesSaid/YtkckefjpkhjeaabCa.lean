/- Contracts of InnerChances, the program's and the model's. -/
import Derived.Test.YtkckefjpkhjeaabBy
import Derived.Test.YtkckefjpkhjeaabN8
import Derived.Test.YtkckefjpkhjeaabN2
import Derived.OwnWalk
import Derived.Deep.AppendLies
import Derived.Deep.RegionLaw
import Derived.Outline
namespace Go.Proofs.Ytkckefjpkhjeaab
open Go.RowKit Vo

def icN (C : List (Int × List Int)) (i : Nat) : Nat := cnt (winB (qAt C i) (wAt C i) (nAt C i)) (2 ^ nAt C i)
def icL (C : List (Int × List Int)) (n : Nat) : List (Int × Int) := (List.range n).map fun i => share1 (icN C i) (2 ^ nAt C i)
theorem icL_len (C n) : (icL C n).length = n := by simp [icL]
theorem icL_succ (C n) : icL C (n+1) = icL C n ++ [share1 (icN C n) (2 ^ nAt C n)] := by simp [icL, List.range_succ]
def icA (C : List (Int × List Int)) : List (Int × Int) := if comsB 9 C then icL C C.length else []
theorem icA_yes {C} (h : comsB 9 C = true) : icA C = icL C C.length := if_pos h
theorem icA_no {C} (h : comsB 9 C = false) : icA C = [] := if_neg (by rw [h]; simp)
theorem icA_len (C) : 2 * (icA C).length ≤ 1048576 := by
  cases h : comsB 9 C with
  | false => rw [icA_no h]; simp
  | true =>
    rw [icA_yes h, icL_len]
    unfold comsB at h
    simp only [Bool.and_eq_true, decide_eq_true_eq] at h
    omega
theorem comsB_each {C : List (Int × List Int)} {n : Nat} (hn : C.length = n) (h : comsB 9 C = true) : (1 ≤ n ∧ n ≤ 9) ∧ ∀ i, i < n → Vo.Good (qAt C i) (wAt C i) (nAt C i) := by
  unfold comsB at h
  rw [hn] at h
  simp only [Bool.and_eq_true, decide_eq_true_eq] at h
  exact ⟨h.1, fun i hi => of_decide_eq_true (allK_iff.1 h.2 i hi)⟩

set_option maxRecDepth 20000 in
set_option maxHeartbeats 8000000 in
theorem iInnerChances_ans (A : Option Addr) (n cp : Nat) (C : List (Int × List Int)) (w : World) (hm : n ≤ 9223372036854775807) (hk : KCS w A n C) (_hT : csum C n ≤ 1048576) :
    Calls Try.prog 12 #[.slice A n cp] w fun e w' => Ans (RSh (icA C)) (comsB 9 C) w w' e := by
  obtain ⟨i0, hi0, hz0, hz1, hz2⟩ := info_parts infoShare
  have HK := Lib.hid hk
  have HLEN := Lib.hid hk.1
  have HAC := Lib.hid (areCommittees_any 9 A n cp C w hm (by omega) hk)
  clear hk
  cases hc : comsB 9 C with
  | false =>
    have HC := Lib.hid hc
    rw [icA_no hc]
    clear hc
    go_enter Try.func12, Try.ntmps12
    go_wp2_with fail
    refine HAC.out.mono ?_
    rintro e w1 ⟨rfl, hb1⟩
    rw [HC.out]
    go_wp2
    go_ret2
    exact (ShAt.none_ hb1).ans
  | true =>
    have HC := Lib.hid hc
    obtain ⟨⟨hn1, hn9⟩, hgood⟩ := comsB_each HLEN.out hc
    have HGOOD := Lib.hid hgood
    rw [icA_yes hc, HLEN.out]
    clear hc hgood
    have HSL0 := Lib.hid (icL_len C n)
    go_enter Try.func12, Try.ntmps12
    go_wp2_with fail
    refine HAC.out.mono ?_
    rintro e w1 ⟨rfl, hb1⟩
    rw [HC.out]
    go_wp2_with (first
      | (at_make; refine wpList_make_own _ rfl _ _ 24 rfl w1.heap.size 64 i0 (.agg #[.int .i64 0, .int .i64 0]) 2 Try.underlying24 hi0 hz0 hz1 .i64 .i64 n n rfl rfl rfl (by rw [hz2]; omega) (by unfold maxLen; omega) (by simp) ?_; intro w3 hown3 hgrow3; have b3 : Below w1.heap.size w1 w3 := (Below.refl _ _).grown hgrow3 (Nat.le_refl _) (fun j hj => by cases hj); have HR3 := Lib.hid hown3; clear hown3 hgrow3)
      | fail)
    go_loopw [4, 6, 15] (fun v _ i wr => ∃ (j : Nat) (B : Option Addr) (cp : Nat), j ≤ n ∧ i = .int .i64 j ∧ v = .slice B j cp ∧ wr.ownsRow w1.heap.size 64 2 (.slice B j cp) j (shV (icL C j)) ∧ Below w1.heap.size w1 wr) (fun _ _ i _ => n - (intOf i).toNat)
    case atStart => exact ⟨0, some ⟨w1.heap.size, 0, none⟩, n, Nat.zero_le _, rfl, rfl, HR3.out, b3⟩
    case round =>
      obtain ⟨j, B, cp, hj, rfl, rfl, hown, hbr⟩ := hrel
      have HO := Lib.hid hown
      have hszr := hbr.size
      have hb := bfrom hb1 hbr
      clear hown
      by_cases hlt : j < n
      · obtain ⟨_, b, off, hA, hrow⟩ := HK.out.now hb
        obtain ⟨rfl, hbl⟩ := hA (by omega)
        obtain ⟨A', cap', e0, e1, _, hkn⟩ := hrow j hlt
        have hgj := HGOOD.out j hlt
        have hm9 := hgj.hi
        obtain ⟨bb, oo, rfl, hsl⟩ := hkn.get hgj.lo
        have HSL := Lib.hid hsl
        have HOKJ := Lib.hid hgj.ok
        have HS := Lib.hid (icL_succ C j)
        have HWS := Lib.hid (fun W hs => winningSets_any (qAt C j) bb oo (nAt C j) cap' (wAt C j) W (by omega) HOKJ.out hs)
        have HAS := Lib.hid (fun W => allSets_any (qAt C j) (some ⟨bb, oo, none⟩) (nAt C j) cap' W (by omega))
        have h5 := pow_lt (n := nAt C j) hm9
        have hpos := Nat.two_pow_pos (nAt C j)
        have hic : icN C j ≤ 2 ^ nAt C j := cnt_le _ _
        have HIC := Lib.hid (show cnt (winB (qAt C j) (wAt C j) (nAt C j)) (2 ^ nAt C j) = icN C j from rfl)
        rw [HIC.out] at HWS
        have HLT := Lib.hid (fun W => lowestTerms_any (icN C j) (2 ^ nAt C j) W hpos (by omega) (by omega))
        have HSH := Lib.hid (show share1 (icN C j) (2 ^ nAt C j) = (((icN C j / Nat.gcd (icN C j) (2 ^ nAt C j) : Nat) : Int), ((2 ^ nAt C j / Nat.gcd (icN C j) (2 ^ nAt C j) : Nat) : Int)) from rfl)
        rw [HSH.out] at HS
        clear hA hrow hkn hgj hsl HSH HIC
        generalize icN C j / Nat.gcd (icN C j) (2 ^ nAt C j) = x at *
        generalize 2 ^ nAt C j / Nat.gcd (icN C j) (2 ^ nAt C j) = y at *
        generalize icN C j = cn at *
        generalize qAt C j = q1 at *
        generalize wAt C j = ws1 at *
        obtain ⟨D, hD⟩ : ∃ z, z = 2 ^ nAt C j := ⟨_, rfl⟩
        rw [← hD] at h5 hpos hic
        simp only [← hD] at HWS HAS HLT
        clear hD
        generalize nAt C j = m1 at *
        have hy := Box.new wr (.int .i64 q1) (.slice (some ⟨bb, oo, none⟩) m1 cap')
        have b0 := below1 wr (.cells #[.int .i64 q1, .slice (some ⟨bb, oo, none⟩) m1 cap'] 43)
        have K := Lib.hid (show ∀ W, Below (wr.alloc (.cells #[.int .i64 q1, .slice (some ⟨bb, oo, none⟩) m1 cap'] 43)).heap.size (wr.alloc (.cells #[.int .i64 q1, .slice (some ⟨bb, oo, none⟩) m1 cap'] 43)) W → W.cell? ⟨wr.heap.size, 0, none⟩ = some (.int .i64 q1) ∧ W.cell? ⟨wr.heap.size, 1, none⟩ = some (.slice (some ⟨bb, oo, none⟩) m1 cap') ∧ Below wr.heap.size wr W from fun W h => ⟨(hy.now h).cells.1, (hy.now h).cells.2, bfrom b0 h⟩)
        obtain ⟨k0, k1, _⟩ := K.out _ (Below.refl _ _)
        clear hy
        go_wp2_with fail
        go_region_law (first
          | (go_simp; go_at_call 41; refine (HWS.out _ (HSL.out.now (K.out _ (Below.refl _ _).drew).2.2)).mono ?_; rintro e wA ⟨rfl, hbA⟩; have gA := bfrom (Below.refl _ (wr.alloc (.cells #[.int .i64 q1, .slice (some ⟨bb, oo, none⟩) m1 cap'] 43))).drew hbA; obtain ⟨a0, a1, _⟩ := K.out _ gA)
          | (go_simp; go_at_call 42; refine (HAS.out _).mono ?_; rintro e wB ⟨rfl, hbB⟩; have gB := bfrom gA hbB; obtain ⟨b0', b1', _⟩ := K.out _ gB)
          | (go_simp; go_at_call 40; refine (HLT.out _).mono ?_; rintro e wC ⟨rfl, hbC⟩; have gC := bfrom gB hbC; have hC := (K.out _ gC).2.2; have HOC := Lib.hid (owns_now HO.out hC); have hszC := hC.size)
          | (refine step_append_lies _ (by rfl) _ _ _ (by rfl) w1.heap.size 64 i0 _ 2 16 Try.underlying24 hi0 hz0 hz1 hz2 rfl (by decide) (.slice B j cp) j (shV (icL C j)) (by rfl) (HOC.out.alloc _) ⟨wC.heap.size, 0, none⟩ 1 1 [.int .i64 x, .int .i64 y] (by rfl) (by rfl) (World.news_of_block (cs := #[.int .i64 x, .int .i64 y]) (t := 64) (fr := (0, 0)) (heap_alloc_new wC _)) (by simp [Value.oneCell']) (by omega) (by unfold maxLen; omega) (by omega) (by simp; omega) (wC.heap.size + 1) (by simp) ?_; intro gg cap4 w6 hown6 hgrow6 hat hlt6))
        all_goals
          have b5 := hbr.trans (hC.mono hszr)
          have b6 : Below w1.heap.size w1 w6 := (b5.alloc b5.size (.cells #[.int .i64 x, .int .i64 y] 64)).grown hgrow6 (by have := b5.size; simp; omega) fun i hi => owns_le HOC.out hi
          go_wp2
          go_roundw
          case rel => exact ⟨j + 1, some ⟨gg, 0, none⟩, cap4, by omega, by go_num, by simp, by rw [HS.out, shV_append]; simpa [shV] using hown6, b6⟩
          case measure => simp [intOf]; omega
      · obtain rfl : j = n := by omega
        go_wp2
        go_ret2
        exact ShAt.ans ⟨B, cp, by rw [HSL0.out]; rfl, by rw [HSL0.out]; exact owns_less HO.out hb1.size, hb⟩

set_option maxRecDepth 20000 in
set_option maxHeartbeats 8000000 in
theorem sInnerChances_ans (b0 off0 n : Nat) (C : List (Int × List Int)) (w : World) (hm : n ≤ 9223372036854775807) (hk : KCS w (some ⟨b0, off0, none⟩) n C) (hT : csum C n ≤ 1048576) :
    Calls Try.prog 10 #[.slice (some ⟨b0, off0, none⟩) n n] w fun e w' => Ans (RSh (icA C)) (comsB 9 C) w w' e := by
  obtain ⟨i0, hi0, hz0, hz1, hz2⟩ := info_parts infoShare
  have HK := Lib.hid hk
  have HLEN := Lib.hid hk.1
  have HAC := Lib.hid (chInners_any _ n n C w hm hT hk)
  clear hk
  cases hc : comsB 9 C with
  | false =>
    have HC := Lib.hid hc
    rw [icA_no hc]
    clear hc
    go_enter Try.func10, Try.ntmps10
    go_wp2_with fail
    refine HAC.out.mono ?_
    rintro e w1 ⟨rfl, hb1⟩
    rw [HC.out]
    go_wp2
    go_ret2
    exact (ShAt.none_ hb1).ans
  | true =>
    have HC := Lib.hid hc
    obtain ⟨⟨hn1, hn9⟩, hgood⟩ := comsB_each HLEN.out hc
    have HGOOD := Lib.hid hgood
    rw [icA_yes hc, HLEN.out]
    clear hc hgood
    have HSL0 := Lib.hid (icL_len C n)
    go_enter Try.func10, Try.ntmps10
    go_wp2_with fail
    refine HAC.out.mono ?_
    rintro e w1 ⟨rfl, hb1⟩
    rw [HC.out]
    go_wp2_with fail
    go_loopw [4, 6, 7, 8, 10, 16] (fun v _ _ _ _ i wr => ∃ (j : Nat) (B : Option Addr) (cp : Nat), j ≤ n ∧ i = .int .i64 j ∧ v = .slice B j cp ∧ wr.ownsRow w1.heap.size 64 2 (.slice B j cp) j (shV (icL C j)) ∧ Below w1.heap.size w1 wr) (fun _ _ _ _ _ i _ => n - (intOf i).toNat)
    case atStart => exact ⟨0, none, 0, Nat.zero_le _, rfl, rfl, World.ownsRow_nil _ _ _ _, Below.refl _ _⟩
    case round =>
      obtain ⟨j, B, cp, hj, rfl, rfl, hown, hbr⟩ := hrel
      have HO := Lib.hid hown
      have hszr := hbr.size
      have hb := bfrom hb1 hbr
      clear hown
      by_cases hlt : j < n
      · obtain ⟨_, b, off, hA, hrow⟩ := HK.out.now hb
        obtain ⟨hA, hbl⟩ := hA (by omega)
        injection hA with hA
        injection hA with hA1 hA2
        subst hA1 hA2
        obtain ⟨A', cap', e0, e1, _, hkn⟩ := hrow j hlt
        have hgj := HGOOD.out j hlt
        have hm9 := hgj.hi
        obtain ⟨bb, oo, rfl, hsl⟩ := hkn.get hgj.lo
        have HSL := Lib.hid hsl
        have HOKJ := Lib.hid hgj.ok
        have HS := Lib.hid (icL_succ C j)
        have HVW := Lib.hid (fun W hs => voWins_any (qAt C j) bb oo (nAt C j) cap' (wAt C j) W (by omega) HOKJ.out hs)
        simp only [WinsAt] at HVW
        have h5 := pow_lt (n := nAt C j) hm9
        have hpos := Nat.two_pow_pos (nAt C j)
        have hic : icN C j ≤ 2 ^ nAt C j := cnt_le _ _
        have HIC := Lib.hid (show cnt (winB (qAt C j) (wAt C j) (nAt C j)) (2 ^ nAt C j) = icN C j from rfl)
        have HLT := Lib.hid (fun W => pwShare_any (icN C j) (2 ^ nAt C j) W hpos (by omega) (by omega))
        have HSH := Lib.hid (show share1 (icN C j) (2 ^ nAt C j) = (((icN C j / Nat.gcd (icN C j) (2 ^ nAt C j) : Nat) : Int), ((2 ^ nAt C j / Nat.gcd (icN C j) (2 ^ nAt C j) : Nat) : Int)) from rfl)
        rw [HSH.out] at HS
        clear hrow hkn hgj hsl HSH
        generalize icN C j / Nat.gcd (icN C j) (2 ^ nAt C j) = x at *
        generalize 2 ^ nAt C j / Nat.gcd (icN C j) (2 ^ nAt C j) = y at *
        generalize icN C j = cn at *
        obtain ⟨p, hp⟩ : ∃ z, z = winB (qAt C j) (wAt C j) (nAt C j) := ⟨_, rfl⟩
        simp only [← hp] at HVW HIC
        clear hp
        generalize qAt C j = q1 at *
        generalize wAt C j = ws1 at *
        obtain ⟨D, hD⟩ : ∃ z, z = 2 ^ nAt C j := ⟨_, rfl⟩
        rw [← hD] at h5 hpos hic HIC
        simp only [← hD] at HVW HLT
        clear hD
        generalize nAt C j = m1 at *
        have b0 := below1 wr (.cells #[.int .i64 q1, .slice (some ⟨bb, oo, none⟩) m1 cap'] 43)
        obtain ⟨k0, k1⟩ := (Box.new wr (.int .i64 q1) (.slice (some ⟨bb, oo, none⟩) m1 cap')).cells
        go_wp2_with fail
        refine (HVW.out _ (HSL.out.now b0)).mono ?_
        rintro e w2 ⟨g, cap2, rfl, hg, hown2, hb2⟩
        have HOW := Lib.hid hown2
        have hgl := hown2.lt
        have g2 := bfrom b0 hb2
        clear hown2 k0 k1
        go_wp2_with fail
        go_loop [7, 10, 24] (fun c _ i => ∃ t : Nat, t ≤ D ∧ i = .int .i64 t ∧ c = .int .i64 (cnt p t : Nat)) (fun _ _ i => D - (intOf i).toNat)
        case atStart => exact ⟨0, Nat.zero_le _, rfl, rfl⟩
        case round =>
          obtain ⟨t, ht, rfl, rfl⟩ := hrel
          have hcl := cnt_le p t
          by_cases hlt2 : t < D
          · have hcell := HOW.out.cell hlt2
            have HSC := Lib.hid (show cnt p (t+1) = cnt p t + if p t then 1 else 0 from rfl)
            generalize cnt p t = c at *
            cases hwin : p t
            all_goals
              rw [hwin] at hcell HSC
              clear hwin
              go_wp2
              go_round
              case rel => exact ⟨t + 1, by omega, by go_num, by rw [HSC.out]; simp⟩
              case measure => simp [intOf]; omega
          · obtain rfl : t = D := by omega
            rw [HIC.out]
            have HO2 := Lib.hid (owns_now HO.out g2)
            go_wp2_with (first
              | (go_at_call 38; refine (HLT.out _).mono ?_; rintro e w5 ⟨rfl, hb5⟩; have HO5 := Lib.hid (owns_now HO2.out hb5); have g5 := bfrom g2 hb5; have b5 := hbr.trans (g5.mono hszr); have hsz5 := b5.size)
              | (at_builtin; refine wpList_append_lies _ rfl _ _ _ rfl w1.heap.size 64 i0 _ 2 16 Try.underlying24 hi0 hz0 hz1 hz2 rfl (by decide) (.slice B j cp) j (shV (icL C j)) rfl (HO5.out.alloc _) ⟨w5.heap.size, 0, none⟩ 1 1 [.int .i64 x, .int .i64 y] rfl rfl (World.news_of_block (cs := #[.int .i64 x, .int .i64 y]) (t := 64) (fr := (0, 0)) (heap_alloc_new w5 _)) (by simp [Value.oneCell']) (by omega) (by unfold maxLen; omega) (by omega) (by simp; omega) (w5.heap.size + 1) (by simp) ?_; intro gg cap4 w6 hown6 hgrow6 hat hlt6)
              | fail)
            have b6 : Below w1.heap.size w1 w6 := (b5.alloc hsz5 (.cells #[.int .i64 x, .int .i64 y] 64)).grown hgrow6 (by simp; omega) fun i hi => owns_le HO5.out hi
            go_roundw
            case rel => exact ⟨j + 1, some ⟨gg, 0, none⟩, cap4, by omega, by go_num, by simp, by rw [HS.out, shV_append]; simpa [shV] using hown6, b6⟩
            case measure => simp [intOf]; omega
      · obtain rfl : j = n := by omega
        go_wp2
        go_ret2
        exact ShAt.ans ⟨B, cp, by rw [HSL0.out]; rfl, by rw [HSL0.out]; exact owns_less HO.out hb1.size, hb⟩
