/- The quotas from which other sets win: both sides. -/
import Derived.Test.YtlnlkfldlgchhabUf
import Derived.Test.YtlnlkfldlgchhabK1
import Derived.Test.YtlnlkfldlgchhabM1
import Derived.Deep.AppendLies
import Derived.Outline
namespace Go.Proofs.Ytlnlkfldlgchhab
open Go.RowKit Vo

def stepK (D : List Int) (k : Nat) : List Int := (D.take k).map (· + 1)
def stepsL (q : Int) (ws : List Int) (n : Nat) : List Int := if goodB q ws n then stepK (dstL ws n) ((dstL ws n).length - 1) else []
theorem stepK_len {D : List Int} {k : Nat} (h : k ≤ D.length) : (stepK D k).length = k := by simp [stepK]; omega
theorem stepK_succ {D : List Int} {k : Nat} (h : k < D.length) : intsV (stepK D (k+1)) = intsV (stepK D k) ++ [.int .i64 (D.getD k 0 + 1)] := by
  simp only [stepK, intsV, List.take_succ_eq_append_getElem h, List.map_append, List.map_cons, List.map_nil]
  rw [List.getD_eq_getElem?_getD, List.getElem?_eq_getElem h]
  rfl
theorem steps_last {q : Int} {ws : List Int} {n : Nat} (hg : Vo.Good q ws n) : 1 ≤ (posL ws n).length ∧ (dstL ws n).getD (posL ws n).length 0 = sumK ws n ∧ ∀ j, j < (posL ws n).length → (dstL ws n).getD j 0 < sumK ws n := by
  obtain ⟨hl, h0, _⟩ := dst_at hg.ok
  obtain ⟨hp, hm⟩ := dst_facts ws n
  have hb := dst_bd hg.hi hg.ok
  have hin : sumK ws n ∈ dstL ws n := (hm _).2 ⟨2^n - 1, by have := Nat.two_pow_pos n; omega, hg.all⟩
  obtain ⟨k, hk, e⟩ := List.mem_iff_getElem.1 hin
  have e2 : (dstL ws n).getD k 0 = sumK ws n := by rw [List.getD_eq_getElem?_getD, List.getElem?_eq_getElem hk]; exact e
  have hkm : k = (posL ws n).length := by
    rcases Nat.lt_or_ge k (posL ws n).length with h | h
    · have := rise_at hp h (by omega)
      have := (hb (posL ws n).length (by omega)).2.1
      omega
    · omega
  have h1 : 1 ≤ (posL ws n).length := by
    rcases Nat.eq_zero_or_pos (posL ws n).length with h | h
    · rw [← hkm] at h
      rw [h, h0] at e2
      have := hg.q1; have := hg.q2
      omega
    · exact h
  rw [← hkm] at h1 ⊢
  exact ⟨h1, e2, fun j hj => by rw [← e2]; exact rise_at hp hj hk⟩
theorem stepsL_len (q : Int) (ws : List Int) (n : Nat) (hn : n ≤ 9) : (stepsL q ws n).length ≤ 1048576 := by
  unfold stepsL
  split
  · rw [stepK_len (by omega)]
    have := dst_len (ws := ws) (n := n)
    have := pow_lt hn
    omega
  · simp

set_option maxRecDepth 20000 in
set_option maxHeartbeats 4000000 in
theorem quotaSteps_any (q : Int) (A : Option Addr) (n cap : Nat) (ws : List Int) (w : World) (hm : n ≤ 9223372036854775807) (hk : Known w A n ws) :
    Calls Try.prog 29 #[.agg #[.int .i64 q, .slice A n cap]] w fun e w' => PairAt (stepsL q ws n) (goodB q ws n) w w' e := by
  have HK := Lib.hid hk
  clear hk
  obtain ⟨i0, hi0, hz0, hz1, hz2⟩ := info_parts infoInt
  have hx := Box.new w (.int .i64 q) (.slice A n cap)
  have hb0 := below1 w (.cells #[.int .i64 q, .slice A n cap] 29)
  by_cases hg : Vo.Good q ws n
  · obtain ⟨b, off, rfl, hsl⟩ := HK.out.get hg.lo
    have HSL := Lib.hid hsl
    have HOK := Lib.hid hg.ok
    have HGB := Lib.hid (goodB_true hg)
    have h1 := hg.lo
    have hn10 : n < 10 := by have := hg.hi; omega
    obtain ⟨hm1, hlast, hless⟩ := steps_last hg
    have hdl := (dst_at hg.ok).1
    have hbd := dst_bd hg.hi hg.ok
    have hpl := dst_len (ws := ws) (n := n)
    have h512 := pow_lt (n := n) (by omega)
    have HSS := Lib.hid (fun W h => sums_any q b off n cap ws W h1 hn10 HOK.out h)
    have HTT := Lib.hid (fun W h => total_any q b off n cap ws W hn10 HOK.out h)
    have HV := Lib.hid (show stepsL q ws n = stepK (dstL ws n) (posL ws n).length from by unfold stepsL; rw [HGB.out, hdl]; rfl)
    obtain ⟨D, hD⟩ : ∃ D, D = dstL ws n := ⟨_, rfl⟩
    rw [← hD] at hlast hdl hbd hpl HSS HV
    simp only [← hD] at hless
    obtain ⟨m, hm2⟩ : ∃ m, m = (posL ws n).length := ⟨_, rfl⟩
    rw [← hm2] at hm1 hlast hless hdl HV
    rw [hdl] at hpl HSS hbd
    obtain ⟨T, hT⟩ : ∃ T, T = sumK ws n := ⟨_, rfl⟩
    simp only [← hT] at hlast hless hbd HTT
    have HDL := Lib.hid hdl
    have HBD := Lib.hid hbd
    have HLA := Lib.hid hlast
    have HLE := Lib.hid hless
    have hT9 : T ≤ 9000 := (hbd 0 (by omega)).2.2
    clear hg hsl hD hm2 hT hdl hbd hlast hless
    go_enter Try.func29, Try.ntmps29
    go_wp2_with fail
    refine (isCommittee_any q _ n cap ws _ hm (HK.out.now hb0)).mono ?_
    rintro e w1 ⟨rfl, hb⟩
    rw [HGB.out]
    have g1 := bfrom hb0 hb
    have hs1 := Lib.hid (HSL.out.now g1)
    obtain ⟨hc0, hc1⟩ := (hx.now hb).cells
    go_wp2_with (go_at_call 65; refine (HSS.out _ hs1.out).mono ?_; rintro e w2 ⟨g, c, rfl, hown, hb2⟩)
    have hx2 := (hx.now hb).now hb2
    have g2 := bfrom g1 hb2
    have HS2 := Lib.hid (HSL.out.now g2)
    have hO : Own w2 g 3 (m+1) (fun i => .int .i64 (D.getD i 0)) := Own.of_own hown fun i hi => by
      have : i < D.length := by rw [HDL.out]; exact hi
      simp [intsV, List.getD_eq_getElem?_getD, this]
    have HO2 := Lib.hid hO
    have hgl := hO.lt
    have K := Lib.hid (show ∀ W, Below w2.heap.size w2 W → (W.cell? ⟨w.heap.size, 0, none⟩ = some (.int .i64 q) ∧ W.cell? ⟨w.heap.size, 1, none⟩ = some (.slice (some ⟨b, off, none⟩) n cap)) from fun W hb => (hx2.now hb).cells)
    clear hown hO hc0 hc1
    go_loopw [4, 13] (fun v i wr => ∃ (j k : Nat) (C : Option Addr) (c4 : Nat), j ≤ m + 1 ∧ k ≤ m ∧ (k = j ∨ k + 1 = j) ∧ (k + 1 = j → k = m) ∧ i = .int .i64 j ∧ v = .slice C k c4 ∧ wr.ownsRow w2.heap.size 3 1 (.slice C k c4) k (intsV (stepK D k)) ∧ Below w2.heap.size w2 wr) (fun _ i _ => m + 1 - (intOf i).toNat)
    case atStart => exact ⟨0, 0, none, 0, by omega, by omega, Or.inl rfl, by omega, rfl, rfl, World.ownsRow_nil _ _ _ _, Below.refl _ _⟩
    case round =>
      obtain ⟨j, k, C, c4, hj, hk, hkj, hkm, rfl, rfl, hown, hb3⟩ := hrel
      have HO := Lib.hid hown
      have hsz := hb3.size
      obtain ⟨c0, c1⟩ := K.out _ hb3
      clear hown
      by_cases hlt : j < m + 1
      · obtain rfl : k = j := by omega
        clear hkj hkm
        have hcell := (HO2.out.below hb3 hgl).cell (i := k) hlt
        have hbx := HBD.out k hlt
        have HTW := Lib.hid (HTT.out _ (HS2.out.now hb3))
        have b4f := Lib.hid (fun w4 (h : Below wr.heap.size wr w4) => bfromB hb3 h hb3.size)
        by_cases hjm : k < m
        · have hlx := HLE.out k hjm
          have HST := Lib.hid (stepK_succ (D := D) (k := k) (by rw [HDL.out]; exact hlt))
          generalize D.getD k 0 = x at *
          go_wp2_with (first
            | (go_at_call 66; refine HTW.out.mono ?_; rintro e w4 ⟨rfl, hb4⟩; have b4 := b4f.out _ hb4; have hsz4 := b4.size; have HO4 := Lib.hid (owns_now HO.out hb4))
            | (at_builtin; refine wpList_append_lies _ rfl _ _ _ rfl w2.heap.size 3 i0 _ 1 8 Try.underlying22 hi0 hz0 hz1 hz2 rfl (by decide) (.slice C k c4) k (intsV (stepK D k)) rfl (HO4.out.alloc _) ⟨w4.heap.size, 0, none⟩ 1 1 [.int .i64 (x + 1)] rfl rfl (World.news_of_block (cs := #[.int .i64 (x + 1)]) (t := 3) (fr := (0, 0)) (heap_alloc_new w4 _)) (by simp [Value.oneCell']) (by omega) (by unfold maxLen; omega) (by omega) (by simp; omega) (w4.heap.size + 1) (by simp) ?_; intro gg cap3 w6 hown6 hgrow hat hlt6))
          have hb6 : Below w2.heap.size w2 w6 := (b4.alloc b4.size (.cells #[.int .i64 (x + 1)] 3)).grown hgrow (by simp; omega) fun i hi => owns_le HO4.out hi
          go_roundw
          case rel => exact ⟨k + 1, k + 1, some ⟨gg, 0, none⟩, cap3, by omega, by omega, Or.inl rfl, by omega, by go_num, rfl, by rw [HST.out]; exact hown6, hb6⟩
          case measure => simp [intOf]; omega
        · obtain rfl : k = m := by omega
          have hlx := HLA.out
          generalize D.getD k 0 = x at *
          obtain rfl : x = T := hlx
          go_wp2_with (first
            | (go_at_call 66; refine HTW.out.mono ?_; rintro e w4 ⟨rfl, hb4⟩; have b4 := b4f.out _ hb4; have hsz4 := b4.size; have HO4 := Lib.hid (owns_now HO.out hb4)))
          go_roundw
          case rel => exact ⟨k + 1, k, C, c4, by omega, by omega, Or.inr rfl, fun _ => rfl, by go_num, rfl, HO4.out, b4⟩
          case measure => simp [intOf] <;> omega
      · obtain rfl : j = m + 1 := by omega
        obtain rfl : k = m := by omega
        have HKL := Lib.hid (show k = (stepsL q ws n).length from by rw [HV.out, stepK_len (by rw [HDL.out]; omega)])
        go_wp2
        go_ret2
        have hown := HO.out
        rw [← HV.out] at hown
        refine ⟨C, c4, by rw [HGB.out, ← HKL.out]; rfl, ?_, bfrom g2 hb3⟩
        rw [← HKL.out]
        exact owns_less hown g2.size
  · have HGB := Lib.hid (goodB_false hg)
    clear hg
    go_enter Try.func29, Try.ntmps29
    go_wp2_with fail
    refine (isCommittee_any q A n cap ws _ hm (HK.out.now hb0)).mono ?_
    rintro e w1 ⟨rfl, hb⟩
    rw [HGB.out]
    go_wp2
    go_ret2
    rw [show stepsL q ws n = [] from by unfold stepsL; rw [HGB.out]; rfl, HGB.out]
    exact PairAt.none_ (bfrom hb0 hb)

set_option maxRecDepth 20000 in
set_option maxHeartbeats 4000000 in
theorem sQuotaSteps_any (q : Int) (A : Option Addr) (n cap : Nat) (ws : List Int) (w : World) (hm : n ≤ 9223372036854775807) (hk : Known w A n ws) :
    Calls Try.prog 28 #[.agg #[.int .i64 q, .slice A n cap]] w fun e w' => PairAt (stepsL q ws n) (goodB q ws n) w w' e := by
  have HK := Lib.hid hk
  clear hk
  obtain ⟨i0, hi0, hz0, hz1, hz2⟩ := info_parts infoInt
  have hx := Box.new w (.int .i64 q) (.slice A n cap)
  have hb0 := below1 w (.cells #[.int .i64 q, .slice A n cap] 29)
  by_cases hg : Vo.Good q ws n
  · obtain ⟨b, off, rfl, hsl⟩ := HK.out.get hg.lo
    have HSL := Lib.hid hsl
    have HOK := Lib.hid hg.ok
    have HGB := Lib.hid (goodB_true hg)
    have h1 := hg.lo
    have hn10 : n < 10 := by have := hg.hi; omega
    obtain ⟨hm1, _, _⟩ := steps_last hg
    obtain ⟨hdl, hd0, hdp⟩ := dst_at hg.ok
    have hbd := dst_bd hg.hi hg.ok
    have hpl := pos_len ws n
    have h512 := pow_lt (n := n) (by omega)
    have HSS := Lib.hid (fun W h => shSums_any q b off n cap ws W h1 hn10 HOK.out h)
    have HV := Lib.hid (show stepsL q ws n = stepK (dstL ws n) (posL ws n).length from by unfold stepsL; rw [HGB.out, hdl]; rfl)
    obtain ⟨S, hS⟩ : ∃ S, S = posL ws n := ⟨_, rfl⟩
    rw [← hS] at hm1 hdl hdp hpl HSS HV
    obtain ⟨D, hD⟩ : ∃ D, D = dstL ws n := ⟨_, rfl⟩
    rw [← hD] at hdl hd0 hbd HV
    simp only [← hD] at hdp
    obtain ⟨m, hm2⟩ : ∃ m, S.length = m + 1 := ⟨S.length - 1, by omega⟩
    rw [hm2] at hm1 hdl hpl HSS HV
    rw [hdl] at hbd
    have hbt : ∀ j, j < m + 1 + 1 → 0 ≤ D.getD j 0 ∧ D.getD j 0 ≤ 9000 := fun j hj => by have := hbd j hj; omega
    have HDL := Lib.hid hdl
    have HSL2 := Lib.hid hm2
    have HBD := Lib.hid hbt
    have HDP := Lib.hid hdp
    have HST1 := Lib.hid (show intsV (stepK D 1) = [.int .i64 1] from by rw [stepK_succ (k := 0) (by omega), hd0]; rfl)
    clear hg hsl hS hD hm2 hdl hd0 hdp hbd hbt
    go_enter Try.func28, Try.ntmps28
    go_wp2_with fail
    refine (voGood_any q _ n cap ws _ hm (HK.out.now hb0)).mono ?_
    rintro e w1 ⟨rfl, hb⟩
    rw [HGB.out]
    have g1 := bfrom hb0 hb
    have hs1 := Lib.hid (HSL.out.now g1)
    have hb1a := below1 w1 (.cells #[.int .i64 1] 3)
    have hlit := World.ownsRow_lit (base := w1.heap.size) (e := 3) (size := 1) w1 #[.int .i64 1] 1 (Nat.le_refl _) (by unfold maxLen; omega) rfl
    have HLIT := Lib.hid (show (w1.alloc (.cells #[.int .i64 1] 3)).ownsRow w1.heap.size 3 1 (.slice (some ⟨w1.heap.size, 0, none⟩) 1 1) 1 (intsV (stepK D 1)) from by rw [HST1.out]; exact hlit)
    clear hlit
    obtain ⟨hc0, hc1⟩ := ((hx.now hb).now hb1a).cells
    go_wp2_with (go_at_call 63; refine (HSS.out _ (hs1.out.alloc _)).mono ?_; rintro e w2 ⟨C, c, rfl, hown, hb2⟩; obtain ⟨g, c', hv, hg2, hmc, _⟩ := owns_head hown (by omega); obtain ⟨rfl, rfl⟩ : C = some ⟨g, 0, none⟩ ∧ c = c' := (by simpa using hv); have hmc2 : m ≤ c := (by omega); have hmc3 : (m : Int) ≤ c := (by omega); have HOW := Lib.hid hown; clear hown hv)
    have hsa : w1.heap.size + 1 ≤ g := by simpa using hg2
    have HO2 := Lib.hid (show Own w2 g 3 (m+1) (fun i => .int .i64 (D.getD (i+1) 0)) from Own.of_own HOW.out fun i hi => by
      have : i < S.length := by rw [HSL2.out]; exact hi
      rw [← HDP.out]
      simp [intsV, List.getD_eq_getElem?_getD, this])
    have HLI2 := Lib.hid (owns_now HLIT.out hb2)
    have b2 := bfrom hb1a hb2
    clear hc0 hc1
    go_loopw [4, 20] (fun v i wr => ∃ (j gg c4 : Nat), j ≤ m ∧ i = .int .i64 j ∧ v = .slice (some ⟨gg, 0, none⟩) (j + 1 : Nat) c4 ∧ gg ≠ g ∧ wr.ownsRow w1.heap.size 3 1 (.slice (some ⟨gg, 0, none⟩) (j + 1) c4) (j + 1) (intsV (stepK D (j + 1))) ∧ Own wr g 3 (m+1) (fun i => .int .i64 (D.getD (i+1) 0)) ∧ Below w1.heap.size w1 wr) (fun _ i _ => m - (intOf i).toNat)
    case atStart => exact ⟨0, w1.heap.size, 1, Nat.zero_le _, rfl, rfl, by omega, HLI2.out, HO2.out, b2⟩
    case round =>
      obtain ⟨j, gg, c4, hj, rfl, rfl, hne, hown, hO3, hb3⟩ := hrel
      have HO := Lib.hid hown
      have HO3 := Lib.hid hO3
      have hsz := hb3.size
      have hgr := hO3.lt
      clear hown hO3
      by_cases hlt : j < m
      · have hcell := HO3.out.cell (i := j) (by omega)
        have hbx := HBD.out (j+1) (by omega)
        have HST := Lib.hid (stepK_succ (D := D) (k := j+1) (by rw [HDL.out]; omega))
        generalize D.getD (j+1) 0 = x at *
        go_wp2_with (first
          | (at_builtin; refine wpList_append_lies _ rfl _ _ _ rfl w1.heap.size 3 i0 _ 1 8 Try.underlying22 hi0 hz0 hz1 hz2 rfl (by decide) (.slice (some ⟨gg, 0, none⟩) (j + 1) c4) (j + 1) (intsV (stepK D (j + 1))) rfl (HO.out.alloc _) ⟨wr.heap.size, 0, none⟩ 1 1 [.int .i64 (x + 1)] rfl rfl (World.news_of_block (cs := #[.int .i64 (x + 1)]) (t := 3) (fr := (0, 0)) (heap_alloc_new wr _)) (by simp [Value.oneCell']) (by omega) (by unfold maxLen; omega) (by omega) (by simp; omega) (wr.heap.size + 1) (by simp) ?_; intro g6 cap3 w6 hown6 hgrow hat hlt6))
        have hb6 : Below w1.heap.size w1 w6 := (hb3.alloc hb3.size (.cells #[.int .i64 (x + 1)] 3)).grown hgrow (by simp; omega) fun i hi => owns_le HO.out hi
        have hO6 := Own.grown (HO3.out.below (below1 _ (.cells #[.int .i64 (x + 1)] 3)) hgr) hgrow (by simp [Value.ownBlock]; omega)
        have hne6 : g6 ≠ g := by
          rcases hat with h | h
          · have : gg = g6 := by simpa [Value.ownBlock] using h
            omega
          · omega
        go_roundw
        case rel => exact ⟨j + 1, g6, cap3, by omega, by go_num, rfl, hne6, by rw [HST.out]; exact hown6, hO6, hb6⟩
        case measure => simp [intOf]; omega
      · obtain rfl : j = m := by omega
        have HKL := Lib.hid (show j + 1 = (stepsL q ws n).length from by rw [HV.out, stepK_len (by rw [HDL.out]; omega)])
        go_wp2
        go_ret2
        have hown := HO.out
        rw [← HV.out] at hown
        refine ⟨some ⟨gg, 0, none⟩, c4, by rw [HGB.out, ← HKL.out]; rfl, ?_, bfrom g1 hb3⟩
        rw [← HKL.out]
        exact owns_less hown g1.size
  · have HGB := Lib.hid (goodB_false hg)
    clear hg
    go_enter Try.func28, Try.ntmps28
    go_wp2_with fail
    refine (voGood_any q A n cap ws _ hm (HK.out.now hb0)).mono ?_
    rintro e w1 ⟨rfl, hb⟩
    rw [HGB.out]
    go_wp2
    go_ret2
    rw [show stepsL q ws n = [] from by unfold stepsL; rw [HGB.out]; rfl, HGB.out]
    exact PairAt.none_ (bfrom hb0 hb)
theorem quotaSteps_ans (q : Int) (A : Option Addr) (n cap : Nat) (ws : List Int) (w : World) (hm : n ≤ 9223372036854775807) (hk : Known w A n ws) :
    Calls Try.prog 29 #[.agg #[.int .i64 q, .slice A n cap]] w fun e w' => Ans (RS (stepsL q ws n)) (goodB q ws n) w w' e := (quotaSteps_any q A n cap ws w hm hk).mono fun _ _ h => h.ans
theorem sQuotaSteps_ans (q : Int) (A : Option Addr) (n cap : Nat) (ws : List Int) (w : World) (hm : n ≤ 9223372036854775807) (hk : Known w A n ws) :
    Calls Try.prog 28 #[.agg #[.int .i64 q, .slice A n cap]] w fun e w' => Ans (RS (stepsL q ws n)) (goodB q ws n) w w' e := (sQuotaSteps_any q A n cap ws w hm hk).mono fun _ _ h => h.ans
theorem stepsL_small (q : Int) (ws : List Int) (n : Nat) : (stepsL q ws n).length ≤ 1048576 := by
  by_cases h : n ≤ 9
  · exact stepsL_len q ws n h
  · unfold stepsL
    rw [show goodB q ws n = false from by
      cases hh : goodB q ws n with
      | false => rfl
      | true => exact absurd (show Vo.Good q ws n from of_decide_eq_true hh).hi (by omega)]
    simp
end Go.Proofs.Ytlnlkfldlgchhab
