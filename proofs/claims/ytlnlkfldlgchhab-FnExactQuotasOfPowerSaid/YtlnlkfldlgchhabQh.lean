/- Contracts of the model's unPivots and QuotasOfPower. -/
import Derived.Test.YtlnlkfldlgchhabQg
import Derived.Test.YtlnlkfldlgchhabPy
import Derived.Test.YtlnlkfldlgchhabPu
import Derived.Outline
namespace Go.Proofs.Ytlnlkfldlgchhab
open Go.RowKit Vo

set_option maxRecDepth 20000 in
set_option maxHeartbeats 6000000 in
theorem sQuotasOfPower_any (q : Int) (A : Option Addr) (n cap : Nat) (ws : List Int) (x : Int) (w : World) (hm : n ≤ 9223372036854775807) (hk : Known w A n ws) (_hx : (Lit.int .i64 x).wf = true) :
    Calls Try.prog 46 #[.agg #[.int .i64 q, .slice A n cap], .int .i64 x] w fun e w' => PairAt (powL q ws n x) (powOk q ws n x) w w' e := by
  have HK := Lib.hid hk
  clear hk
  obtain ⟨i0, hi0, hz0, hz1, hz2⟩ := infoIntParts
  have hb0 := below1 w (.cells #[.int .i64 q, .slice A n cap] 29)
  have hx := Box.new w (.int .i64 q) (.slice A n cap)
  cases hm1 : memOk q ws n x with
  | false =>
    have HM := Lib.hid hm1
    have HO := Lib.hid (show powOk q ws n x = false from by unfold powOk; rw [hm1]; rfl)
    have HV := Lib.hid (show powL q ws n x = [] from okL_no HO.out)
    clear hm1
    go_enter Try.func46, Try.ntmps46
    go_wp2_with fail
    refine (pwMember_any q A n cap ws x _ hm (HK.out.now hb0)).mono ?_
    rintro e w1 ⟨rfl, hb1⟩
    rw [HM.out]
    go_wp2
    go_ret2
    rw [HV.out, HO.out]
    exact PairAt.none_ (bfrom hb0 hb1)
  | true =>
    obtain ⟨hg, hx0, hxn⟩ := memOk_parts hm1
    have HM := Lib.hid hm1
    obtain ⟨b, off, rfl, hsl⟩ := HK.out.get hg.lo
    obtain ⟨i, rfl⟩ : ∃ i : Nat, x = i := ⟨x.toNat, by omega⟩
    have HSL := Lib.hid hsl
    have hn9 := hg.hi
    have hn1 := hg.lo
    have htot := hg.tot
    have hq1 := hg.q1
    have hq2 := hg.q2
    have hin : i < n := by omega
    have HPO := Lib.hid (show powOk q ws n i = decide (sumK ws n ≤ 200) from by unfold powOk; rw [hm1]; rfl)
    have HVS := Lib.hid (fun W (h : Sl W b off n ws) => voSum_any b off n cap ws W (by omega) hg.ok h)
    have HUPP := Lib.hid (show ∀ (j : Nat) W, (j : Int) + 1 ≤ sumK ws n → Below w.heap.size w W → Calls Try.prog 89 #[.agg #[.int .i64 ((j : Int) + 1), .slice (some ⟨b, off, none⟩) n cap], .slice (some ⟨W.heap.size, 0, none⟩) 1 1] (W.alloc (.cells #[.int .i64 i] 3)) fun e w' => ∃ P : Int, e = .returned (.tuple #[.int .i64 (powF ws n i (j+1) : Nat), .int .i64 P]) ∧ Below (W.alloc (.cells #[.int .i64 i] 3)).heap.size (W.alloc (.cells #[.int .i64 i] 3)) w' from fun j W hj hb => by
      have h := unPivots_any ((j : Int) + 1) (some ⟨b, off, none⟩) n cap ws W.heap.size 0 1 1 [(i : Int)] (W.alloc (.cells #[.int .i64 i] 3)) ⟨hn1, hn9, hg.ok, by omega, hj⟩ (Known.of ((hsl.now hb).alloc _)) (by omega) (lit1_sl W i) (one_in hin)
      rw [setN_one] at h
      exact h.mono fun e w' h => ⟨_, h.1, h.2⟩)
    obtain ⟨S, hS⟩ : ∃ S : Nat, sumK ws n = S := ⟨(sumK ws n).toNat, by omega⟩
    have HPL := Lib.hid (show sumK ws n ≤ 200 → powL q ws n i = bstL (powF ws n i) S from fun h => by unfold powL; rw [okL_yes (by rw [HPO.out]; exact decide_eq_true h), Int.toNat_natCast, hS, Int.toNat_natCast])
    rw [hS] at HVS HPO HPL hq2 htot HUPP
    have HF := Lib.hid (show ∀ j, powF ws n i j ≤ 100000000000000 from powF_le hn9)
    obtain ⟨f, hf⟩ : ∃ f, f = powF ws n i := ⟨_, rfl⟩
    rw [← hf] at HUPP HPL HF
    have HMM := Lib.hid (bstM_le HF.out)
    clear hm1 hg hsl hS hf
    by_cases h200 : S ≤ 200
    · have HOK := Lib.hid (show powOk q ws n i = true from by rw [HPO.out]; simp; omega)
      have HV := Lib.hid (HPL.out (by omega))
      have hS' : ¬ ((S : Int) > 200) := by omega
      go_enter Try.func46, Try.ntmps46
      go_wp2_with fail
      refine (pwMember_any q _ n cap ws i _ hm (HK.out.now hb0)).mono ?_
      rintro e w1 ⟨rfl, hb1⟩
      rw [HM.out]
      have g1 := bfrom hb0 hb1
      have hx1 := hx.now hb1
      obtain ⟨c0, c1⟩ := hx1.cells
      go_wp2_with (go_at_call 53; refine (HVS.out _ (HSL.out.now g1)).mono ?_; rintro e w3 ⟨rfl, rfl⟩)
      have hxk : w.heap.size < w1.heap.size := hx1.lt
      have HO1 := Lib.hid (World.ownsRow_nil w1 (w.heap.size + 1) 3 1)
      clear hx hb0 hb1 c0 c1
      go_loopw [6, 7, 8, 9, 10] (fun u m k _ _ wr => ∃ (j : Nat) (A : Option Addr) (cp : Nat), j ≤ S ∧ k = .int .i64 ((j : Int) + 1) ∧ m = .int .i64 (if j = 0 then -1 else ((bstM f j : Nat) : Int)) ∧ u = .slice A (bstL f j).length cp ∧ wr.ownsRow (w.heap.size + 1) 3 1 (.slice A (bstL f j).length cp) (bstL f j).length ((bstL f j).map (Value.int .i64)) ∧ Below (w.heap.size + 1) w1 wr) (fun _ _ k _ _ _ => S + 1 - (intOf k).toNat)
      case atStart => exact ⟨0, none, 0, Nat.zero_le _, rfl, rfl, rfl, HO1.out, Below.refl _ _⟩
      case round =>
        obtain ⟨j, A, cp, hj, rfl, rfl, rfl, hown, hbr⟩ := hrel
        have HO := Lib.hid hown
        have hwr : Below w.heap.size w wr := g1.trans (hbr.mono (Nat.le_succ _))
        have hxr := hx1.of_below hbr (Nat.lt_succ_self _)
        have hszr : w.heap.size + 1 ≤ wr.heap.size := Nat.le_trans hxk hbr.size
        have hlen := bstL_le f j
        obtain ⟨c0, c1⟩ := hxr.cells
        clear hown
        by_cases hlt : j < S
        · have hj1 : ((j + 1 : Nat) : Int) = (j : Int) + 1 := by omega
          have HUP := Lib.hid (HUPP.out j wr (by omega) hwr)
          have HBE := Lib.hid (show ∀ w5, Below (wr.alloc (.cells #[.int .i64 i] 3)).heap.size (wr.alloc (.cells #[.int .i64 i] 3)) w5 → Below (w.heap.size + 1) w1 w5 from fun w5 h => (hbr.alloc hszr (.cells #[.int .i64 i] 3)).trans (h.mono (by rw [World.size_alloc]; omega)))
          have hv1 := HF.out (j+1)
          have hm1 := HMM.out j
          have hjS : (j : Int) + 1 ≤ S := by omega
          obtain ⟨cx0, cx1⟩ := (hxr.alloc (.cells #[.int .i64 i] 3)).cells
          obtain ⟨v, hvv⟩ : ∃ v, v = f (j+1) := ⟨_, rfl⟩
          obtain ⟨m, hmm⟩ : ∃ m, m = bstM f j := ⟨_, rfl⟩
          obtain ⟨ln, hln⟩ : ∃ ln, ln = (bstL f j).length := ⟨_, rfl⟩
          rw [← hvv] at HUP hv1
          rw [← hmm] at hm1
          rw [← hln] at HO hlen
          rw [← hmm, ← hln]
          by_cases hnew : j = 0 ∨ bstM f j < f (j+1)
          · obtain ⟨eM, eL⟩ := bst_new hnew
            have HEM := Lib.hid (show bstM f (j+1) = v from eM.trans hvv.symm)
            have HEL := Lib.hid eL
            rw [hj1] at HEL
            clear eM eL
            obtain ⟨M, hM⟩ : ∃ M : Int, M = if j = 0 then -1 else ((m : Nat) : Int) := ⟨_, rfl⟩
            rw [← hM]
            have hMv : M < v := by
              rw [hM]
              by_cases h0 : j = 0
              · rw [if_pos h0]; omega
              · rw [if_neg h0, hmm, hvv]; omega
            clear hvv hmm hln hnew hM
            go_wp2_with (first
              | (go_at_call 53; refine (HVS.out _ (HSL.out.now hwr)).mono ?_; rintro e w3 ⟨rfl, rfl⟩)
              | (go_at_call 89; refine HUP.out.mono ?_; rintro e w5 ⟨P, rfl, hb5⟩; have b5 := HBE.out w5 hb5)
              | (at_builtin; refine wpList_append_lies _ rfl _ _ _ rfl (w.heap.size + 1) 3 i0 _ 1 8 Try.underlying22 hi0 hz0 hz1 hz2 rfl (by decide) (.slice none 0 0) 0 [] rfl (World.ownsRow_nil _ _ _ _) ⟨w5.heap.size, 0, none⟩ 1 1 [.int .i64 ((j : Int) + 1)] rfl rfl (World.news_of_block (cs := #[.int .i64 ((j : Int) + 1)]) (t := 3) (fr := (0, 0)) (heap_alloc_new w5 _)) (by simp [Value.oneCell']) (by omega) (by unfold maxLen; omega) (by omega) (Nat.le_trans hxk (Nat.le_trans b5.size (by rw [World.size_alloc]; omega))) (w5.heap.size + 1) (by simp) ?_; intro gg cap4 w6 hown6 hgrow6 hat hlt6)
              | fail)
            have b6 : Below (w.heap.size + 1) w1 w6 := (b5.alloc (Nat.le_trans hxk b5.size) (.cells #[.int .i64 ((j : Int) + 1)] 3)).grown hgrow6 (Nat.le_trans hxk (Nat.le_trans b5.size (by rw [World.size_alloc]; omega))) fun i hi => by cases hi
            go_roundw
            case rel => exact ⟨j + 1, some ⟨gg, 0, none⟩, cap4, by omega, by go_num, by rw [if_neg (Nat.succ_ne_zero j), HEM.out], by rw [HEL.out]; simp, by rw [HEL.out]; simpa using hown6, b6⟩
            case measure => simp [intOf]; omega
          · have h0 : j ≠ 0 := by omega
            rw [if_neg h0]
            have hlp : 0 < ln := by rw [hln]; exact bstL_pos f (by omega)
            by_cases hsame : f (j+1) = bstM f j
            · obtain ⟨eM, eL⟩ := bst_same h0 hsame
              have HEM := Lib.hid (show bstM f (j+1) = m from eM.trans hmm.symm)
              have HEL := Lib.hid eL
              rw [hj1] at HEL
              have HLN := Lib.hid hln
              obtain rfl : v = m := by rw [hvv, hmm]; exact hsame
              clear eM eL hvv hmm hln hnew hsame
              go_wp2_with (first
                | (go_at_call 53; refine (HVS.out _ (HSL.out.now hwr)).mono ?_; rintro e w3 ⟨rfl, rfl⟩)
                | (go_at_call 89; refine HUP.out.mono ?_; rintro e w5 ⟨P, rfl, hb5⟩; have b5 := HBE.out w5 hb5; have HO5 := Lib.hid (owns_now (HO.out.alloc (.cells #[.int .i64 i] 3)) hb5))
                | (at_builtin; refine wpList_append_lies _ rfl _ _ _ rfl (w.heap.size + 1) 3 i0 _ 1 8 Try.underlying22 hi0 hz0 hz1 hz2 rfl (by decide) (.slice A ln cp) ln ((bstL f j).map (Value.int .i64)) rfl (HO5.out.alloc _) ⟨w5.heap.size, 0, none⟩ 1 1 [.int .i64 ((j : Int) + 1)] rfl rfl (World.news_of_block (cs := #[.int .i64 ((j : Int) + 1)]) (t := 3) (fr := (0, 0)) (heap_alloc_new w5 _)) (by simp [Value.oneCell']) (by omega) (by unfold maxLen; omega) (by omega) (Nat.le_trans hxk (Nat.le_trans b5.size (by rw [World.size_alloc]; omega))) (w5.heap.size + 1) (by simp) ?_; intro gg cap4 w6 hown6 hgrow6 hat hlt6)
                | fail)
              have b6 : Below (w.heap.size + 1) w1 w6 := (b5.alloc (Nat.le_trans hxk b5.size) (.cells #[.int .i64 ((j : Int) + 1)] 3)).grown hgrow6 (Nat.le_trans hxk (Nat.le_trans b5.size (by rw [World.size_alloc]; omega))) fun i hi => owns_le HO5.out hi
              go_roundw
              case rel => exact ⟨j + 1, some ⟨gg, 0, none⟩, cap4, by omega, by go_num, by rw [if_neg (Nat.succ_ne_zero j), HEM.out], by rw [HEL.out, HLN.out]; simp, by rw [HEL.out]; simpa [HLN.out] using hown6, b6⟩
              case measure => simp [intOf]; omega
            · obtain ⟨eM, eL⟩ := bst_less h0 (show f (j+1) < bstM f j by omega)
              have HEM := Lib.hid (show bstM f (j+1) = m from eM.trans hmm.symm)
              have HEL := Lib.hid eL
              have HLN := Lib.hid hln
              have hlt2 : v < m := by rw [hmm, hvv]; omega
              clear eM eL hvv hmm hln hnew hsame
              go_wp2_with (first
                | (go_at_call 53; refine (HVS.out _ (HSL.out.now hwr)).mono ?_; rintro e w3 ⟨rfl, rfl⟩)
                | (go_at_call 89; refine HUP.out.mono ?_; rintro e w5 ⟨P, rfl, hb5⟩; have b5 := HBE.out w5 hb5; have HO5 := Lib.hid (owns_now (HO.out.alloc (.cells #[.int .i64 i] 3)) hb5))
                | fail)
              go_roundw
              case rel => exact ⟨j + 1, A, cp, by omega, by go_num, by rw [if_neg (Nat.succ_ne_zero j), HEM.out], by rw [HEL.out, HLN.out], by rw [HEL.out, ← HLN.out]; exact HO5.out, b5⟩
              case measure => simp [intOf]; omega
        · obtain rfl : j = S := by omega
          have hjS : ¬ ((j : Int) + 1 ≤ j) := by omega
          have hz1 : w.heap.size ≤ w.heap.size + 1 := Nat.le_succ _
          go_wp2_with (first
            | (go_at_call 53; refine (HVS.out _ (HSL.out.now hwr)).mono ?_; rintro e w3 ⟨rfl, rfl⟩)
            | fail)
          go_ret2
          exact ⟨A, cp, by rw [HV.out, HOK.out]; rfl, by rw [HV.out]; exact owns_less HO.out hz1, hwr⟩
    · have HO := Lib.hid (show powOk q ws n i = false from by rw [HPO.out]; simp; omega)
      have HV := Lib.hid (show powL q ws n i = [] from okL_no HO.out)
      have hS' : (S : Int) > 200 := by omega
      go_enter Try.func46, Try.ntmps46
      go_wp2_with fail
      refine (pwMember_any q _ n cap ws i _ hm (HK.out.now hb0)).mono ?_
      rintro e w1 ⟨rfl, hb1⟩
      rw [HM.out]
      have g1 := bfrom hb0 hb1
      obtain ⟨c0, c1⟩ := (hx.now hb1).cells
      go_wp2_with (go_at_call 53; refine (HVS.out _ (HSL.out.now g1)).mono ?_; rintro e w3 ⟨rfl, rfl⟩)
      go_ret2
      rw [HV.out, HO.out]
      exact PairAt.none_ g1
theorem sQuotasOfPower_ans (q : Int) (A : Option Addr) (n cap : Nat) (ws : List Int) (x : Int) (w : World) (hm : n ≤ 9223372036854775807) (hk : Known w A n ws) (hxw : (Lit.int .i64 x).wf = true) :
    Calls Try.prog 46 #[.agg #[.int .i64 q, .slice A n cap], .int .i64 x] w fun e w' => Ans (RS (powL q ws n x)) (powOk q ws n x) w w' e := (sQuotasOfPower_any q A n cap ws x w hm hk hxw).mono fun _ _ h => h.ans
end Go.Proofs.Ytlnlkfldlgchhab
