/- Contract of the model's GreatestLosing. -/
import Derived.Test.YtldpdjnedoflcabT6
import Derived.Outline
namespace Go.Proofs.Ytldpdjnedoflcab
open Go.RowKit Vo

theorem noneMore_in (p : Nat → Bool) (s k : Nat) : noneMore (fun t => !p t) s (k+1) = (noneMore (fun t => !p t) s k && (s.testBit k || p (s ||| 2^k))) := by
  unfold noneMore
  simp only [allK]
  congr 1
  cases s.testBit k <;> simp

set_option maxRecDepth 20000 in
set_option maxHeartbeats 4000000 in
theorem sGreatestLosing_ans (q : Int) (A : Option Addr) (n cap : Nat) (ws : List Int) (w : World) (hm : n ≤ 9223372036854775807) (hk : Known w A n ws) :
    Calls Try.prog 24 #[.agg #[.int .i64 q, .slice A n cap]] w fun e w' => Ans (RSS0 (greatestLosingL q ws n)) (goodB q ws n) w w' e := by
  have HK := Lib.hid hk
  clear hk
  have hx := Box.new w (.int .i64 q) (.slice A n cap)
  have hb0 := below1 w (.cells #[.int .i64 q, .slice A n cap] 29)
  by_cases hg : Vo.Good q ws n
  · obtain ⟨b, off, rfl, hsl⟩ := HK.out.get hg.lo
    have HSL := Lib.hid hsl
    have HOK := Lib.hid hg.ok
    have HGB := Lib.hid (goodB_true hg)
    have hn9 := hg.hi
    have hn10 : n < 10 := by omega
    have h512 := pow_lt hn9
    obtain ⟨p, hp⟩ : ∃ p, p = winB q ws n := ⟨_, rfl⟩
    have HV := Lib.hid (show greatestLosingL q ws n = sortL (kindL (greatP (fun s => !p s) n) (2^n)) from (okLL_yes HGB.out).trans (by rw [kindL_sort _ hn9, hp]))
    have HLP := Lib.hid (show ∀ s, greatP (fun s => !p s) n s = (!p s && noneMore (fun t => !p t) s n) from fun _ => rfl)
    have HJN := Lib.hid (show ∀ s z, s < 2^n → z < n → s.testBit z = false → s + 2^z < 2^n ∧ s ||| 2^z = s + 2^z from fun s z h hz hb => by rw [add_pow h hz hb]; exact ⟨or_pow_lt h hz, rfl⟩)
    obtain ⟨i0, hi0, hz0, hz1, hz2⟩ := info_parts infoInts
    have HPW := Lib.hid hp
    clear hg hsl hp
    obtain ⟨lp, hlp⟩ : ∃ lp, greatP (fun s => !p s) n = lp := ⟨_, rfl⟩
    rw [hlp] at HV HLP
    clear hlp
    go_enter Try.func24, Try.ntmps24
    go_wp2_with fail
    refine (voGood_any q _ n cap ws _ hm (HK.out.now hb0)).mono ?_
    rintro e w1 ⟨rfl, hb⟩
    rw [HGB.out]
    have g1 := bfrom hb0 hb
    have hz1' := g1.size
    have hs1 := Lib.hid (HSL.out.now g1)
    have hx1 := hx.now hb
    have hsz1 : w.heap.size + 1 ≤ w1.heap.size := by have := hb.size; simpa using this
    obtain ⟨hc0, hc1⟩ := hx1.cells
    go_wp2_with fail
    refine (voWins_any q b off n cap ws _ hn10 HOK.out hs1.out).mono ?_
    rintro e w2 ⟨g, cap2, rfl, hg2, hown2, hb2⟩
    rw [← HPW.out] at hown2
    have HW := Lib.hid hown2
    have hgl := hown2.lt
    have g2 := bfrom g1 hb2
    have hz2' := g2.size
    have hx2 := hx1.now hb2
    have hsz2 : w.heap.size + 1 ≤ w2.heap.size := by have := hb2.size; omega
    clear hown2 hc0 hc1
    obtain ⟨N, hN⟩ : ∃ N, 2^n = N := ⟨_, rfl⟩
    rw [hN] at HW h512 HJN HV ⊢
    clear hN
    go_wp2_with fail
    go_loopw [5, 6, 7, 8, 9, 17] (fun v _ _ _ _ i wr => ∃ (j c : Nat) (B : Option Addr) (cp : Nat), j ≤ N ∧ i = .int .i64 j ∧ v = .slice B c cp ∧ c = (kindL lp j).length ∧ SSb w2.heap.size (kindL lp j) (.slice B c cp) wr ∧ Below w2.heap.size w2 wr) (fun _ _ _ _ _ i _ => N - (intOf i).toNat)
    case atStart => exact ⟨0, 0, none, 0, by omega, rfl, rfl, rfl, SSb.nil _ _, Below.refl _ _⟩
    case round =>
      obtain ⟨j, c, B, cp, hj, rfl, rfl, hc, hss, hbr⟩ := hrel
      have HSS := Lib.hid hss
      have HC := Lib.hid hc
      have hcl := kindL_len lp j
      have hszr := hbr.size
      have hc512 : c ≤ 512 := by omega
      clear hss hc hcl
      by_cases hlt : j < N
      · have HWr := Lib.hid (HW.out.below hbr hgl)
        have hcell := HWr.out.cell hlt
        have hs512 : j < 512 := by omega
        have HLJ := Lib.hid (HLP.out j)
        obtain ⟨hc0, hc1⟩ := (hx2.now hbr).cells
        cases hpj : p j
        · rw [hpj] at hcell HLJ
          clear hpj
          obtain ⟨qq, hqq⟩ : ∃ qq : Nat → Bool, qq = fun t => noneMore (fun u => !p u) j t := ⟨_, rfl⟩
          have HQ := Lib.hid (show ∀ t, qq (t+1) = (qq t && (j.testBit t || p (j ||| 2^t))) from fun t => by rw [hqq]; exact noneMore_in p j t)
          have HQ0 := Lib.hid (show qq 0 = true from by rw [hqq]; rfl)
          have HQM := Lib.hid (show lp j = qq n from by rw [HLJ.out, hqq]; simp)
          clear hqq
          go_wp2_with fail
          go_loop [8, 9, 26] (fun b _ i => ∃ t : Nat, t ≤ n ∧ i = .int .i64 t ∧ b = .bool (qq t)) (fun _ _ i => n - (intOf i).toNat)
          case atStart => exact ⟨0, Nat.zero_le _, rfl, by rw [HQ0.out]⟩
          case round =>
            obtain ⟨t, ht, rfl, rfl⟩ := hrel
            by_cases htm : t < n
            · have HQ2 := Lib.hid (HQ.out t)
              cases hq : qq t
              · rw [hq] at HQ2
                clear hq
                go_wp2
                go_round
                case rel => exact ⟨t + 1, by omega, by go_num, by rw [HQ2.out]; rfl⟩
                case measure => simp [intOf]; omega
              · rw [hq] at HQ2
                have hbm := bit_mod j t
                have hnn := div_nn j t
                clear hq
                cases hbit : j.testBit t
                · obtain ⟨ho2, ho1⟩ := HJN.out j t hlt htm hbit
                  rw [hbit, ho1] at HQ2
                  rw [hbit] at hbm
                  have hsh := shl_pow2 t (by omega)
                  have hcello := HWr.out.cell ho2
                  clear hbit ho1
                  obtain ⟨Pz, hPe⟩ : ∃ Pz, 2 ^ t = Pz := ⟨_, rfl⟩
                  rw [hPe] at ho2 hsh HQ2 hcello
                  clear hPe
                  have hsum : ((j : Int) + (Pz : Int)).toNat = j + Pz := by omega
                  have h0 : (0 : Int) ≤ (j : Int) + Pz := by omega
                  have h1 : (j : Int) + Pz < N := by omega
                  cases hpo : p (j + Pz)
                  all_goals
                    rw [hpo] at HQ2 hcello
                    clear hpo
                    go_wp2
                    go_round
                    case rel => exact ⟨t + 1, by omega, by go_num, by rw [HQ2.out]; rfl⟩
                    case measure => simp [intOf]; omega
                · rw [hbit] at HQ2 hbm
                  clear hbit
                  go_wp2
                  go_round
                  case rel => exact ⟨t + 1, by omega, by go_num, by rw [HQ2.out]; rfl⟩
                  case measure => simp [intOf]; omega
            · obtain rfl : n = t := by omega
              cases hq : qq n
              · have HNO := Lib.hid (kindL_no (P := lp) (j := j) (HQM.out.trans hq))
                clear hq
                go_wp2
                go_roundw
                case rel => exact ⟨j + 1, c, B, cp, by omega, by go_num, rfl, by rw [HNO.out]; exact HC.out, by rw [HNO.out]; exact HSS.out, hbr⟩
                case measure => simp [intOf]; omega
              · have HYES := Lib.hid (kindL_yes (P := lp) (j := j) (HQM.out.trans hq))
                clear hq
                obtain ⟨xs, _, ho, _⟩ := HSS.out
                rw [← HC.out] at ho
                have HXS := Lib.hid ho
                clear ho
                obtain ⟨m, hm'⟩ : ∃ m, m = (mem j 9).length := ⟨_, rfl⟩
                have hm9 : m ≤ 9 := by have := mem_len j 9; omega
                have HM := Lib.hid hm'
                clear hm' hc0 hc1
                go_wp2_with (first
                  | (go_at_call 58; refine (voList_any j _ hs512).mono ?_; rintro e w6 ⟨A6, cap6, rfl, hown6, hb6⟩; rw [← HM.out] at hown6 ⊢; have HL6 := Lib.hid hown6; clear hown6; have HO6 := Lib.hid (owns_now HXS.out hb6); have b6 := bfromB hbr hb6 hszr; have hsz6 := b6.size)
                  | (at_builtin; refine wpList_append_lies _ rfl _ _ _ rfl w2.heap.size 22 i0 _ 1 24 Try.underlying26 hi0 hz0 hz1 hz2 rfl (by decide) (.slice B c cp) c xs rfl (HO6.out.alloc _) ⟨w6.heap.size, 0, none⟩ 1 1 [.slice A6 m cap6] rfl rfl (World.news_of_block (cs := #[.slice A6 m cap6]) (t := 22) (fr := (0, 0)) (heap_alloc_new w6 _)) (by simp [Value.oneCell']) (by omega) (by unfold maxLen; omega) (by omega) (by simp; omega) (w6.heap.size + 1) (by simp) ?_; intro gg cap4 w7 hown7 hgrow7 hat7 hlt7))
                have b7 : Below w2.heap.size w2 w7 := (b6.alloc hsz6 (.cells #[.slice A6 m cap6] 22)).grown hgrow7 (by simp; omega) fun i hi => owns_le HO6.out hi
                have HP := Lib.hid (SSb.push (l := mem j 9) HSS.out HC.out hszr hb6 ⟨A6, cap6, by rw [HM.out], by rw [← HM.out]; exact HL6.out⟩ (Nat.le_succ _) _ (below1 w6 (.cells #[.slice A6 m cap6] 22)) (by simp) xs HXS.out hown7 hgrow7 hat7)
                go_roundw
                case rel => exact ⟨j + 1, c + 1, some ⟨gg, 0, none⟩, cap4, by omega, by go_num, by simp, by rw [HYES.out, List.length_append, ← HC.out]; rfl, by rw [HYES.out]; exact HP.out, b7⟩
                case measure => simp [intOf]; omega
        · have HNO := Lib.hid (kindL_no (P := lp) (j := j) (by rw [HLJ.out, hpj]; rfl))
          rw [hpj] at hcell
          clear hpj
          go_wp2
          go_roundw
          case rel => exact ⟨j + 1, c, B, cp, by omega, by go_num, rfl, by rw [HNO.out]; exact HC.out, by rw [HNO.out]; exact HSS.out, hbr⟩
          case measure => simp [intOf]; omega
      · obtain rfl : N = j := by omega
        obtain ⟨P0, hP, hA⟩ := SSb.pairs HSS.out HC.out setsL_small
        have HPP := Lib.hid hP
        have HA := Lib.hid hA
        clear hP hA
        go_wp2_with (go_at_call 59; refine (voSorted_any w2.heap.size (kindL lp N) P0 B c cp _ hc512 HPP.out HA.out).mono ?_; rintro e w6 ⟨B6, cp6, P6, rfl, hown6, hP6, hb6⟩)
        go_ret2
        rw [HV.out, HGB.out]
        exact ⟨_, rfl, RSS0.lies (RSS0.low (hP6.rss hown6 hb6 w2.heap.size (Nat.le_refl _) hszr) hz2') (Nat.le_refl _), bfrom g2 (bfrom hbr hb6)⟩
  · have HGB := Lib.hid (goodB_false hg)
    clear hg
    go_enter Try.func24, Try.ntmps24
    go_wp2_with fail
    refine (voGood_any q A n cap ws _ hm (HK.out.now hb0)).mono ?_
    rintro e w1 ⟨rfl, hb⟩
    rw [HGB.out]
    go_wp2
    go_ret2
    rw [show greatestLosingL q ws n = [] from okLL_no HGB.out, HGB.out]
    exact Ans.noneSS0 (bfrom hb0 hb)
end Go.Proofs.Ytldpdjnedoflcab
