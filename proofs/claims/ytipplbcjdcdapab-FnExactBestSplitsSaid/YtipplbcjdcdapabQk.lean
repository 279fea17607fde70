/- Contract of the model's BestSplits. -/
import Derived.Test.YtipplbcjdcdapabQj
import Derived.Test.YtipplbcjdcdapabQa
import Derived.Test.YtipplbcjdcdapabPy
import Derived.Outline
namespace Go.Proofs.Ytipplbcjdcdapab
open Go.RowKit Vo

set_option maxRecDepth 20000 in
set_option maxHeartbeats 6000000 in
theorem sBestSplits_core (q : Int) (A : Option Addr) (n : Nat) (ws : List Int) (x : Int) (w : World) (hm : n ≤ 9223372036854775807) (hk : Known w A n ws) :
    Calls Try.prog 20 #[.agg #[.int .i64 q, .slice A n n], .int .i64 x] w fun e w' => PairAt (bspL q ws n x) (bspOk q ws n x) w w' e := by
  have HK := Lib.hid hk
  clear hk
  obtain ⟨i0, hi0, hz0, hz1, hz2⟩ := infoIntParts
  have hb0 := below1 w (.cells #[.int .i64 q, .slice A n n] 41)
  have hx := Box.new w (.int .i64 q) (.slice A n n)
  cases hm1 : memOk q ws n x with
  | false =>
    have HM := Lib.hid (show splitOk q ws n x 0 = false from by unfold splitOk partAsk; rw [hm1]; rfl)
    have HO := Lib.hid (show bspOk q ws n x = false from by unfold bspOk bspAsk; rw [hm1]; rfl)
    have HV := Lib.hid (show bspL q ws n x = [] from okL_no HO.out)
    clear hm1
    go_enter Try.func20, Try.ntmps20
    go_wp2_with fail
    refine (unPart_any q A n n ws x 0 _ hm (HK.out.now hb0)).mono ?_
    rintro e w1 ⟨rfl, hb1⟩
    rw [HM.out]
    go_wp2
    go_ret2
    rw [HV.out, HO.out]
    exact PairAt.none_ (bfrom hb0 hb1)
  | true =>
    obtain ⟨hg, hx0, hxn⟩ := memOk_parts hm1
    obtain ⟨b, off, rfl, hsl⟩ := HK.out.get hg.lo
    obtain ⟨i, rfl⟩ : ∃ i : Nat, x = i := ⟨x.toNat, by omega⟩
    have HSL := Lib.hid hsl
    have hn9 := hg.hi
    have hn1 := hg.lo
    have hin : i < n := by omega
    have hwi := hg.ok i hin
    have HM := Lib.hid (show splitOk q ws n i 0 = decide (n < 9) from sp_ok hm1 0 (by omega))
    have HPA := Lib.hid (show bspAsk q ws n i = decide (ws.getD i 0 ≤ 20) from by unfold bspAsk; rw [hm1, Int.toNat_natCast]; rfl)
    have HPO := Lib.hid (show bspOk q ws n i = (decide (ws.getD i 0 ≤ 20) && decide (n < 9)) from by unfold bspOk; rw [HPA.out])
    have HPL := Lib.hid (show ∀ h : bspOk q ws n i = true, bspL q ws n i = bsL (spC q ws n i) ((ws.getD i 0).toNat + 1) from fun h => by unfold bspL; rw [okL_yes h, Int.toNat_natCast])
    have HU := Lib.hid (fun (j : Nat) (hj : (j : Int) ≤ ws.getD i 0) W (h : Sl W b off n ws) => unSplit_any q b off n i ws j W hin hg (by omega) hj h)
    have HS2 := Lib.hid (show n < 9 → ∀ (j : Nat), (j : Int) ≤ ws.getD i 0 → ∀ g cap' b2 W, Known W (some ⟨g, 0, none⟩) (n + 1) (splitL ws n i j) → Sl W b2 0 2 [(i : Int), (i : Int) + 1] → Calls Try.prog 43 #[.agg #[.int .i64 q, .slice (some ⟨g, 0, none⟩) (n + 1) cap'], .slice (some ⟨b2, 0, none⟩) 2 2] W fun e w' => e = .returned (.tuple #[.int .i64 (spA q ws n i j : Nat), .int .i64 (spS q ws n i j : Nat)]) ∧ Below W.heap.size W w' from fun h9 j hj g cap' b2 W h1 h2 => by
      have h := unSwings_any q (some ⟨g, 0, none⟩) (n + 1) cap' (splitL ws n i j) b2 0 2 2 [(i : Int), ((i + 1 : Nat) : Int)] W (sp_good hg hin h9 hj) h1 (by omega) h2 (two_in (by omega) (by omega))
      rw [setN_two] at h
      have e : swingN q (splitL ws n i j) (n + 1) i + swingN q (splitL ws n i j) (n + 1) (i + 1) = spA q ws n i j := by
        unfold spA twoS
        rw [Int.toNat_natCast, partN_two _ (show i < n + 1 by omega) (show i + 1 < n + 1 by omega) (by omega)]
      rw [e] at h
      exact h)
    have HBD := Lib.hid (show n < 9 → ∀ (j : Nat), (j : Int) ≤ ws.getD i 0 → spA q ws n i j ≤ 1000000 ∧ spS q ws n i j ≤ 1000000 from fun h9 j hj => by have h := sp_part hg hin h9 hj; have h1 := h.le; have h2 := h.few; omega)
    have HCC := Lib.hid (show ∀ j m : Nat, sgn ((spA q ws n i j : Int) * spS q ws n i m - (spA q ws n i m : Int) * spS q ws n i j) = spC q ws n i j m from fun _ _ => rfl)
    obtain ⟨T, hT⟩ : ∃ T : Nat, ws.getD i 0 = T := ⟨(ws.getD i 0).toNat, by omega⟩
    have HCI := Lib.hid (show ∀ W, Sl W b off n ws → W.cell? ⟨b, off + i, none⟩ = some (.int .i64 T) from fun W h => by rw [← hT]; exact h.cell i hin)
    rw [hT, Int.toNat_natCast] at HPL
    rw [hT] at HPO HU HS2 HBD hwi
    obtain ⟨c, hc⟩ : ∃ c, c = spC q ws n i := ⟨_, rfl⟩
    rw [← hc] at HPL HCC
    generalize spA q ws n i = fA at *
    generalize spS q ws n i = fS at *
    clear HPA hm1 hg hsl hT hc
    have hT' : T ≤ 1000 := by omega
    by_cases h9 : n < 9
    · by_cases h20 : T ≤ 20
      · have h20' : ¬ ((T : Int) > 20) := by omega
        have HO := Lib.hid (show bspOk q ws n i = true from by rw [HPO.out]; simp; omega)
        have HV := Lib.hid (HPL.out HO.out)
        rw [decide_eq_true h9] at HM
        go_enter Try.func20, Try.ntmps20
        go_wp2_with fail
        refine (unPart_any q _ n n ws i 0 _ hm (HK.out.now hb0)).mono ?_
        rintro e w1 ⟨rfl, hb1⟩
        rw [HM.out]
        have g1 := bfrom hb0 hb1
        have hx1 := hx.now hb1
        obtain ⟨c0, c1⟩ := hx1.cells
        have c3 := HCI.out _ (HSL.out.now g1)
        have hxk : w.heap.size + 1 ≤ w1.heap.size := hx1.lt
        have HO1 := Lib.hid (World.ownsRow_nil w1 (w.heap.size + 1) 3 1)
        go_wp2_with fail
        clear hx hb0 hb1 c0 c1 c3 HPL HPO
        go_loopw [6, 7, 8, 9, 10, 11, 12] (fun u a s k _ _ _ wr => ∃ (j : Nat) (A : Option Addr) (cp am sm : Nat), j ≤ T + 1 ∧ k = .int .i64 j ∧ a = .int .i64 am ∧ s = .int .i64 sm ∧ u = .slice A (bsL c j).length cp ∧ wr.ownsRow (w.heap.size + 1) 3 1 (.slice A (bsL c j).length cp) (bsL c j).length ((bsL c j).map (Value.int .i64)) ∧ (j ≠ 0 → am = fA (bsI c j) ∧ sm = fS (bsI c j)) ∧ am ≤ 1000000 ∧ sm ≤ 1000000 ∧ Below (w.heap.size + 1) w1 wr) (fun _ _ _ k _ _ _ _ => T + 1 - (intOf k).toNat)
        case atStart => exact ⟨0, none, 0, 0, 1, Nat.zero_le _, rfl, rfl, rfl, rfl, HO1.out, fun h => absurd rfl h, by omega, by omega, Below.refl _ _⟩
        case round =>
          obtain ⟨j, A, cp, am, sm, hj, rfl, rfl, rfl, rfl, hown, hpm, ham, hsm, hbr⟩ := hrel
          have HOW := Lib.hid hown
          have hwr : Below w.heap.size w wr := g1.trans (hbr.mono (Nat.le_succ _))
          have hxr := hx1.of_below hbr (Nat.lt_succ_self _)
          have hszr : w.heap.size + 1 ≤ wr.heap.size := Nat.le_trans hxk hbr.size
          have hlen := bsL_le c j
          obtain ⟨c0, c1⟩ := hxr.cells
          have c3 := HCI.out _ (HSL.out.now hwr)
          clear hown
          by_cases hlt : j ≤ T
          · have hjT : (j : Int) ≤ T := by omega
            have HUJ := Lib.hid (HU.out j hjT wr (HSL.out.now hwr))
            obtain ⟨hp1, hp2⟩ := HBD.out h9 j hjT
            have HSJ := Lib.hid (HS2.out h9 j hjT)
            have HCM := Lib.hid (show j ≠ 0 → sgn ((fA j : Int) * sm - (am : Int) * fS j) = c j (bsI c j) from fun h => by rw [(hpm h).1, (hpm h).2]; exact HCC.out _ _)
            obtain ⟨p, hp⟩ : ∃ p, p = fA j := ⟨_, rfl⟩
            obtain ⟨r, hr⟩ : ∃ r, r = fS j := ⟨_, rfl⟩
            obtain ⟨ln, hln⟩ : ∃ ln, ln = (bsL c j).length := ⟨_, rfl⟩
            rw [← hp, ← hr] at HSJ HCM
            rw [← hp] at hp1
            rw [← hr] at hp2
            rw [← hln] at HOW hlen
            rw [← hln]
            have HUG := Lib.hid (fun W => unGain_any am sm p r W ham hsm hp1 hp2)
            obtain ⟨v, hv⟩ : ∃ v, v = sgn ((p : Int) * sm - (am : Int) * r) := ⟨_, rfl⟩
            rw [← hv] at HUG HCM
            have HP := Lib.hid hp
            have HR := Lib.hid hr
            have HLN := Lib.hid hln
            have HPM := Lib.hid hpm
            clear hv hp hr hln hpm
            go_wp2_with fail
            refine HUJ.out.mono ?_
            rintro e w4 ⟨g, gp, rfl, hge, hI, hb4⟩
            have b5 := below1 w4 (.cells #[.int .i64 i, .int .i64 ((i : Int) + 1)] 3)
            have hl5 := Lib.hid (lit2_sl w4 i ((i : Int) + 1))
            have HK5 := Lib.hid ((Known.of (Ints.sl hI)).now b5)
            clear hI
            go_wp2_with fail
            refine (HSJ.out _ gp _ _ HK5.out hl5.out).mono ?_
            rintro e w6 ⟨rfl, hb6⟩
            have b46 := bfrom hb4 (bfrom b5 hb6)
            have b6 : Below (w.heap.size + 1) w1 w6 := hbr.trans (b46.mono hszr)
            have O6 := Lib.hid (owns_now HOW.out b46)
            have hz6 : w.heap.size + 1 ≤ w6.heap.size := Nat.le_trans hszr b46.size
            have HLIT := Lib.hid (World.ownsRow_lit (base := w.heap.size + 1) (e := 3) (size := 1) w6 #[.int .i64 j] 1 hz6 (by unfold maxLen; omega) rfl)
            go_wp2_with fail
            refine (HUG.out _).mono ?_
            rintro e w7 ⟨rfl, rfl⟩
            by_cases hnew : j = 0 ∨ 0 < c j (bsI c j)
            · obtain ⟨eM, eL⟩ := bs_new hnew
              have HEM := Lib.hid (show p = fA (bsI c (j+1)) ∧ r = fS (bsI c (j+1)) from ⟨by rw [eM, HP.out], by rw [eM, HR.out]⟩)
              have HEL := Lib.hid eL
              by_cases h0 : j = 0
              · clear hnew eM eL HCM HPM
                subst h0
                go_wp2_with fail
                go_roundw
                case rel => exact ⟨1, some ⟨w6.heap.size, 0, none⟩, 1, p, r, by omega, by go_num, rfl, rfl, by rw [HEL.out]; rfl, by rw [HEL.out]; exact HLIT.out, fun _ => HEM.out, hp1, hp2, b6.alloc hz6 _⟩
                case measure => first | omega | (simp [intOf]; done) | (simp [intOf]; omega)
              · have hv : v = c j (bsI c j) := HCM.out h0
                have hpos : 0 < v := by omega
                have h0' : ((j : Int) == 0) = false := by simp; omega
                clear hnew eM eL HCM HPM hv
                go_wp2_with fail
                go_roundw
                case rel => exact ⟨j + 1, some ⟨w6.heap.size, 0, none⟩, 1, p, r, by omega, by go_num, rfl, rfl, by rw [HEL.out]; rfl, by rw [HEL.out]; exact HLIT.out, fun _ => HEM.out, hp1, hp2, b6.alloc hz6 _⟩
                case measure => simp [intOf]; omega
            · have h0 : j ≠ 0 := by omega
              have h0' : ((j : Int) == 0) = false := by simp; omega
              have hlp : 0 < ln := by rw [HLN.out]; exact bsL_pos c (by omega)
              obtain ⟨epm, erm⟩ := HPM.out h0
              have hv : v = c j (bsI c j) := HCM.out h0
              by_cases hsame : c j (bsI c j) = 0
              · obtain ⟨eM, eL⟩ := bs_same h0 hsame
                have HEM := Lib.hid (show am = fA (bsI c (j+1)) ∧ sm = fS (bsI c (j+1)) from ⟨by rw [eM, epm], by rw [eM, erm]⟩)
                have HEL := Lib.hid eL
                have hv0 : v = 0 := by omega
                clear hnew eM eL HCM HPM hsame epm erm hv
                subst hv0
                go_wp2_with (first
                  | (at_builtin; refine wpList_append_lies _ rfl _ _ _ rfl (w.heap.size + 1) 3 i0 _ 1 8 Try.underlying26 hi0 hz0 hz1 hz2 rfl (by decide) (.slice A ln cp) ln ((bsL c j).map (Value.int .i64)) rfl (O6.out.alloc _) ⟨w6.heap.size, 0, none⟩ 1 1 [.int .i64 j] rfl rfl (World.news_of_block (cs := #[.int .i64 j]) (t := 3) (fr := (0, 0)) (heap_alloc_new w6 _)) (by simp [Value.oneCell']) (by omega) (by unfold maxLen; omega) (by omega) (by simp; omega) (w6.heap.size + 1) (by simp) ?_; intro gg cap4 w8 hown8 hgrow8 hat hlt8)
                  | fail)
                have b8 : Below (w.heap.size + 1) w1 w8 := (b6.alloc hz6 (.cells #[.int .i64 j] 3)).grown hgrow8 (by simp; omega) fun i hi => owns_le O6.out hi
                go_roundw
                case rel => exact ⟨j + 1, some ⟨gg, 0, none⟩, cap4, am, sm, by omega, by go_num, rfl, rfl, by rw [HEL.out, HLN.out]; simp, by rw [HEL.out]; simpa [HLN.out] using hown8, fun _ => HEM.out, ham, hsm, b8⟩
                case measure => simp [intOf]; omega
              · have hneg : v < 0 := by omega
                obtain ⟨eM, eL⟩ := bs_less h0 (show c j (bsI c j) < 0 by omega)
                have HEM := Lib.hid (show am = fA (bsI c (j+1)) ∧ sm = fS (bsI c (j+1)) from ⟨by rw [eM, epm], by rw [eM, erm]⟩)
                have HEL := Lib.hid eL
                clear hnew eM eL HCM HPM hsame epm erm hv
                go_wp2_with fail
                go_roundw
                case rel => exact ⟨j + 1, A, cp, am, sm, by omega, by go_num, rfl, rfl, by rw [HEL.out, HLN.out], by rw [HEL.out, ← HLN.out]; exact O6.out, fun _ => HEM.out, ham, hsm, b6⟩
                case measure => simp [intOf]; omega
          · obtain rfl : j = T + 1 := by omega
            have hjT : ¬ (((T + 1 : Nat) : Int) ≤ T) := by omega
            go_wp2
            go_ret2
            exact ⟨A, cp, by rw [HV.out, HO.out]; rfl, by rw [HV.out]; exact owns_less HOW.out (Nat.le_succ _), hwr⟩
      · have HO := Lib.hid (show bspOk q ws n i = false from by rw [HPO.out]; simp; omega)
        have HV := Lib.hid (show bspL q ws n i = [] from okL_no HO.out)
        have h20' : (T : Int) > 20 := by omega
        rw [decide_eq_true h9] at HM
        clear HPL
        go_enter Try.func20, Try.ntmps20
        go_wp2_with fail
        refine (unPart_any q _ n n ws i 0 _ hm (HK.out.now hb0)).mono ?_
        rintro e w1 ⟨rfl, hb1⟩
        rw [HM.out]
        have g1 := bfrom hb0 hb1
        obtain ⟨c0, c1⟩ := (hx.now hb1).cells
        have c3 := HCI.out _ (HSL.out.now g1)
        go_wp2
        go_ret2
        rw [HV.out, HO.out]
        exact PairAt.none_ g1
    · have HO := Lib.hid (show bspOk q ws n i = false from by rw [HPO.out]; simp; omega)
      have HV := Lib.hid (show bspL q ws n i = [] from okL_no HO.out)
      rw [decide_eq_false h9] at HM
      clear HPL
      go_enter Try.func20, Try.ntmps20
      go_wp2_with fail
      refine (unPart_any q _ n n ws i 0 _ hm (HK.out.now hb0)).mono ?_
      rintro e w1 ⟨rfl, hb1⟩
      rw [HM.out]
      go_wp2
      go_ret2
      rw [HV.out, HO.out]
      exact PairAt.none_ (bfrom hb0 hb1)
theorem sBestSplits_ans (q : Int) (A : Option Addr) (n cap : Nat) (ws : List Int) (x : Int) (w : World) (hm : n ≤ 9223372036854775807) (hk : Known w A n ws) (_hxw : (Lit.int .i64 x).wf = true) (hcap : n = cap := by exact rfl) :
    Calls Try.prog 20 #[.agg #[.int .i64 q, .slice A n cap], .int .i64 x] w fun e w' => Ans (RS (bspL q ws n x)) (bspOk q ws n x) w w' e := by
  subst hcap
  exact (sBestSplits_core q A n ws x w hm hk).mono fun _ _ h => h.ans
end Go.Proofs.Ytipplbcjdcdapab
