/- IsTrade, the model's. -/
import Derived.Test.YtpcijgdpinmcmaaFb
import Derived.Test.YtpcijgdpinmcmaaDx
import Derived.Test.YtpcijgdpinmcmaaJ2
import Derived.Outline
namespace Go.Proofs.Ytpcijgdpinmcmaa
open Go.RowKit Vo

theorem riseRows_lt {n : Nat} {L : List (List Int)} (h : riseRows n L = true) : ∀ s ∈ setsN L, s < 2^n := fun s hs => by
  unfold setsN at hs
  obtain ⟨l, hl, rfl⟩ := List.mem_map.1 hs
  exact ofK_lt (riseRows_row h l hl)
theorem deB_parts {n : Nat} {L : List (List Int)} (h : deB n L = true) : riseRows n L = true := by unfold deB at h; simp only [Bool.and_eq_true] at h; exact h.1
theorem tradeB_eq {S : List Nat} {n : Nat} {L1 L2 : List (List Int)} (h : trCount L1.length L2.length = true) :
    tradeB S n L1 L2 = (deB n L1 && (deB n L2 && (tlE (setsN L1) (setsN L2) && (!(setsN L1).any (fun s => !winS S s) && !(setsN L2).any (winS S))))) := by
  unfold tradeB sideB deB
  rw [h]
  generalize riseRows n L1 = a
  generalize riseRows n L2 = b
  generalize sortS (setsN L1) = c
  generalize sortS (setsN L2) = d
  generalize tlE (setsN L1) (setsN L2) = e
  generalize (setsN L1).any (fun s => !winS S s) = f
  generalize (setsN L2).any (winS S) = g
  revert a b c d e f g
  decide
theorem tradeB_cnt {S : List Nat} {n : Nat} {L1 L2 : List (List Int)} (h : trCount L1.length L2.length = false) : tradeB S n L1 L2 = false := by unfold tradeB; rw [h]; rfl
theorem any_at {p : Nat → Bool} {S : List Nat} {i : Nat} (hi : i < S.length) (h : p (S.getD i 0) = true) : S.any p = true := List.any_eq_true.2 ⟨_, getD_mem hi, h⟩
theorem any_none {p : Nat → Bool} {S : List Nat} (h : ∀ i, i < S.length → p (S.getD i 0) = false) : S.any p = false := by
  rw [List.any_eq_false]
  intro x hx
  obtain ⟨i, hi, rfl⟩ := List.getElem_of_mem hx
  have := h i hi
  rw [List.getD_eq_getElem?_getD, List.getElem?_eq_getElem hi] at this
  simpa using this
def DeYes (L : List (List Int)) (w w' : World) (e : Ending) : Prop := Below w.heap.size w w' ∧ ∃ B cp, e = .returned (.tuple #[.slice B L.length cp, .bool true]) ∧ w'.ownsRow w.heap.size 3 1 (.slice B L.length cp) L.length (setV (setsN L))
theorem DeAt.yes {n : Nat} {L : List (List Int)} {w w' : World} {e : Ending} (h : DeAt n L w w' e) (hs : deB n L = true) : DeYes L w w' e := by
  rcases h with ⟨hb, ⟨_, h⟩ | ⟨h, _⟩⟩
  · exact ⟨hb, h⟩
  · rw [hs] at h; cases h
theorem DeAt.no {n : Nat} {L : List (List Int)} {w w' : World} {e : Ending} (h : DeAt n L w w' e) (hs : deB n L = false) : Below w.heap.size w w' ∧ e = .returned (.tuple #[.slice none 0 0, .bool false]) := by
  rcases h with ⟨hb, ⟨h, _⟩ | ⟨_, h⟩⟩
  · rw [hs] at h; cases h
  · exact ⟨hb, h⟩
theorem own_sets {w : World} {base n cp : Nat} {B : Option Addr} {S : List Nat} (hn : 1 ≤ n) (hl : S.length = n) (h : w.ownsRow base 3 1 (.slice B n cp) n (setV S)) : ∃ g, B = some ⟨g, 0, none⟩ ∧ Own w g 3 n (fun i => .int .i64 (S.getD i 0 : Nat)) := by
  obtain ⟨g, cap', hv, hg, _, _⟩ := owns_head h (by omega)
  obtain ⟨rfl, rfl⟩ : B = some ⟨g, 0, none⟩ ∧ cp = cap' := by simpa using hv
  exact ⟨g, rfl, Own.of_own h (fun i hi => by
    have : i < S.length := by omega
    simp [setV, List.getD_eq_getElem?_getD, this])⟩

set_option maxRecDepth 20000 in
set_option maxHeartbeats 8000000 in
theorem sIsTrade_any (m : Int) (A : Option Addr) (n cap : Nat) (L : List (List Int)) (A1 : Option Addr) (n1 c1 : Nat) (L1 : List (List Int)) (A2 : Option Addr) (n2 c2 : Nat) (L2 : List (List Int)) (w : World) (hl : n ≤ 1048576) (hcap : n ≤ cap) (hl1 : n1 ≤ 1048576) (hl2 : n2 ≤ 1048576) (hk : ListsR w A n L) (hk1 : ListsR w A1 n1 L1) (hk2 : ListsR w A2 n2 L2) :
    Calls Try.prog 12 #[.agg #[.int .i64 m, .slice A n cap], .agg #[.slice A1 n1 c1, .slice A2 n2 c2]] w fun e w' => e = .returned (.tuple #[.bool (trI m L L1 L2), .bool (goodG m L)]) ∧ Below w.heap.size w w' := by
  have b1 := below1 w (.cells #[.int .i64 m, .slice A n cap] 31)
  have x1 := (BoxT.new 31 w (.int .i64 m) (.slice A n cap)).now (below1 _ (.cells #[.slice A1 n1 c1, .slice A2 n2 c2] 33))
  have x2 := BoxT.new 33 (w.alloc (.cells #[.int .i64 m, .slice A n cap] 31)) (.slice A1 n1 c1) (.slice A2 n2 c2)
  have hb0 := b1.alloc (by simp) (.cells #[.slice A1 n1 c1, .slice A2 n2 c2] 33)
  simp only [World.size_alloc] at x2
  have HK := Lib.hid (hk.now hb0)
  have HK1 := Lib.hid (fun W (hb : Below w.heap.size w W) => hk1.now hb)
  have HK2 := Lib.hid (fun W (hb : Below w.heap.size w W) => hk2.now hb)
  have e1 : L1.length = n1 := hk1.1
  have e2 : L2.length = n2 := hk2.1
  have X1 := Lib.hid x1
  have X2 := Lib.hid x2
  obtain ⟨c0, c1'⟩ := x1.cells
  clear hk hk1 hk2 x1 x2 b1
  cases hg : goodG m L with
  | false =>
    have HGB := Lib.hid hg
    have HCN := Lib.hid (trI_no (L1 := L1) (L2 := L2) hg)
    clear hg
    go_enter Try.func12, Try.ntmps12
    go_wp2_with fail
    refine (gmGood_any m A n cap L _ hl hcap HK.out).mono ?_
    rintro e w1 ⟨rfl, hb1⟩
    rw [HGB.out]
    go_wp2
    go_ret2
    exact ⟨by rw [HCN.out]; rfl, bfrom hb0 hb1⟩
  | true =>
    obtain ⟨h1, h9, _, hr, _⟩ := goodG_parts hg
    obtain ⟨q, rfl⟩ : ∃ q : Nat, m = q := ⟨m.toNat, by omega⟩
    rw [Int.toNat_natCast] at hr
    have hq9 : q ≤ 9 := by omega
    have HGB := Lib.hid hg
    have HCN := Lib.hid (trI_yes (L1 := L1) (L2 := L2) hg)
    have HGA := Lib.hid (fun W h => gmAll_any q A n cap L W hq9 hl hr h)
    clear hg hr
    go_enter Try.func12, Try.ntmps12
    go_wp2_with fail
    refine (gmGood_any q A n cap L _ hl hcap HK.out).mono ?_
    rintro e w1 ⟨rfl, hb1⟩
    rw [HGB.out]
    have g1 := bfrom hb0 hb1
    clear c0 c1'
    obtain ⟨c0, c1'⟩ := (X1.out.now hb1).cells
    obtain ⟨d0, d1⟩ := (X2.out.now hb1).cells
    cases hin : inB (n1 : Int) 2 3 with
    | false =>
      have HN := Lib.hid (show trI (q : Int) L L1 L2 = false from by
        rw [HCN.out, tradeB_cnt]
        rw [e1, e2]
        unfold trCount
        refine decide_eq_false ?_
        rintro ⟨a, b, _⟩
        unfold inB at hin
        simp at hin
        omega)
      go_wp2_with (first | (go_at_call 42; refine (l1In_any _ _ _ _).mono ?_; rintro e w2 ⟨rfl, rfl⟩; rw [hin]) | fail)
      go_ret2
      exact ⟨by rw [HN.out]; rfl, g1⟩
    | true =>
      have hin2 : 2 ≤ n1 ∧ n1 ≤ 3 := by unfold inB at hin; simp at hin; omega
      by_cases hne : n2 = n1
      · obtain rfl := hne
        obtain ⟨h2n, h3n⟩ := hin2
        have hct : trCount L1.length L2.length = true := by rw [e1, e2]; exact decide_eq_true ⟨h2n, h3n, rfl⟩
        have HTE := Lib.hid (show trI (q : Int) L L1 L2 = _ from HCN.out.trans (tradeB_eq hct))
        have i4 : ((n2 : Int) != (n2 : Int)) = false := by simp
        have HD1 := Lib.hid (fun W (hb : Below w.heap.size w W) => deLists_any q n2 c1 A1 L1 W hq9 h3n (HK1.out W hb))
        have HD2 := Lib.hid (fun W (hb : Below w.heap.size w W) => deLists_any q n2 c2 A2 L2 W hq9 h3n (HK2.out W hb))
        have hsl1 : (setsN L1).length = n2 := by rw [setsN_len, e1]
        have hsl2 : (setsN L2).length = n2 := by rw [setsN_len, e2]
        go_wp2_with (first | (go_at_call 42; refine (l1In_any _ _ _ _).mono ?_; rintro e w2 ⟨rfl, rfl⟩; rw [hin]) | fail)
        refine (HD1.out _ g1).mono ?_
        rintro e w2 hde1
        cases hd1 : deB q L1 with
        | false =>
          have HN := Lib.hid (show trI (q : Int) L L1 L2 = false from by rw [HTE.out, hd1]; rfl)
          obtain ⟨hb2, rfl⟩ := hde1.no hd1
          have g2 := bfrom g1 hb2
          obtain ⟨k0, k1⟩ := ((X1.out.now hb1).now hb2).cells
          obtain ⟨k2, k3⟩ := ((X2.out.now hb1).now hb2).cells
          clear c0 c1' d0 d1 hd1
          go_wp2_with fail
          refine (HD2.out _ g2).mono ?_
          rintro e w3 ⟨hb3, ⟨_, B, cp, rfl, _⟩ | ⟨_, rfl⟩⟩
          · go_wp2
            go_ret2
            exact ⟨by rw [HN.out]; rfl, bfrom g2 hb3⟩
          · go_wp2
            go_ret2
            exact ⟨by rw [HN.out]; rfl, bfrom g2 hb3⟩
        | true =>
          obtain ⟨hb2, B1, cp1, rfl, hown1⟩ := hde1.yes hd1
          rw [e1] at hown1 ⊢
          have g2 := bfrom g1 hb2
          obtain ⟨k0, k1⟩ := ((X1.out.now hb1).now hb2).cells
          obtain ⟨k2, k3⟩ := ((X2.out.now hb1).now hb2).cells
          obtain ⟨ga, rfl, hoa⟩ := own_sets (by omega) hsl1 hown1
          have HOA := Lib.hid hoa
          clear c0 c1' d0 d1 hown1 hoa
          go_wp2_with fail
          refine (HD2.out _ g2).mono ?_
          rintro e w3 hde2
          cases hd2 : deB q L2 with
          | false =>
            have HN := Lib.hid (show trI (q : Int) L L1 L2 = false from by rw [HTE.out, hd1, hd2]; rfl)
            obtain ⟨hb3, rfl⟩ := hde2.no hd2
            clear hd1 hd2
            go_wp2
            go_ret2
            exact ⟨by rw [HN.out]; rfl, bfrom g2 hb3⟩
          | true =>
            obtain ⟨hb3, B2, cp2, rfl, hown2⟩ := hde2.yes hd2
            rw [e2] at hown2 ⊢
            have g3 := bfrom g2 hb3
            obtain ⟨gb, rfl, hob⟩ := own_sets (by omega) hsl2 hown2
            have HOB := Lib.hid hob
            have HOA3 := Lib.hid (Own.below HOA.out hb3 HOA.out.lt)
            have HS1 := Lib.hid (riseRows_lt (deB_parts hd1))
            have HS2 := Lib.hid (riseRows_lt (deB_parts hd2))
            have HTT := Lib.hid (show trI (q : Int) L L1 L2 = (tlE (setsN L1) (setsN L2) && (!(setsN L1).any (fun s => !winS (setsN L) s) && !(setsN L2).any (winS (setsN L)))) from by rw [HTE.out, hd1, hd2]; rfl)
            have HSP1 := Lib.hid (deSpread_any (setsN L1) ga n2 cp1 w3 hsl1.symm h3n (riseRows_512 hq9 (deB_parts hd1)) HOA3.out)
            have HSP2 := Lib.hid (deSpread_any (setsN L2) gb n2 cp2 w3 hsl2.symm h3n (riseRows_512 hq9 (deB_parts hd2)) HOB.out)
            have HEQ := Lib.hid (spK_eq hsl1 hsl2 h3n)
            cases htl : tlE (setsN L1) (setsN L2) with
            | false =>
              have HN := Lib.hid (show trI (q : Int) L L1 L2 = false from by rw [HTT.out, htl]; rfl)
              have hne : spK (setsN L1) n2 ≠ spK (setsN L2) n2 := fun h => by have := HEQ.out; rw [htl, h] at this; simp at this
              obtain ⟨z1, hz1⟩ : ∃ z, z = spK (setsN L1) n2 := ⟨_, rfl⟩
              obtain ⟨z2, hz2⟩ : ∃ z, z = spK (setsN L2) n2 := ⟨_, rfl⟩
              rw [← hz1] at HSP1 hne
              rw [← hz2] at HSP2 hne
              have hnz : ((z1 : Int) != (z2 : Int)) = true := by rw [bne_iff_ne]; omega
              clear hz1 hz2 hne htl hd1 hd2 hsl1 hsl2 hown2
              go_wp2_with fail
              refine HSP1.out.mono ?_
              rintro e w6 ⟨rfl, rfl⟩
              go_wp2_with fail
              refine HSP2.out.mono ?_
              rintro e w6 ⟨rfl, rfl⟩
              go_wp2
              go_ret2
              exact ⟨by rw [HN.out]; rfl, g3⟩
            | true =>
              have hee : spK (setsN L1) n2 = spK (setsN L2) n2 := by have := HEQ.out; rw [htl] at this; simpa using this
              rw [← hee] at HSP2
              obtain ⟨z1, hz1⟩ : ∃ z, z = spK (setsN L1) n2 := ⟨_, rfl⟩
              rw [← hz1] at HSP1 HSP2
              have hnz : ((z1 : Int) != (z1 : Int)) = false := by simp
              have HA := Lib.hid (show ∀ i, i < n2 → winS (setsN L) ((setsN L1).getD i 0) = false → trI (q : Int) L L1 L2 = false from fun i hi h => by
                rw [HTT.out, any_at (p := fun s => !winS (setsN L) s) (i := i) (by omega) (by simp only [h, Bool.not_false])]; simp)
              have HB := Lib.hid (show ∀ i, i < n2 → winS (setsN L) ((setsN L2).getD i 0) = true → trI (q : Int) L L1 L2 = false from fun i hi h => by
                rw [HTT.out, any_at (p := winS (setsN L)) (S := setsN L2) (i := i) (by omega) h]; simp)
              have HC := Lib.hid (show (∀ i, i < n2 → winS (setsN L) ((setsN L1).getD i 0) = true) → (∀ i, i < n2 → winS (setsN L) ((setsN L2).getD i 0) = false) → trI (q : Int) L L1 L2 = true from fun ha hb => by
                rw [HTT.out, htl, any_none (p := fun s => !winS (setsN L) s) (S := setsN L1) (fun i hi => by rw [ha i (by omega)]; rfl), any_none (p := winS (setsN L)) (S := setsN L2) (fun i hi => hb i (by omega))]; rfl)
              have HM1 := Lib.hid (fun i (hi : i < n2) => HS1.out _ (getD_mem (S := setsN L1) (i := i) (by omega)))
              have HM2 := Lib.hid (fun i (hi : i < n2) => HS2.out _ (getD_mem (S := setsN L2) (i := i) (by omega)))
              have HKK := Lib.hid (HK.out.now (bfrom (bfrom hb1 hb2) hb3)).lists
              obtain ⟨j0, j1⟩ := (((X1.out.now hb1).now hb2).now hb3).cells
              obtain ⟨S0, hS0⟩ : ∃ z, z = setsN L := ⟨_, rfl⟩
              obtain ⟨S1, hS1⟩ : ∃ z, z = setsN L1 := ⟨_, rfl⟩
              obtain ⟨S2, hS2⟩ : ∃ z, z = setsN L2 := ⟨_, rfl⟩
              obtain ⟨N, hN⟩ : ∃ z, z = 2^q := ⟨_, rfl⟩
              simp only [← hS0, ← hN] at HGA
              simp only [← hS1, ← hN] at HM1
              simp only [← hS2, ← hN] at HM2
              simp only [← hS0, ← hS1] at HA
              simp only [← hS0, ← hS2] at HB
              simp only [← hS0, ← hS1, ← hS2] at HC
              rw [← hS1] at HOA3
              rw [← hS2] at HOB
              clear hz1 hee htl hd1 hd2 hsl1 hsl2 hown2 HTT HEQ hS0 hS1 hS2 hN HS1 HS2
              go_wp2_with fail
              refine HSP1.out.mono ?_
              rintro e w6 ⟨rfl, rfl⟩
              go_wp2_with fail
              refine HSP2.out.mono ?_
              rintro e w6 ⟨rfl, rfl⟩
              go_wp2_with fail
              refine (HGA.out _ HKK.out).mono ?_
              rintro e w4 ⟨rfl, hown4, hb4⟩
              have HO4 := Lib.hid (show Own w4 (w3.heap.size + 1) 4 N (fun j => .bool (winS S0 j)) from hown4)
              have HA4 := Lib.hid (Own.below HOA3.out hb4 HOA3.out.lt)
              have HB4 := Lib.hid (Own.below HOB.out hb4 HOB.out.lt)
              have g4 := bfrom g3 hb4
              clear hown4
              go_wp2
              go_loopw [11, 62] (fun _ x wr => ∃ i : Nat, i ≤ n2 ∧ x = .int .i64 i ∧ (∀ t, t < i → winS S0 (S1.getD t 0) = true) ∧ (∀ t, t < i → winS S0 (S2.getD t 0) = false) ∧ wr = w4) (fun _ x _ => n2 - (intOf x).toNat)
              case atStart => exact ⟨0, Nat.zero_le _, rfl, fun _ h => by omega, fun _ h => by omega, rfl⟩
              case round =>
                obtain ⟨i, hi, rfl, hia, hib, rfl⟩ := hrel
                have HIA := Lib.hid hia
                have HIB := Lib.hid hib
                clear hia hib
                by_cases hlt : i < n2
                · have ka := HA4.out.cell hlt
                  have kb := HB4.out.cell hlt
                  have ha := HM1.out i hlt
                  have hb := HM2.out i hlt
                  have HAI := Lib.hid (HA.out i hlt)
                  have HBI := Lib.hid (HB.out i hlt)
                  have HNA := Lib.hid (show winS S0 (S1.getD i 0) = true → ∀ t, t < i + 1 → winS S0 (S1.getD t 0) = true from fun h t ht => by
                    by_cases e : t = i
                    · subst e; exact h
                    · exact HIA.out t (by omega))
                  have HNB := Lib.hid (show winS S0 (S2.getD i 0) = false → ∀ t, t < i + 1 → winS S0 (S2.getD t 0) = false from fun h t ht => by
                    by_cases e : t = i
                    · subst e; exact h
                    · exact HIB.out t (by omega))
                  obtain ⟨a, haa⟩ : ∃ z, z = S1.getD i 0 := ⟨_, rfl⟩
                  obtain ⟨b, hbb⟩ : ∃ z, z = S2.getD i 0 := ⟨_, rfl⟩
                  rw [← haa] at ka ha HAI HNA
                  rw [← hbb] at kb hb HBI HNB
                  clear haa hbb
                  have kc := HO4.out.cell ha
                  have kd := HO4.out.cell hb
                  have hain : (a : Int) < N := by omega
                  have hbin : (b : Int) < N := by omega
                  cases hwa : winS S0 a with
                  | false =>
                    have HN := Lib.hid (HAI.out hwa)
                    rw [hwa] at kc
                    clear hwa
                    go_wp2
                    go_ret2
                    exact ⟨by rw [HN.out]; rfl, g4⟩
                  | true =>
                    have HNA1 := Lib.hid (HNA.out hwa)
                    rw [hwa] at kc
                    clear hwa
                    cases hwb : winS S0 b with
                    | true =>
                      have HN := Lib.hid (HBI.out hwb)
                      rw [hwb] at kd
                      clear hwb
                      go_wp2
                      go_ret2
                      exact ⟨by rw [HN.out]; rfl, g4⟩
                    | false =>
                      have HNB1 := Lib.hid (HNB.out hwb)
                      rw [hwb] at kd
                      clear hwb
                      go_wp2
                      go_roundw
                      case rel => exact ⟨i + 1, by omega, by go_num, HNA1.out, HNB1.out, trivial⟩
                      case measure => simp [intOf]; omega
                · obtain rfl : i = n2 := by omega
                  have HN := Lib.hid (HC.out HIA.out HIB.out)
                  go_wp2
                  go_ret2
                  exact ⟨by rw [HN.out]; rfl, g4⟩
      · have hne' : ((n2 : Int) != (n1 : Int)) = true := by rw [bne_iff_ne]; omega
        have HN := Lib.hid (show trI (q : Int) L L1 L2 = false from by
          rw [HCN.out, tradeB_cnt]
          rw [e1, e2]
          exact decide_eq_false fun h => hne h.2.2)
        go_wp2_with (first | (go_at_call 42; refine (l1In_any _ _ _ _).mono ?_; rintro e w2 ⟨rfl, rfl⟩; rw [hin]) | fail)
        go_ret2
        exact ⟨by rw [HN.out]; rfl, g1⟩
end Go.Proofs.Ytpcijgdpinmcmaa
