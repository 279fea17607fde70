/- Contract of the model's QuotaOfGame. -/
import Derived.Test.YtipplbcjdcdapabGreatWr
namespace Go.Proofs.YtipplbcjdcdapabGreat
open Go.RowKit Vo

theorem low_zero {p : Nat → Bool} {xs : List Int} {k : Nat} (hk : k ≤ 9) (h : InK 0 1000 xs k) (h0 : sumK xs k = 0) {s : Nat} (hs : s < 2^k) (hp : p s = true) : lowS p xs k ≤ highS p xs k := by
  obtain ⟨t, _, _, e⟩ := low_met (p := p) (ws := xs) hk hs hp
  have h1 := wtK_bd (s := t) h
  have h2 : 0 ≤ highS p xs k := highK_ge.1
  omega
theorem quo_model {p : Nat → Bool} {xs : List Int} {k : Nat} (hk : k ≤ 9) (h : InK 0 1000 xs k) (h0 : p 0 = false) {s : Nat} (hs : s < 2^k) (hp : p s = true) :
    mostK p xs k (2^k) + 1 = highS p xs k + 1 ∧ decide (mostK p xs k (2^k) < fewK p xs k (2^k)) = quoOk (lowS p xs k) (highS p xs k) := by
  rw [most_is h h0, few_is hk h hs hp]
  refine ⟨rfl, ?_⟩
  unfold quoOk
  by_cases hle : lowS p xs k ≤ highS p xs k
  · rw [decide_eq_true hle, decide_eq_false (by omega)]; rfl
  · rw [decide_eq_false hle, decide_eq_true (by omega)]; rfl

set_option maxRecDepth 20000 in
set_option maxHeartbeats 4000000 in
theorem sQuotaOfGame_any (m : Int) (A : Option Addr) (n cap : Nat) (L : List (List Int)) (b2 off2 k cap2 : Nat) (xs : List Int) (w : World) (hl : n ≤ 1048576) (hcap : n ≤ cap) (hk : ListsR w A n L) (hm2 : k ≤ 9223372036854775807) (hs : Sl w b2 off2 k xs) :
    Calls Tryz.prog 5 #[.agg #[.int .i64 m, .slice A n cap], .slice (some ⟨b2, off2, none⟩) k cap2] w fun e w' => e = .returned (.tuple #[.int .i64 (qogV m L xs k), .bool (qogOk m L xs k)]) ∧ Below w.heap.size w w' := by
  have HK := Lib.hid (hk.now (below1 w (.cells #[.int .i64 m, .slice A n cap] 29)))
  have HS := Lib.hid hs
  clear hk hs
  have hx := BoxT.new 29 w (.int .i64 m) (.slice A n cap)
  have hb0 := below1 w (.cells #[.int .i64 m, .slice A n cap] 29)
  obtain ⟨c0, c1⟩ := hx.cells
  cases hg : goodG m L with
  | true =>
    obtain ⟨h1, h9, hne, hr, hself⟩ := goodG_parts hg
    clear hself
    obtain ⟨q, rfl⟩ : ∃ q : Nat, m = q := ⟨m.toNat, by omega⟩
    rw [Int.toNat_natCast] at hr
    have hq9 : q ≤ 9 := by omega
    have hq10 : q < 10 := by omega
    have HGB := Lib.hid hg
    have HGA := Lib.hid (fun W h => gmAll_any q A n cap L W hq9 hl hr h)
    have HFULL := Lib.hid (winS_full (setsN_lt hq9 hr) (show setsN L ≠ [] from fun e => hne (by unfold setsN at e; exact List.map_eq_nil_iff.1 e)))
    have HNIL := Lib.hid (winS_nil (sets_ne hq9 hr))
    have HGO := Lib.hid (gmGood_any q A n cap L _ hl hcap HK.out)
    rw [HGB.out] at HGO
    clear hr hne
    by_cases hkq : k = q
    · subst hkq
      have hk1 : 1 ≤ k := by omega
      have hne2 : ((k : Int) != (k : Int)) = false := by simp
      by_cases hin : InK 0 1000 xs k
      · have hnum : numsB 0 1000 xs k = true := numsB_yes hk1 hq9 hin
        have HALL := Lib.hid (allB_yes hin)
        have HIN := Lib.hid hin
        have HV := Lib.hid (qogV_yes hg hnum)
        have HOKV := Lib.hid (qogOk_yes hg hnum)
        have hpos := Nat.two_pow_pos k
        have hfl : 2^k - 1 < 2^k := by omega
        have HQM := Lib.hid (quo_model hq9 hin HNIL.out hfl HFULL.out)
        have HLZ := Lib.hid (fun h0 => low_zero (p := winS (setsN L)) hq9 hin h0 hfl HFULL.out)
        have hsb := sumK_bd hin
        clear hin hnum hg hpos hfl
        by_cases h0 : sumK xs k = 0
        · have hle := HLZ.out h0
          have hz : (sumK xs k == 0) = true := by simp [h0]
          have HQ0 := Lib.hid (show quoQ (lowS (winS (setsN L)) xs k) (highS (winS (setsN L)) xs k) = 0 from if_pos hle)
          have HQ1 := Lib.hid (show quoOk (lowS (winS (setsN L)) xs k) (highS (winS (setsN L)) xs k) = false from by unfold quoOk; rw [decide_eq_true hle]; rfl)
          clear h0 hle hsb
          go_enter Tryz.func5, Tryz.ntmps5
          go_wp2_with fail
          refine HGO.out.mono ?_
          rintro e w1 ⟨rfl, hb1⟩
          have g1 := bfrom hb0 hb1
          have hx1 := hx.now hb1
          have HS1 := Lib.hid (HS.out.now g1)
          clear c0 c1
          obtain ⟨c0, c1⟩ := hx1.cells
          go_wp2_with (first
            | (go_at_call 13; refine (l1All_any b2 off2 k cap2 xs 0 1000 _ hm2 HS1.out).mono ?_; rintro e w2 ⟨rfl, rfl⟩; rw [HALL.out])
            | (go_at_call 14; refine (voSum_any b2 off2 k cap2 xs _ hq10 HIN.out HS1.out).mono ?_; rintro e w2 ⟨rfl, rfl⟩))
          go_ret2
          exact ⟨by rw [HV.out, HOKV.out, HQ0.out, HQ1.out]; rfl, g1⟩
        · have hz : (sumK xs k == 0) = false := by simp [h0]
          clear h0 hsb
          obtain ⟨P, hP⟩ : ∃ P, P = 2 ^ k := ⟨_, rfl⟩
          have HP := Lib.hid hP
          rw [← hP] at HGA HQM
          clear hP
          have HHB := Lib.hid (highK_bd HIN.out hq9 (loseL (winS (setsN L)) k) (loseL (winS (setsN L)) k).length)
          go_enter Tryz.func5, Tryz.ntmps5
          go_wp2_with fail
          refine HGO.out.mono ?_
          rintro e w1 ⟨rfl, hb1⟩
          have g1 := bfrom hb0 hb1
          have hx1 := hx.now hb1
          have HS1 := Lib.hid (HS.out.now g1)
          clear c0 c1
          obtain ⟨c0, c1⟩ := hx1.cells
          go_wp2_with (first
            | (go_at_call 13; refine (l1All_any b2 off2 k cap2 xs 0 1000 _ hm2 HS1.out).mono ?_; rintro e w2 ⟨rfl, rfl⟩; rw [HALL.out])
            | (go_at_call 14; refine (voSum_any b2 off2 k cap2 xs _ hq10 HIN.out HS1.out).mono ?_; rintro e w2 ⟨rfl, rfl⟩))
          refine (HGA.out _ (HK.out.now hb1).lists).mono ?_
          rintro e w3 ⟨rfl, hown, hb3⟩
          have HS3 := Lib.hid (HS1.out.now hb3)
          have HOW := Lib.hid hown
          clear hown
          go_wp2_with fail
          refine (weQuota_any (winS (setsN L)) _ P P b2 off2 k cap2 xs w3 hq10 HP.out HIN.out HS3.out HOW.out).mono ?_
          rintro e w4 ⟨rfl, hb4⟩
          rw [HQM.out.1, HQM.out.2]
          have g4 := bfrom (bfrom g1 hb3) hb4
          cases hqo : quoOk (lowS (winS (setsN L)) xs k) (highS (winS (setsN L)) xs k) with
          | true =>
            have HQO := Lib.hid hqo
            have HQ0 := Lib.hid (show quoQ (lowS (winS (setsN L)) xs k) (highS (winS (setsN L)) xs k) = highS (winS (setsN L)) xs k + 1 from by
              unfold quoQ; unfold quoOk at hqo
              exact if_neg fun h => by rw [decide_eq_true h] at hqo; cases hqo)
            clear hqo
            go_wp2
            go_ret2
            exact ⟨by rw [HV.out, HOKV.out, HQ0.out, HQO.out]; rfl, g4⟩
          | false =>
            have HQO := Lib.hid hqo
            have HQ0 := Lib.hid (show quoQ (lowS (winS (setsN L)) xs k) (highS (winS (setsN L)) xs k) = 0 from by
              unfold quoQ; unfold quoOk at hqo
              by_cases h : lowS (winS (setsN L)) xs k ≤ highS (winS (setsN L)) xs k
              · exact if_pos h
              · rw [decide_eq_false h] at hqo; cases hqo)
            clear hqo
            go_wp2
            go_ret2
            exact ⟨by rw [HV.out, HOKV.out, HQ0.out, HQO.out]; rfl, g4⟩
      · have HALL := Lib.hid (allB_no hin)
        have HOKV := Lib.hid (qogOk_num (m := (k : Int)) (L := L) (numsB_no hin))
        clear hin hg
        go_enter Tryz.func5, Tryz.ntmps5
        go_wp2_with fail
        refine HGO.out.mono ?_
        rintro e w1 ⟨rfl, hb1⟩
        have g1 := bfrom hb0 hb1
        have hx1 := hx.now hb1
        have HS1 := Lib.hid (HS.out.now g1)
        clear c0 c1
        obtain ⟨c0, c1⟩ := hx1.cells
        go_wp2_with (first
          | (go_at_call 13; refine (l1All_any b2 off2 k cap2 xs 0 1000 _ hm2 HS1.out).mono ?_; rintro e w2 ⟨rfl, rfl⟩; rw [HALL.out]))
        go_ret2
        exact ⟨by rw [qogV_no HOKV.out, HOKV.out]; rfl, g1⟩
    · have hne2 : ((k : Int) != (q : Int)) = true := by simp; omega
      have HOKV := Lib.hid (qogOk_len (m := (q : Int)) (L := L) (xs := xs) (k := k) (by omega))
      clear hg
      go_enter Tryz.func5, Tryz.ntmps5
      go_wp2_with fail
      refine HGO.out.mono ?_
      rintro e w1 ⟨rfl, hb1⟩
      have g1 := bfrom hb0 hb1
      have hx1 := hx.now hb1
      clear c0 c1
      obtain ⟨c0, c1⟩ := hx1.cells
      go_wp2
      go_ret2
      exact ⟨by rw [qogV_no HOKV.out, HOKV.out]; rfl, g1⟩
  | false =>
    have HGB := Lib.hid hg
    have HOT := Lib.hid (qogOk_bad (xs := xs) (k := k) hg)
    clear hg
    go_enter Tryz.func5, Tryz.ntmps5
    go_wp2_with fail
    refine (gmGood_any m A n cap L _ hl hcap HK.out).mono ?_
    rintro e w1 ⟨rfl, hb1⟩
    rw [HGB.out]
    go_wp2
    go_ret2
    exact ⟨by rw [qogV_no HOT.out, HOT.out]; rfl, bfrom hb0 hb1⟩
end Go.Proofs.YtipplbcjdcdapabGreat
