/- Contract of the model's voLeast. -/
import Derived.Test.YtibmaofcnibjnaaT2
import Derived.Test.YtibmaofcnibjnaaO2
import Derived.Test.YtibmaofcnibjnaaS3
import Derived.Outline
namespace Go.Proofs.Ytibmaofcnibjnaa
open Go.RowKit Vo

theorem out_add {s k n : Nat} (hs : s < 2^n) (hn : n ≤ 9) (hk : k < n) (hb : s.testBit k = true) : out s k + 2^k = s := by
  have h1 : out s k < 2^n := Nat.lt_of_le_of_lt (out_le s k) hs
  have h2 : (out s k).testBit k = false := by rw [testBit_out (by omega) (by omega)]; simp
  rw [add_pow h1 hk h2]
  apply Nat.eq_of_testBit_eq
  intro i
  rw [Nat.testBit_or, Nat.testBit_two_pow]
  by_cases hi : i < 64
  · rw [testBit_out (by omega) hi]
    by_cases e : k = i
    · subst e; simp [hb]
    · have : i ≠ k := fun h => e h.symm
      simp [e, this]
  · have big : ∀ u : Nat, u < 2^n → u.testBit i = false := fun u hu => Nat.testBit_lt_two_pow (Nat.lt_of_lt_of_le hu (Nat.pow_le_pow_right (by omega) (by omega)))
    rw [big _ h1, big _ hs]
    simp; omega
/-- Of no member's loss among these is the set of the kind. -/
def lossL (p : Nat → Bool) (s : Nat) (l : List Int) : Bool := l.all fun z => !p (out s z.toNat)
theorem noneOut_list (p : Nat → Bool) (s k : Nat) : noneOut p s k = lossL p s (mem s k) := by
  unfold noneOut lossL
  induction k with
  | zero => rfl
  | succ k ih =>
    simp only [allK, mem, List.all_append, ih]
    congr 1
    cases s.testBit k <;> simp
theorem lossL_take (p : Nat → Bool) (s : Nat) (l : List Int) (t : Nat) (z : Nat) (h : l[t]? = some (z : Int)) : lossL p s (l.take (t+1)) = (lossL p s (l.take t) && !p (out s z)) := by
  unfold lossL
  rw [List.take_add_one, h, List.all_append]
  simp
theorem mem_at {s t : Nat} (ht : t < (mem s 9).length) : ∃ z : Nat, (mem s 9)[t]? = some (z : Int) ∧ z < 9 ∧ s.testBit z = true := by
  have h : (mem s 9)[t] ∈ mem s 9 := List.getElem_mem ht
  obtain ⟨z, h1, h2, h3⟩ := mem_iff.1 h
  exact ⟨z, by rw [List.getElem?_eq_getElem ht, h2], h1, h3⟩

/-- The lists of the sets of a kind among the first j. -/
def kindL (P : Nat → Bool) (j : Nat) : List (List Int) := setsL ((List.range j).filter P)
theorem kindL_yes {P : Nat → Bool} {j : Nat} (h : P j = true) : kindL P (j+1) = kindL P j ++ [mem j 9] := by simp [kindL, setsL, List.range_succ, List.filter_append, h]
theorem kindL_no {P : Nat → Bool} {j : Nat} (h : P j = false) : kindL P (j+1) = kindL P j := by simp [kindL, setsL, List.range_succ, List.filter_append, h]
theorem kindL_len (P : Nat → Bool) (j : Nat) : (kindL P j).length ≤ j := by
  rw [kindL, setsL_len]
  exact Nat.le_trans (List.length_filter_le _ _) (by simp)
theorem setsL_small {S : List Nat} : ∀ i, i < (setsL S).length → ((setsL S).getD i []).length ≤ 1048576 := by
  intro i hi
  rw [List.getD_eq_getElem?_getD, List.getElem?_eq_getElem hi]
  simp only [setsL, List.getElem_map, Option.getD_some]
  exact Nat.le_trans (mem_len _ _) (by omega)
theorem kindL_sort (P : Nat → Bool) {n : Nat} (hn : n ≤ 9) : sortL (kindL P (2^n)) = setsL ((inOrder n).filter P) := by
  have e : ∀ S : List Nat, (∀ t ∈ S, t < 2^n) → setsL S = S.map fun t => mem t n := fun S h => List.map_congr_left fun t ht => mem_stop (h t ht) hn
  rw [kindL, e _ (fun t ht => by have := (List.mem_filter.1 ht).1; simpa using this), e _ (fun t ht => mem_inOrder.1 (List.mem_filter.1 ht).1), order_is_sort]

theorem SSb.pairs {base : Nat} {L : List (List Int)} {B : Option Addr} {c cp : Nat} {w : World} (h : SSb base L (.slice B c cp) w) (hc : c = L.length) (hb : ∀ i, i < L.length → (L.getD i []).length ≤ 1048576) :
    ∃ P0, Pairs base P0 c L w ∧ (c = 0 ∨ ∃ g, B = some ⟨g, 0, none⟩ ∧ g < w.heap.size ∧ Own w g 22 c (fun i => (P0.map (·.1)).getD i default)) := by
  obtain ⟨xs, G, ho, h⟩ := h
  subst hc
  have hl : xs.length = L.length := by have := ho.1; simpa using this
  have e1 : (xs.zip L).map (·.1) = xs := List.map_fst_zip (by omega)
  have e2 : (xs.zip L).map (·.2) = L := List.map_snd_zip (by omega)
  refine ⟨xs.zip L, ⟨by simp [hl], e2, fun p hp => ?_⟩, ?_⟩
  · obtain ⟨i, hi, rfl⟩ := List.getElem_of_mem hp
    have hiL : i < L.length := by simp at hi; omega
    have hix : i < xs.length := by omega
    obtain ⟨x, hx, hr, hg⟩ := h i hiL
    have hb2 := hb i hiL
    rw [List.getD_eq_getElem?_getD, List.getElem?_eq_getElem hiL] at hr hg hb2
    rw [List.getElem?_eq_getElem hix] at hx
    injection hx with hx
    simp only [List.getElem_zip, Option.getD_some] at hr hg hb2 ⊢
    rw [hx]
    refine ⟨hr.wide ?_, hb2⟩
    rcases hg with hg | hg
    · exact Or.inl hg
    · exact Or.inr ⟨hg.1, hg.2.1⟩
  · by_cases hn : L.length = 0
    · exact Or.inl hn
    · obtain ⟨g, cap', hv, hg, _, _⟩ := owns_head ho (by omega)
      injection hv with hA _ hcc
      subst hA
      refine Or.inr ⟨g, rfl, owns_lt ho rfl, ?_⟩
      rw [e1]
      exact Own.of_own ho fun i hi => by
        rw [List.getD_eq_getElem?_getD, List.getElem?_eq_getElem (by omega)]; rfl
end Go.Proofs.Ytibmaofcnibjnaa

namespace Go.Proofs.Ytibmaofcnibjnaa
open Go.RowKit Vo

theorem shl_pow2 (k : Nat) (hk : k < 10) : wrap64 ((2 : Int) ^ k) = ((2 ^ k : Nat) : Int) := by
  have h1 : (2:Nat)^k ≤ 2^10 := Nat.pow_le_pow_right (by omega) (by omega)
  rw [show ((2 : Int) ^ k) = ((2 ^ k : Nat) : Int) from by simp]
  generalize 2 ^ k = x at *
  exact IntWalk.wrap64_in _ (by omega)
theorem bfromB {B : Nat} {w w1 w2 : World} (h : Below B w w1) (k : Below w1.heap.size w1 w2) (hB : B ≤ w1.heap.size) : Below B w w2 := h.trans (k.mono hB)

set_option maxRecDepth 20000 in
set_option maxHeartbeats 4000000 in
theorem voLeast_any (p : Nat → Bool) (n g cap : Nat) (w : World) (hn : n < 10) (hw : Own w g 4 (2^n) (fun j => .bool (p j))) :
    Calls Try.prog 57 #[.slice (some ⟨g, 0, none⟩) (2^n : Nat) cap] w fun e w' => ∃ v, e = .returned v ∧ RSS0 (setsL ((inOrder n).filter (leastP p n))) w.heap.size w'.heap.size v w' ∧ Below w.heap.size w w' := by
  obtain ⟨i0, hi0, hz0, hz1, hz2⟩ := info_parts infoInts
  have HW := Lib.hid hw
  have hgl := hw.lt
  have h512 := pow_lt (n := n) (by omega)
  have HSORT := Lib.hid (kindL_sort (leastP p n) (n := n) (by omega))
  have HOUT := Lib.hid (show ∀ s z, s < 2^n → z < n → s.testBit z = true → out s z + 2^z = s ∧ out s z < 2^n from fun s z h1 h2 h3 => ⟨out_add h1 (by omega) h2 h3, Nat.lt_of_le_of_lt (out_le s z) h1⟩)
  have HLP := Lib.hid (show ∀ s, s < 2^n → leastP p n s = (p s && lossL p s (mem s 9)) from fun s hs => by unfold leastP; rw [noneOut_list, mem_stop hs (show n ≤ 9 by omega)])
  have HBN := Lib.hid (show ∀ s z, s < 2^n → s.testBit z = true → z < n from fun s z hs hz => by
    rcases Nat.lt_or_ge z n with h | h
    · exact h
    · rw [Nat.testBit_lt_two_pow (Nat.lt_of_lt_of_le hs (Nat.pow_le_pow_right (by omega) h))] at hz; cases hz)
  clear hw
  obtain ⟨lp, hlp⟩ : ∃ lp, leastP p n = lp := ⟨_, rfl⟩
  rw [hlp] at HSORT HLP ⊢
  clear hlp
  obtain ⟨N, hN⟩ : ∃ N, 2^n = N := ⟨_, rfl⟩
  rw [hN] at HW h512 HOUT HLP HBN HSORT ⊢
  clear hN
  rw [← HSORT.out]
  go_enter Try.func57, Try.ntmps57
  go_wp2
  go_loopw [3, 4, 5, 6, 8, 11] (fun v _ _ _ _ i wr => ∃ (j c : Nat) (B : Option Addr) (cp : Nat), j ≤ N ∧ i = .int .i64 j ∧ v = .slice B c cp ∧ c = (kindL lp j).length ∧ SSb w.heap.size (kindL lp j) (.slice B c cp) wr ∧ Below w.heap.size w wr) (fun _ _ _ _ _ i _ => N - (intOf i).toNat)
  case atStart => exact ⟨0, 0, none, 0, by omega, rfl, rfl, rfl, SSb.nil _ _, Below.refl _ _⟩
  case round =>
    obtain ⟨j, c, B, cp, hj, rfl, rfl, hc, hss, hbr⟩ := hrel
    have HSS := Lib.hid hss
    have HC := Lib.hid hc
    have hcl := kindL_len lp j
    have hszr := hbr.size
    have hc512 : c ≤ 512 := by omega
    clear hss hc hcl
    by_cases hlt : j < N
    · have hcell := (HW.out.below hbr hgl).cell hlt
      have hs512 : j < 512 := by omega
      have HLJ := Lib.hid (HLP.out j hlt)
      cases hpj : p j
      · have HNO := Lib.hid (kindL_no (P := lp) (j := j) (by rw [HLJ.out, hpj]; rfl))
        rw [hpj] at hcell
        clear hpj
        go_wp2
        go_roundw
        case rel => exact ⟨j + 1, c, B, cp, by omega, by go_num, rfl, by rw [HNO.out]; exact HC.out, by rw [HNO.out]; exact HSS.out, hbr⟩
        case measure => simp [intOf]; omega
      · rw [hpj] at hcell HLJ
        clear hpj
        obtain ⟨m, hm⟩ : ∃ m, m = (mem j 9).length := ⟨_, rfl⟩
        have hm9 : m ≤ 9 := by have := mem_len j 9; omega
        have HAT := Lib.hid (show ∀ t, t < m → ∃ z : Nat, (mem j 9)[t]? = some (z : Int) ∧ z < n ∧ j.testBit z = true from fun t ht => by
          obtain ⟨z, h1, _, h3⟩ := mem_at (s := j) (t := t) (by omega)
          exact ⟨z, h1, HBN.out j z hlt h3, h3⟩)
        have HTK := Lib.hid (show (mem j 9).take m = mem j 9 from by rw [hm, List.take_length])
        obtain ⟨qq, hqq⟩ : ∃ qq : Nat → Bool, qq = fun t => lossL p j ((mem j 9).take t) := ⟨_, rfl⟩
        have HQ := Lib.hid (show ∀ t z : Nat, (mem j 9)[t]? = some (z : Int) → qq (t+1) = (qq t && !p (out j z)) from fun t z h => by rw [hqq]; exact lossL_take p j _ t z h)
        have HQ0 := Lib.hid (show qq 0 = true from by rw [hqq]; rfl)
        have HQM := Lib.hid (show lp j = qq m from by rw [HLJ.out, hqq]; simp only [HTK.out, Bool.true_and])
        have HM := Lib.hid hm
        clear hm hqq
        go_wp2_with (first
          | (go_at_call 85; refine (voList_any j _ hs512).mono ?_; rintro e w5 ⟨A5, cap5, rfl, hown5, hb5⟩; rw [← HM.out] at hown5 ⊢; have HL5 := Lib.hid hown5; clear hown5; have b5 := bfromB hbr hb5 hszr; have hsz5 := b5.size))
        go_loop [6, 8, 21] (fun b _ i => ∃ t : Nat, t ≤ m ∧ i = .int .i64 t ∧ b = .bool (qq t)) (fun _ _ i => m - (intOf i).toNat)
        case atStart => exact ⟨0, Nat.zero_le _, rfl, by rw [HQ0.out]⟩
        case round =>
          obtain ⟨t, ht, rfl, rfl⟩ := hrel
          by_cases htm : t < m
          · obtain ⟨z, hz, hzn, hzb⟩ := HAT.out t htm
            obtain ⟨g5, cp5, hv, _, _, _⟩ := owns_head HL5.out (by omega)
            obtain ⟨rfl, rfl⟩ : A5 = some ⟨g5, 0, none⟩ ∧ cap5 = cp5 := by simpa using hv
            have hcell5 : w5.cell? ⟨g5, t, none⟩ = some (.int .i64 z) := by
              have h1 := HL5.out.cells (g := g5) rfl t (.int .i64 z) (by rw [List.getElem?_map, hz]; rfl)
              have e : (⟨g5, 0, none⟩ : Addr).add t = ⟨g5, t, none⟩ := by unfold Addr.add; split <;> simp_all
              rw [← e]; exact h1
            obtain ⟨ho1, ho2⟩ := HOUT.out j z hlt hzn hzb
            have HQ2 := Lib.hid (HQ.out t z hz)
            have hsh := shl_pow2 z (by omega)
            have hcello := (HW.out.below b5 hgl).cell ho2
            have hz63 : (z : Int) < 64 := by omega
            clear hv hz hzb
            obtain ⟨o, hoe⟩ : ∃ o, out j z = o := ⟨_, rfl⟩
            rw [hoe] at ho1 ho2 HQ2 hcello
            clear hoe
            obtain ⟨Pz, hPe⟩ : ∃ Pz, 2 ^ z = Pz := ⟨_, rfl⟩
            rw [hPe] at ho1 hsh
            clear hPe
            have hsub : ((j : Int) - (Pz : Int)).toNat = o := by omega
            have h0 : (0 : Int) ≤ (j : Int) - Pz := by omega
            have h1 : (j : Int) - Pz < N := by omega
            have hPj : Pz ≤ 512 := by omega
            cases hq : qq t
            · rw [hq] at HQ2
              clear hq
              go_wp2
              go_round
              case rel => exact ⟨t + 1, by omega, by go_num, by rw [HQ2.out]; rfl⟩
              case measure => simp [intOf]; omega
            · rw [hq] at HQ2
              clear hq
              cases hpo : p o
              all_goals
                rw [hpo] at HQ2 hcello
                clear hpo
                go_wp2
                go_round
                case rel => exact ⟨t + 1, by omega, by go_num, by rw [HQ2.out]; rfl⟩
                case measure => simp [intOf]; omega
          · obtain rfl : t = m := by omega
            cases hq : qq t
            · have HNO := Lib.hid (kindL_no (P := lp) (j := j) (HQM.out.trans hq))
              clear hq
              go_wp2
              go_roundw
              case rel => exact ⟨j + 1, c, B, cp, by omega, by go_num, rfl, by rw [HNO.out]; exact HC.out, by rw [HNO.out]; exact HSS.out.now hb5, b5⟩
              case measure => simp [intOf]; omega
            · have HYES := Lib.hid (kindL_yes (P := lp) (j := j) (HQM.out.trans hq))
              clear hq
              have HSS5 := Lib.hid (HSS.out.now hb5)
              obtain ⟨xs, _, ho, _⟩ := HSS5.out
              rw [← HC.out] at ho
              have HXS := Lib.hid ho
              clear ho
              go_wp2_with (first
                | (go_at_call 85; refine (voList_any j _ hs512).mono ?_; rintro e w6 ⟨A6, cap6, rfl, hown6, hb6⟩; rw [← HM.out] at hown6 ⊢; have HL6 := Lib.hid hown6; clear hown6; have HO6 := Lib.hid (owns_now HXS.out hb6); have b6 := bfromB b5 hb6 hsz5; have hsz6 := b6.size)
                | (at_builtin; refine wpList_append_lies _ rfl _ _ _ rfl w.heap.size 22 i0 _ 1 24 Try.underlying48 hi0 hz0 hz1 hz2 rfl (by decide) (.slice B c cp) c xs rfl (HO6.out.alloc _) ⟨w6.heap.size, 0, none⟩ 1 1 [.slice A6 t cap6] rfl rfl (World.news_of_block (cs := #[.slice A6 t cap6]) (t := 22) (fr := (0, 0)) (heap_alloc_new w6 _)) (by simp [Value.oneCell']) (by omega) (by unfold maxLen; omega) (by omega) (by simp; omega) (w6.heap.size + 1) (by simp) ?_; intro gg cap4 w7 hown7 hgrow7 hat7 hlt7))
              have b7 : Below w.heap.size w w7 := (b6.alloc hsz6 (.cells #[.slice A6 t cap6] 22)).grown hgrow7 (by simp; omega) fun i hi => owns_le HO6.out hi
              have HP := Lib.hid (SSb.push (l := mem j 9) HSS5.out HC.out hsz5 hb6 ⟨A6, cap6, by rw [HM.out], by rw [← HM.out]; exact HL6.out⟩ (Nat.le_succ _) _ (below1 w6 (.cells #[.slice A6 t cap6] 22)) (by simp) xs HXS.out hown7 hgrow7 hat7)
              go_roundw
              case rel => exact ⟨j + 1, c + 1, some ⟨gg, 0, none⟩, cap4, by omega, by go_num, by simp, by rw [HYES.out, List.length_append, ← HC.out]; rfl, by rw [HYES.out]; exact HP.out, b7⟩
              case measure => simp [intOf]; omega
    · obtain rfl : j = N := by omega
      obtain ⟨P0, hP, hA⟩ := SSb.pairs HSS.out HC.out setsL_small
      have HPP := Lib.hid hP
      have HA := Lib.hid hA
      clear hP hA
      go_wp2_with (go_at_call 86; refine (voSorted_any w.heap.size (kindL lp j) P0 B c cp _ hc512 HPP.out HA.out).mono ?_; rintro e w6 ⟨B6, cp6, P6, rfl, hown6, hP6, hb6⟩)
      go_ret
      exact ⟨_, rfl, hP6.rss hown6 hb6 w.heap.size (Nat.le_refl _) hszr, bfromB hbr hb6 hszr⟩
end Go.Proofs.Ytibmaofcnibjnaa
