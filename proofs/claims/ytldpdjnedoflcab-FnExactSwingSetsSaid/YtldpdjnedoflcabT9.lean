/- Contracts of SwingSets, the program's and the model's. -/
import Derived.Test.YtldpdjnedoflcabT6
import Derived.Test.YtldpdjnedoflcabT12
import Derived.Test.YtldpdjnedoflcabN4
import Derived.Outline
namespace Go.Proofs.Ytldpdjnedoflcab
open Go.RowKit Vo

/-- There are a committee and a member of it. -/
def memOk (q : Int) (ws : List Int) (n : Nat) (x : Int) : Bool := goodB q ws n && inB x 0 ((n : Int) - 1)
theorem memOk_parts {q ws n x} (h : memOk q ws n x = true) : Vo.Good q ws n ∧ 0 ≤ x ∧ x < n := by
  unfold memOk goodB inB at h
  simp at h
  exact ⟨h.1, h.2.1, by omega⟩

set_option maxHeartbeats 1000000 in
theorem pwMember_any (q : Int) (A : Option Addr) (n cap : Nat) (ws : List Int) (x : Int) (w : World) (hm : n ≤ 9223372036854775807) (hk : Known w A n ws) :
    Calls Try.prog 76 #[.agg #[.int .i64 q, .slice A n cap], .int .i64 x] w fun e w' => e = .returned (.bool (memOk q ws n x)) ∧ Below w.heap.size w w' := by
  have HK := Lib.hid hk
  clear hk
  have hx := Box.new w (.int .i64 q) (.slice A n cap)
  have hb0 := below1 w (.cells #[.int .i64 q, .slice A n cap] 29)
  by_cases hg : Vo.Good q ws n
  · have HGB := Lib.hid (goodB_true hg)
    have hn9 := hg.hi
    clear hg
    go_enter Try.func76, Try.ntmps76
    go_wp2_with fail
    refine (voGood_any q A n cap ws _ hm (HK.out.now hb0)).mono ?_
    rintro e w1 ⟨rfl, hb⟩
    rw [HGB.out]
    obtain ⟨hc0, hc1⟩ := (hx.now hb).cells
    go_wp2_with (go_at_call 71; refine (l1In_any x 0 _ _).mono ?_; rintro e w2 ⟨rfl, rfl⟩)
    go_ret
    exact ⟨by unfold memOk; rw [HGB.out]; simp, bfrom hb0 hb⟩
  · have HGB := Lib.hid (goodB_false hg)
    clear hg
    go_enter Try.func76, Try.ntmps76
    go_wp2_with fail
    refine (voGood_any q A n cap ws _ hm (HK.out.now hb0)).mono ?_
    rintro e w1 ⟨rfl, hb⟩
    rw [HGB.out]
    go_wp2
    go_ret
    exact ⟨by unfold memOk; rw [HGB.out]; simp, bfrom hb0 hb⟩


/-- The swings of a member, in order. -/
def swingSetsL (q : Int) (ws : List Int) (n : Nat) (x : Int) : List (List Int) := okLL (memOk q ws n x) (setsL ((inOrder n).filter (swP (winB q ws n) x.toNat)))
theorem swingSets_small (q : Int) (ws : List Int) (n : Nat) (x : Int) : tot (swingSetsL q ws n x) + (swingSetsL q ws n x).length ≤ 1048576 := by
  unfold swingSetsL
  cases h : memOk q ws n x with
  | true =>
    rw [okLL_yes rfl]
    have h1 := (filt_get (P := swP (winB q ws n) x.toNat) (memOk_parts h).1.hi).1
    have h2 := setsL_len ((inOrder n).filter (swP (winB q ws n) x.toNat))
    have h3 : tot (setsL ((inOrder n).filter (swP (winB q ws n) x.toNat))) ≤ 9 * (setsL ((inOrder n).filter (swP (winB q ws n) x.toNat))).length := totK_small (setsL_nine _) _
    omega
  | false =>
    rw [okLL_no rfl]
    simp [tot, totK]

set_option maxRecDepth 20000 in
set_option maxHeartbeats 4000000 in
theorem sSwingSets_ans (q : Int) (A : Option Addr) (n cap : Nat) (ws : List Int) (x : Int) (w : World) (hm : n ≤ 9223372036854775807) (hk : Known w A n ws) (_hx : (Lit.int .i64 x).wf = true) :
    Calls Try.prog 41 #[.agg #[.int .i64 q, .slice A n cap], .int .i64 x] w fun e w' => Ans (RSS0 (swingSetsL q ws n x)) (memOk q ws n x) w w' e := by
  have HK := Lib.hid hk
  clear hk
  have hx := Box.new w (.int .i64 q) (.slice A n cap)
  have hb0 := below1 w (.cells #[.int .i64 q, .slice A n cap] 29)
  cases hok : memOk q ws n x with
  | true =>
    obtain ⟨hg, hx0, hxn⟩ := memOk_parts hok
    obtain ⟨b, off, rfl, hsl⟩ := HK.out.get hg.lo
    have HSL := Lib.hid hsl
    have HOK := Lib.hid hg.ok
    have hn9 := hg.hi
    have hn10 : n < 10 := by omega
    have h512 := pow_lt hn9
    have HM := Lib.hid hok
    obtain ⟨k, rfl⟩ : ∃ k : Nat, x = k := ⟨x.toNat, by omega⟩
    have hkn : k < n := by omega
    have HV := Lib.hid (show swingSetsL q ws n k = sortL (kindL (swP (winB q ws n) k) (2^n)) from (okLL_yes hok).trans (by rw [kindL_sort _ hn9, Int.toNat_natCast]))
    obtain ⟨L, hL⟩ : ∃ L, L = swL (winB q ws n) k (2^n) := ⟨_, rfl⟩
    have HKL := Lib.hid (show kindL (swP (winB q ws n) k) (2^n) = setsL L from by rw [hL]; rfl)
    rw [HKL.out] at HV
    have HG := Lib.hid (show ∀ j, j < L.length → L.getD j 0 < 512 from fun j hj => by
      have h1 : L.getD j 0 ∈ L := by rw [List.getD_eq_getElem?_getD, List.getElem?_eq_getElem hj]; exact List.getElem_mem hj
      have h3 : L.getD j 0 ∈ swL (winB q ws n) k (2^n) := by rw [← hL]; exact h1
      have h2 := List.mem_range.1 (List.mem_filter.1 h3).1
      omega)
    have hll : L.length ≤ 512 := by rw [hL]; exact Nat.le_trans (swL_le _ k (2^n)) h512
    have HLE := Lib.hid hL
    obtain ⟨i0, hi0, hz0, hz1, hz2⟩ := info_parts infoInts
    clear hg hsl hok hL HKL
    go_enter Try.func41, Try.ntmps41
    go_wp2_with fail
    refine (pwMember_any q _ n cap ws k _ hm (HK.out.now hb0)).mono ?_
    rintro e w1 ⟨rfl, hb⟩
    rw [HM.out]
    have hx1 := hx.now hb
    have g1 := bfrom hb0 hb
    have hz1' := g1.size
    obtain ⟨hc0, hc1⟩ := hx1.cells
    have hs1 := Lib.hid (HSL.out.now g1)
    go_wp2_with (first
      | (go_at_call 54; refine (voWins_any q b off n cap ws _ hn10 HOK.out hs1.out).mono ?_; rintro e w2 ⟨g, cap2, rfl, hg, hown, hb2⟩; have HO2 := Lib.hid hown; clear hown)
      | (go_at_call 77; refine (pwSwings_any (winB q ws n) n k g cap2 _ hn10 hkn HO2.out).mono ?_; rintro e w3 ⟨A5, cap5, rfl, hown3, hb3⟩; rw [← HLE.out, natsL_len] at hown3 ⊢; have HL3 := Lib.hid hown3; clear hown3))
    have g3 := bfrom g1 (bfrom hb2 hb3)
    have hz3 := g3.size
    have HLT3 := Lib.hid (fun i hi => owns_lt HL3.out (k := i) hi)
    clear hc0 hc1 HO2 hb hx1 hx hb2 hb3
    go_loopw [6, 8, 18] (fun v _ i wr => ∃ (j : Nat) (B : Option Addr) (cp : Nat), j ≤ L.length ∧ i = .int .i64 j ∧ v = .slice B j cp ∧ SSb w3.heap.size (setsL (L.take j)) (.slice B j cp) wr ∧ Below w3.heap.size w3 wr) (fun _ _ i _ => L.length - (intOf i).toNat)
    case atStart => exact ⟨0, none, 0, Nat.zero_le _, rfl, rfl, SSb.nil _ _, Below.refl _ _⟩
    case round =>
      obtain ⟨j, B, cp, hj, rfl, rfl, hss, hbr⟩ := hrel
      have HSS := Lib.hid hss
      have hszr := hbr.size
      have HLN := Lib.hid (show j = (setsL (L.take j)).length from by rw [setsL_len, List.length_take]; omega)
      clear hss
      by_cases hlt : j < L.length
      · obtain ⟨g5, cp5, hv, _, _, _⟩ := owns_head HL3.out (by omega)
        obtain ⟨rfl, rfl⟩ : A5 = some ⟨g5, 0, none⟩ ∧ cap5 = cp5 := by simpa using hv
        have hOwn : Own w3 g5 3 L.length (fun i => .int .i64 (L.getD i 0 : Nat)) := Own.of_own HL3.out (fun i hi => by simp [natsL, List.getD_eq_getElem?_getD, hi])
        have hcell : wr.cell? ⟨g5, j, none⟩ = some (.int .i64 (L.getD j 0 : Nat)) := (Own.below hOwn hbr hOwn.lt).cell hlt
        have hs512 := HG.out j hlt
        have HST := Lib.hid (setsL_take L j hlt)
        obtain ⟨xs, _, ho, _⟩ := HSS.out
        rw [← HLN.out] at ho
        have HXS := Lib.hid ho
        clear ho hv hOwn
        obtain ⟨s, hs⟩ : ∃ s, L.getD j 0 = s := ⟨_, rfl⟩
        rw [hs] at hcell hs512 HST
        clear hs
        obtain ⟨m, hm'⟩ : ∃ m, m = (mem s 9).length := ⟨_, rfl⟩
        have hm9 : m ≤ 9 := by have := mem_len s 9; omega
        have HMm := Lib.hid hm'
        clear hm'
        go_wp2_with (first
          | (go_at_call 58; refine (voList_any s _ hs512).mono ?_; rintro e w6 ⟨A6, cap6, rfl, hown6, hb6⟩; rw [← HMm.out] at hown6 ⊢; have HL6 := Lib.hid hown6; clear hown6; have HO6 := Lib.hid (owns_now HXS.out hb6); have b6 := bfromB hbr hb6 hszr; have hsz6 := b6.size)
          | (at_builtin; refine wpList_append_lies _ rfl _ _ _ rfl w3.heap.size 22 i0 _ 1 24 Try.underlying26 hi0 hz0 hz1 hz2 rfl (by decide) (.slice B j cp) j xs rfl (HO6.out.alloc _) ⟨w6.heap.size, 0, none⟩ 1 1 [.slice A6 m cap6] rfl rfl (World.news_of_block (cs := #[.slice A6 m cap6]) (t := 22) (fr := (0, 0)) (heap_alloc_new w6 _)) (by simp [Value.oneCell']) (by omega) (by unfold maxLen; omega) (by omega) (by simp; omega) (w6.heap.size + 1) (by simp) ?_; intro gg cap4 w7 hown7 hgrow7 hat7 hlt7))
        have b7 : Below w3.heap.size w3 w7 := (b6.alloc hsz6 (.cells #[.slice A6 m cap6] 22)).grown hgrow7 (by simp; omega) fun i hi => owns_le HO6.out hi
        have HP := Lib.hid (SSb.push (l := mem s 9) HSS.out HLN.out hszr hb6 ⟨A6, cap6, by rw [HMm.out], by rw [← HMm.out]; exact HL6.out⟩ (Nat.le_succ _) _ (below1 w6 (.cells #[.slice A6 m cap6] 22)) (by simp) xs HXS.out hown7 hgrow7 hat7)
        go_roundw
        case rel => exact ⟨j + 1, some ⟨gg, 0, none⟩, cap4, by omega, by go_num, by simp, by rw [HST.out]; exact HP.out, b7⟩
        case measure => simp [intOf]; omega
      · have hje : j = L.length := by omega
        have HSE := Lib.hid (show SSb w3.heap.size (setsL L) (.slice B j cp) wr from by have h := HSS.out; rw [hje, List.take_length, ← hje] at h; exact h)
        obtain ⟨P0, hP, hA⟩ := SSb.pairs HSE.out (by rw [setsL_len]; exact hje) setsL_small
        have HPP := Lib.hid hP
        have HA := Lib.hid hA
        have hj512 : j ≤ 512 := by omega
        have hlt' : ¬ (j : Int) < (L.length : Int) := by omega
        clear hP hA hje HSS HLN
        go_wp2_with (go_at_call 59; refine (voSorted_any w3.heap.size (setsL L) P0 B j cp _ hj512 HPP.out HA.out).mono ?_; rintro e w6 ⟨B6, cp6, P6, rfl, hown6, hP6, hb6⟩)
        go_ret2
        rw [HV.out]
        exact ⟨_, rfl, RSS0.lies (RSS0.low (hP6.rss hown6 hb6 w3.heap.size (Nat.le_refl _) hszr) hz3) (Nat.le_refl _), bfrom g3 (bfrom hbr hb6)⟩
  | false =>
    have HE := Lib.hid (show swingSetsL q ws n x = [] from okLL_no hok)
    have HM := Lib.hid hok
    clear hok
    go_enter Try.func41, Try.ntmps41
    go_wp2_with fail
    refine (pwMember_any q _ n cap ws x _ hm (HK.out.now hb0)).mono ?_
    rintro e w1 ⟨rfl, hb⟩
    rw [HM.out]
    go_wp2
    go_ret2
    rw [HE.out]
    exact Ans.noneSS0 (bfrom hb0 hb)
end Go.Proofs.Ytldpdjnedoflcab
