/- Contract of the program's SwingSets. -/
import Derived.Test.YtldpdjnedoflcabT9
import Derived.Outline
namespace Go.Proofs.Ytldpdjnedoflcab
open Go.RowKit Vo

set_option maxHeartbeats 1000000 in
theorem hasMemberT_any (q : Int) (A : Option Addr) (n cap : Nat) (ws : List Int) (x : Int) (w : World) (hm : n ≤ 9223372036854775807) (hk : Known w A n ws) :
    Calls Try.prog 73 #[.agg #[.int .i64 q, .slice A n cap], .int .i64 x] w fun e w' => e = .returned (.bool (memOk q ws n x)) ∧ Below w.heap.size w w' := by
  have HK := Lib.hid hk
  clear hk
  have hx := Box.new w (.int .i64 q) (.slice A n cap)
  have hb0 := below1 w (.cells #[.int .i64 q, .slice A n cap] 29)
  by_cases hg : Vo.Good q ws n
  · have HGB := Lib.hid (goodB_true hg)
    have hn9 := hg.hi
    clear hg
    go_enter Try.func73, Try.ntmps73
    go_wp2_with fail
    refine (isCommittee_any q A n cap ws _ hm (HK.out.now hb0)).mono ?_
    rintro e w1 ⟨rfl, hb⟩
    rw [HGB.out]
    obtain ⟨hc0, hc1⟩ := (hx.now hb).cells
    go_wp2_with (first
      | (go_at_call 61; refine (members_any _ _ n cap _).mono ?_; rintro e w2 ⟨rfl, hb2⟩)
      | (go_at_call 102; refine (isMember_any n x _ hm).mono ?_; rintro e w3 ⟨rfl, rfl⟩))
    go_ret
    exact ⟨by unfold memOk; rw [HGB.out]; simp, bfrom hb0 (bfrom hb hb2)⟩
  · have HGB := Lib.hid (goodB_false hg)
    clear hg
    go_enter Try.func73, Try.ntmps73
    go_wp2_with fail
    refine (isCommittee_any q A n cap ws _ hm (HK.out.now hb0)).mono ?_
    rintro e w1 ⟨rfl, hb⟩
    rw [HGB.out]
    go_wp2
    go_ret
    exact ⟨by unfold memOk; rw [HGB.out]; simp, bfrom hb0 hb⟩

set_option maxRecDepth 20000 in
set_option maxHeartbeats 4000000 in
theorem swingSets_ans (q : Int) (A : Option Addr) (n cap : Nat) (ws : List Int) (x : Int) (w : World) (hm : n ≤ 9223372036854775807) (hk : Known w A n ws) (_hx : (Lit.int .i64 x).wf = true) :
    Calls Try.prog 42 #[.agg #[.int .i64 q, .slice A n cap], .int .i64 x] w fun e w' => Ans (RSS (swingSetsL q ws n x)) (memOk q ws n x) w w' e := by
  have HK := Lib.hid hk
  clear hk
  have hx := Box.new w (.int .i64 q) (.slice A n cap)
  have hb0 := below1 w (.cells #[.int .i64 q, .slice A n cap] 29)
  cases hok : memOk q ws n x with
  | true =>
    obtain ⟨hg, hx0, hxn⟩ := memOk_parts hok
    obtain ⟨b, off, rfl, hsl⟩ := HK.out.get hg.lo
    have HSL := Lib.hid hsl
    have HOK := Lib.hid hg.ok
    have HGB := Lib.hid (goodB_true hg)
    have HIN := Lib.hid (inB_yes (x := x) (lo := 0) (hi := (n : Int) - 1) hx0 (by omega))
    have hn9 := hg.hi
    have hn10 : n < 10 := by omega
    have h512 := pow_lt hn9
    obtain ⟨k, rfl⟩ : ∃ k : Nat, x = k := ⟨x.toNat, by omega⟩
    have hkn : k < n := by omega
    have HV := Lib.hid (show swingSetsL q ws n k = setsL ((inOrder n).filter (swP (winB q ws n) k)) from (okLL_yes hok).trans (by rw [Int.toNat_natCast]))
    have HFG := Lib.hid (filt_get (P := swP (winB q ws n) k) hn9)
    have hpos := Nat.two_pow_pos n
    have hlen := inOrder_len n
    obtain ⟨L, hL⟩ : ∃ L, L = inOrder n := ⟨_, rfl⟩
    rw [← hL] at hlen HV HFG
    have HIn := Lib.hid (show ∀ j, j < L.length → L.getD j 0 < 2 ^ n from fun j hj => by
      rw [List.getD_eq_getElem?_getD, List.getElem?_eq_getElem hj]
      exact mem_inOrder.1 (by rw [← hL]; exact List.getElem_mem hj))
    have HL := Lib.hid hL
    have hL512 : L.length ≤ 512 := by omega
    have hLpos : 0 < L.length := by omega
    have HN512 := Lib.hid h512
    obtain ⟨i0, hi0, hz0, hz1, hz2⟩ := info_parts infoSet
    have HMO := Lib.hid hok
    clear hg hsl hok hL hlen hpos h512
    go_enter Try.func42, Try.ntmps42
    go_wp2_with fail
    refine (hasMemberT_any q _ n cap ws _ _ hm (HK.out.now hb0)).mono ?_
    rintro e w1 ⟨rfl, hb⟩
    rw [HMO.out]
    have hx1 := hx.now hb
    have g1 := bfrom hb0 hb
    have hs1 := Lib.hid (HSL.out.now g1)
    obtain ⟨hc0, hc1⟩ := hx1.cells
    go_wp2_with (first
      | (go_at_call 61; refine (members_any _ _ n cap _).mono ?_; rintro e w3 ⟨rfl, hb3⟩; have hs3 := Lib.hid (hs1.out.now hb3); have hx3 := hx1.now hb3; have g3 := bfrom g1 hb3)
      | (go_at_call 78; refine (setsInOrder_any n _ hn10).mono ?_; rintro e w4 ⟨A4, cp4, rfl, hown4, hb4⟩; rw [← HL.out] at hown4 ⊢; have HS4 := Lib.hid hown4; clear hown4))
    have hs4 := Lib.hid (hs3.out.now hb4)
    have hx4 := hx3.now hb4
    have g4 := bfrom g3 hb4
    have hz4 := g4.size
    obtain ⟨g, cp', hv, hg, hcc1, hcc2⟩ := owns_head HS4.out (by omega)
    obtain ⟨rfl, rfl⟩ : A4 = some ⟨g, 0, none⟩ ∧ cp4 = cp' := by simpa using hv
    have hOwn : Own w4 g 67 L.length (fun i => .int .u64 (L.getD i 0 : Nat)) := Own.of_own HS4.out (fun i hi => by simp [setsV, List.getD_eq_getElem?_getD, hi])
    have hgl : g < w4.heap.size := hOwn.lt
    have HOwn := Lib.hid hOwn
    clear hOwn hv hc0 hc1 hb hb3 hb4 HS4
    obtain ⟨P, hP⟩ : ∃ P, swP (winB q ws n) k = P := ⟨_, rfl⟩
    have HSWP := Lib.hid hP
    rw [hP] at HV HFG
    clear hP
    go_wp2_with fail
    go_loopw [6, 8, 17] (fun v _ i wr => ∃ (j : Nat) (A : Option Addr) (cap : Nat), j ≤ L.length ∧ i = .int .i64 j ∧ v = .slice A ((L.take j).filter P).length cap ∧ wr.ownsRow w4.heap.size 67 1 (.slice A ((L.take j).filter P).length cap) ((L.take j).filter P).length (setsV ((L.take j).filter P)) ∧ Below w4.heap.size w4 wr) (fun _ _ i _ => L.length - (intOf i).toNat)
    case atStart => exact ⟨0, none, 0, Nat.zero_le _, rfl, rfl, World.ownsRow_nil _ _ _ _, Below.refl _ _⟩
    case round =>
      obtain ⟨j, A, cap2, hj, rfl, rfl, hown, hbr⟩ := hrel
      have HO := Lib.hid hown
      clear hown
      have hfl := filter_take_le P L j
      obtain ⟨M, hM⟩ : ∃ M, M = (L.take j).filter P := ⟨_, rfl⟩
      rw [← hM] at hfl HO ⊢
      obtain ⟨m, hmm⟩ : ∃ m, m = M.length := ⟨_, rfl⟩
      rw [← hmm] at hfl HO ⊢
      have HMm := Lib.hid hmm
      have HM := Lib.hid hM
      clear hmm hM
      have hszr := hbr.size
      by_cases hlt : j < L.length
      · have hcell : wr.cell? ⟨g, j, none⟩ = some (.int .u64 (L.getD j 0 : Nat)) := (HOwn.out.below hbr hgl).cell hlt
        have hsn := HIn.out j hlt
        have HST := Lib.hid (filter_take_succ P L j hlt)
        rw [← HM.out] at HST
        obtain ⟨s, hs⟩ : ∃ s, L.getD j 0 = s := ⟨_, rfl⟩
        rw [hs] at hcell hsn HST
        clear hs
        have HSN := Lib.hid hsn
        clear hsn
        have hsr := Lib.hid (hs4.out.now hbr)
        obtain ⟨hc0, hc1⟩ := (hx4.now hbr).cells
        cases hp : P s
        · have HP := Lib.hid hp
          rw [hp] at HST
          clear hp
          go_wp2_with (go_at_call 79; refine (isSwing_any q b off n cap ws s k _ hn10 HSN.out hkn HOK.out hsr.out).mono ?_; rintro e w5 ⟨rfl, hb5⟩; rw [HSWP.out, HP.out])
          go_roundw
          case rel => exact ⟨j + 1, A, cap2, by omega, by go_num, by rw [HST.out, HMm.out]; simp, by rw [HST.out]; have := owns_now HO.out hb5; simpa [HMm.out] using this, bfrom hbr hb5⟩
          case measure => simp [intOf]; omega
        · have HP := Lib.hid hp
          rw [hp] at HST
          clear hp
          go_wp2_with (first
            | (go_at_call 79; refine (isSwing_any q b off n cap ws s k _ hn10 HSN.out hkn HOK.out hsr.out).mono ?_; rintro e w5 ⟨rfl, hb5⟩; rw [HSWP.out, HP.out]; have HO5 := Lib.hid (owns_now HO.out hb5); have b5 := bfrom hbr hb5; have hsz5 := b5.size)
            | (at_builtin; refine wpList_append_lies _ rfl _ _ _ rfl w4.heap.size 67 i0 _ 1 8 Try.underlying58 hi0 hz0 hz1 hz2 rfl (by decide) (.slice A m cap2) m (setsV M) rfl (HO5.out.alloc _) ⟨w5.heap.size, 0, none⟩ 1 1 [.int .u64 s] rfl rfl (World.news_of_block (cs := #[.int .u64 s]) (t := 67) (fr := (0, 0)) (heap_alloc_new w5 _)) (by simp [Value.oneCell']) (by omega) (by unfold maxLen; omega) (by omega) (by simp; omega) (w5.heap.size + 1) (by simp) ?_; intro gg cap3 w6 hown6 hgrow hat hlt6))
          have hb6 : Below w4.heap.size w4 w6 := (b5.alloc hsz5 (.cells #[.int .u64 s] 67)).grown hgrow (by simp; omega) fun i hi => owns_le HO5.out hi
          go_roundw
          case rel => exact ⟨j + 1, some ⟨gg, 0, none⟩, cap3, by omega, by go_num, by rw [HST.out, HMm.out]; simp, by rw [HST.out]; simpa [HMm.out, setsV] using hown6, hb6⟩
          case measure => simp [intOf]; omega
      · obtain rfl : j = L.length := by omega
        have HE := Lib.hid (show M = L.filter P from by rw [HM.out, List.take_length])
        rw [← HE.out] at HFG HV
        rw [← HMm.out] at HFG
        go_wp2_with (go_at_call 56; refine (listsOf_any M w4.heap.size cap2 m A _ HMm.out HFG.out.1 HFG.out.2 HO.out).mono ?_; rintro e w5 ⟨B5, cap5, rfl, hss5, hb5⟩; have HSS := Lib.hid hss5; clear hss5)
        have hzr := (bfrom g4 hbr).size
        go_ret2
        rw [HV.out]
        refine ⟨_, rfl, RSS.lies (SSb.rss ?_ ⟨B5, cap5, by rw [setsL_len, ← HMm.out]; rfl⟩) (Nat.le_refl _), bfrom (bfrom g4 hbr) hb5⟩
        exact SSb.less HSS.out hzr
  | false =>
    have HE := Lib.hid (show swingSetsL q ws n x = [] from okLL_no hok)
    have HMO := Lib.hid hok
    clear hok
    go_enter Try.func42, Try.ntmps42
    go_wp2_with fail
    refine (hasMemberT_any q _ n cap ws _ _ hm (HK.out.now hb0)).mono ?_
    rintro e w1 ⟨rfl, hb⟩
    rw [HMO.out]
    go_wp2
    go_ret2
    rw [HE.out]
    exact Ans.noneSS (bfrom hb0 hb)
end Go.Proofs.Ytldpdjnedoflcab
