/- Contracts of MergeMembers, the model's; the program's in the form that the law's walk takes. For the seats of tied cards. -/
import Derived.Test.YtkckefjpkhjeaabDoorRj
import Derived.Test.YtkckefjpkhjeaabDoorRl
import Derived.Outline
namespace Go.Proofs.YtkckefjpkhjeaabDoor
open Go.RowKit Vo

theorem mergeMembers_ans (q : Int) (A : Option Addr) (n cap : Nat) (ws : List Int) (b2 off2 m cap2 : Nat) (xs : List Int) (w : World) (hm : n ≤ 9223372036854775807) (hk : Known w A n ws) (hm2 : m ≤ 9223372036854775807) (hs : Sl w b2 off2 m xs) (hT : Tab w) (hcap : n = cap := by exact rfl) :
    Calls Tryd.prog 11 #[.agg #[.int .i64 q, .slice A n cap], .slice (some ⟨b2, off2, none⟩) m cap2] w fun e w' => ComAt (qIf (uniB q ws n xs m) q) (nIf (uniB q ws n xs m) (uniL ws n (okS q ws n xs m)).length) (uniL ws n (okS q ws n xs m)) (uniB q ws n xs m) w w' e := by
  subst hcap
  exact mergeMembers_any q A n ws b2 off2 m cap2 xs w hm hk hm2 hs hT

theorem uniB_all {q : Int} {ws : List Int} {n : Nat} {xs : List Int} {m : Nat} (h : okB q ws n xs m = true) (hm1 : 1 ≤ m) :
    Vo.Good q ws n ∧ RiseK n xs m ∧ okS q ws n xs m = ofK xs m ∧ goodB q (uniL ws n (ofK xs m)) (uniL ws n (ofK xs m)).length = uniB q ws n xs m := by
  obtain ⟨hg, _⟩ := okB_set h
  have hr : RiseK n xs m := by
    unfold okB at h
    simp only [Bool.and_eq_true] at h
    exact of_decide_eq_true h.2
  have hS := okS_yes h
  have hn9 := hg.hi
  have h5 : ofK xs m < 512 := by have := ofK_lt hr; have := pow_lt hn9; omega
  have h0 := (set_first hn9 hr hm1).1
  refine ⟨hg, hr, hS, ?_⟩
  rw [uniB_yes h (by rw [hS]; omega), hS]
  exact mrg_good hg h0 h5 (first_lt h0 hn9 (ofK_lt hr))
theorem uniB_none {q : Int} {ws : List Int} {n : Nat} {xs : List Int} : uniB q ws n xs 0 = false := by
  refine uniB_no2 ?_
  unfold okS
  split <;> rfl

set_option maxRecDepth 20000 in
set_option maxHeartbeats 4000000 in
theorem unSet_any (q : Int) (A : Option Addr) (n : Nat) (ws : List Int) (b2 off2 m cap2 : Nat) (xs : List Int) (w : World) (hm : n ≤ 9223372036854775807) (hk : Known w A n ws) (hm2 : m ≤ 9223372036854775807) (hs : Sl w b2 off2 m xs) :
    Calls Tryd.prog 25 #[.agg #[.int .i64 q, .slice A n n], .slice (some ⟨b2, off2, none⟩) m cap2] w fun e w' => e = .returned (.bool (uniB q ws n xs m)) ∧ Below w.heap.size w w' := by
  have hx := Box.new w (.int .i64 q) (.slice A n n)
  have hb0 := below1 w (.cells #[.int .i64 q, .slice A n n] 26)
  obtain ⟨c0, c1⟩ := hx.cells
  have HVA := Lib.hid (voAsked_any q A n n ws b2 off2 m cap2 xs _ hm (hk.now hb0) hm2 (hs.now hb0))
  have HK := Lib.hid hk
  have HS := Lib.hid hs
  clear hk hs
  cases hB : okB q ws n xs m with
  | false =>
    have HB := Lib.hid hB
    have HU := Lib.hid (uniB_no1 hB)
    clear hB
    rw [HU.out]
    go_enter Tryd.func25, Tryd.ntmps25
    go_wp2_with fail
    refine HVA.out.mono ?_
    rintro e w1 ⟨rfl, hb1⟩
    rw [HB.out]
    go_wp2
    go_ret
    exact ⟨rfl, bfrom hb0 hb1⟩
  | true =>
    have HB := Lib.hid hB
    by_cases hm0 : m = 0
    · subst hm0
      have HU := Lib.hid (uniB_none (q := q) (ws := ws) (n := n) (xs := xs))
      clear hB
      rw [HU.out]
      go_enter Tryd.func25, Tryd.ntmps25
      go_wp2_with fail
      refine HVA.out.mono ?_
      rintro e w1 ⟨rfl, hb1⟩
      rw [HB.out]
      go_wp2
      go_ret
      exact ⟨rfl, bfrom hb0 hb1⟩
    · have hm1 : 1 ≤ m := by omega
      obtain ⟨hg, hr, _, hU⟩ := uniB_all hB hm1
      obtain ⟨b, off, rfl, hsl⟩ := HK.out.get hg.lo
      have HSL := Lib.hid hsl
      have hle := uniL_le ws n (ofK xs m)
      have hn9 := hg.hi
      have HUM := Lib.hid (fun W (hb : Below w.heap.size w W) => unMerge_any q b off n b2 off2 m cap2 ws xs W hg hr hm1 hm2 (HSL.out.now hb) (HS.out.now hb))
      simp only [ComV] at HUM
      obtain ⟨L, hL⟩ : ∃ z, z = uniL ws n (ofK xs m) := ⟨_, rfl⟩
      simp only [← hL] at HUM
      rw [← hL] at hU hle
      clear hL
      have HVG := Lib.hid (fun g cp W (h : Ints W g L.length L) => voGood_any q (some ⟨g, 0, none⟩) L.length cp L W (by omega) (Known.of (Ints.sl h)))
      obtain ⟨mm, hmm⟩ : ∃ z, z = L.length := ⟨_, rfl⟩
      simp only [← hmm] at HUM HVG
      rw [← hmm] at hU hle
      have HU := Lib.hid hU
      have hm0' : (0 : Int) < (m : Int) := by omega
      clear hg hr hU hsl hm0 hmm hB
      go_enter Tryd.func25, Tryd.ntmps25
      go_wp2_with fail
      refine HVA.out.mono ?_
      rintro e w1 ⟨rfl, hb1⟩
      rw [HB.out]
      have g1 := bfrom hb0 hb1
      obtain ⟨d0, d1⟩ := (hx.now hb1).cells
      clear c0 c1
      go_wp2_with (first
        | (go_at_call 26; refine (HUM.out _ g1).mono ?_; rintro e w2 ⟨g, cp, rfl, hgl, hI, hb2⟩; have HI := Lib.hid hI; clear hI)
        | (go_at_call 44; refine (HVG.out g cp _ HI.out).mono ?_; rintro e w3 ⟨rfl, hb3⟩; rw [HU.out])
        | fail)
      go_ret
      exact ⟨by simp, bfrom g1 (bfrom hb2 hb3)⟩

set_option maxRecDepth 20000 in
set_option maxHeartbeats 4000000 in
theorem sMergeMembers_core (q : Int) (A : Option Addr) (n : Nat) (ws : List Int) (b2 off2 m cap2 : Nat) (xs : List Int) (w : World) (hm : n ≤ 9223372036854775807) (hk : Known w A n ws) (hm2 : m ≤ 9223372036854775807) (hs : Sl w b2 off2 m xs) :
    Calls Tryd.prog 8 #[.agg #[.int .i64 q, .slice A n n], .slice (some ⟨b2, off2, none⟩) m cap2] w fun e w' => ComAt (qIf (uniB q ws n xs m) q) (nIf (uniB q ws n xs m) (uniL ws n (okS q ws n xs m)).length) (uniL ws n (okS q ws n xs m)) (uniB q ws n xs m) w w' e := by
  have hb0 : Below w.heap.size w ((w.alloc (.cells #[.int .i64 q, .slice A n n] 26)).alloc (.cells #[.int .i64 0, .slice none 0 0] 26)) := (below1 w _).alloc (by simp) _
  have hx := (Box.new w (.int .i64 q) (.slice A n n)).alloc (.cells #[.int .i64 0, .slice none 0 0] 26)
  have hr := Box.new (w.alloc (.cells #[.int .i64 q, .slice A n n] 26)) (.int .i64 0) (.slice none 0 0)
  simp only [World.size_alloc] at hr
  obtain ⟨c0, c1⟩ := hx.cells
  have HUS := Lib.hid (unSet_any q A n ws b2 off2 m cap2 xs _ hm (hk.now hb0) hm2 (hs.now hb0))
  have HK := Lib.hid hk
  have HS := Lib.hid hs
  clear hk hs
  cases hU : uniB q ws n xs m with
  | false =>
    have HU := Lib.hid hU
    clear hU
    go_enter Tryd.func8, Tryd.ntmps8
    go_wp2_with fail
    refine HUS.out.mono ?_
    rintro e w1 ⟨rfl, hb1⟩
    rw [HU.out]
    have g1 := bfrom hb0 hb1
    have hr1 := hr.now hb1
    obtain ⟨d0, d1⟩ := hr1.cells
    obtain ⟨f0, f1⟩ := frozen2 hr1
    have hrF := boxU_put hr1 (.int .i64 0) (.slice none 0 0)
    obtain ⟨e0, e1⟩ := hrF.cells
    clear hx hr hb1 c0 c1
    go_wp2
    refine bodyPost_ret (v := .tuple #[.agg #[.int .i64 0, .slice none 0 0], .bool false]) (by simp [results, Tryd.results8, go_sem, e0, e1]) rfl ?_
    exact ComAt.fail ((g1.setCell (by simp) _).setCell (by simp) _)
  | true =>
    have HU := Lib.hid hU
    have hB : okB q ws n xs m = true := by
      cases h : okB q ws n xs m with
      | true => rfl
      | false => rw [uniB_no1 h] at hU; cases hU
    have hm1 : 1 ≤ m := by
      rcases Nat.eq_zero_or_pos m with h | h
      · rw [h, uniB_none] at hU; cases hU
      · exact h
    obtain ⟨hg, hr', hS, _⟩ := uniB_all hB hm1
    obtain ⟨b, off, rfl, hsl⟩ := HK.out.get hg.lo
    have HSL := Lib.hid hsl
    rw [hS]
    have HUM := Lib.hid (fun W (hb : Below w.heap.size w W) => unMerge_any q b off n b2 off2 m cap2 ws xs W hg hr' hm1 hm2 (HSL.out.now hb) (HS.out.now hb))
    simp only [ComV] at HUM
    obtain ⟨L, hL⟩ : ∃ z, z = uniL ws n (ofK xs m) := ⟨_, rfl⟩
    simp only [← hL] at HUM
    rw [← hL]
    clear hL hg hr' hS hB hU hsl
    go_enter Tryd.func8, Tryd.ntmps8
    go_wp2_with fail
    refine HUS.out.mono ?_
    rintro e w1 ⟨rfl, hb1⟩
    rw [HU.out]
    have g1 := bfrom hb0 hb1
    have hr1 := hr.now hb1
    obtain ⟨d0, d1⟩ := (hx.now hb1).cells
    have hz1 := hr1.lt
    clear hx hr hb1 c0 c1
    go_wp2_with (first
      | (go_at_call 26; refine (HUM.out _ g1).mono ?_; rintro e w2 ⟨g, cp, rfl, hgl, hI, hb2⟩; have HI := Lib.hid hI; clear hI; have hr2 := hr1.now hb2; obtain ⟨k0, k1⟩ := hr2.cells; obtain ⟨f0, f1⟩ := frozen2 hr2)
      | fail)
    have hrF := boxU_put hr2 (.int .i64 q) (.slice (some ⟨g, 0, none⟩) L.length cp)
    obtain ⟨e0, e1⟩ := hrF.cells
    refine bodyPost_ret (v := .tuple #[.agg #[.int .i64 q, .slice (some ⟨g, 0, none⟩) L.length cp], .bool true]) (by simp [results, Tryd.results8, go_sem, e0, e1]) rfl ?_
    have hgr : g ≠ w.heap.size + 1 := by omega
    exact ⟨_, cp, rfl, Or.inr ⟨g, rfl, by omega, (HI.out.far (p := ⟨w.heap.size + 1, 0, none⟩) hgr _).far (p := ⟨w.heap.size + 1, 1, none⟩) hgr _⟩, ((bfrom g1 hb2).setCell (by simp) _).setCell (by simp) _⟩
theorem sMergeMembers_any (q : Int) (A : Option Addr) (n cap : Nat) (ws : List Int) (b2 off2 m cap2 : Nat) (xs : List Int) (w : World) (hm : n ≤ 9223372036854775807) (hk : Known w A n ws) (hm2 : m ≤ 9223372036854775807) (hs : Sl w b2 off2 m xs) (hcap : n = cap := by exact rfl) :
    Calls Tryd.prog 8 #[.agg #[.int .i64 q, .slice A n cap], .slice (some ⟨b2, off2, none⟩) m cap2] w fun e w' => ComAt (qIf (uniB q ws n xs m) q) (nIf (uniB q ws n xs m) (uniL ws n (okS q ws n xs m)).length) (uniL ws n (okS q ws n xs m)) (uniB q ws n xs m) w w' e := by
  subst hcap
  exact sMergeMembers_core q A n ws b2 off2 m cap2 xs w hm hk hm2 hs
theorem uniN_le (q : Int) (ws : List Int) (n : Nat) (xs : List Int) (m : Nat) : nIf (uniB q ws n xs m) (uniL ws n (okS q ws n xs m)).length ≤ 9 := nIf_le fun h => by
  have hB : okB q ws n xs m = true := by
    cases h' : okB q ws n xs m with
    | true => rfl
    | false => rw [uniB_no1 h'] at h; cases h
  have := uniL_le ws n (okS q ws n xs m)
  have := (okB_set hB).1.hi
  omega
