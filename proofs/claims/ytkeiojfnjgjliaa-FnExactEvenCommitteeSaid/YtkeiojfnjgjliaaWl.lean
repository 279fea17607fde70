/- Contract of the program's TimesCommittee. -/
import Derived.Test.YtkeiojfnjgjliaaWc
import Derived.Test.YtkeiojfnjgjliaaS1
namespace Go.Proofs.Ytkeiojfnjgjliaa
open Go.RowKit Vo

/-- The first k weights, each times x. -/
def timesL (ws : List Int) (k : Nat) (x : Int) : List Int := (List.range k).map fun j => ws.getD j 0 * x
theorem timesL_succ (ws : List Int) (k : Nat) (x : Int) : timesL ws (k+1) x = timesL ws k x ++ [ws.getD k 0 * x] := by simp [timesL, List.range_succ]
theorem timesL_len (ws : List Int) (k : Nat) (x : Int) : (timesL ws k x).length = k := by simp [timesL]
theorem timesL_at {ws : List Int} {k : Nat} {x : Int} {j : Nat} (h : j < k) : (timesL ws k x).getD j 0 = ws.getD j 0 * x := by
  simp [timesL, List.getD_eq_getElem?_getD, h]
theorem mul_bd {y x a : Int} (h0 : 0 ≤ y) (h1 : y ≤ a) (hx : 1 ≤ x) (hx2 : x ≤ 1000) : 0 ≤ y * x ∧ y * x ≤ a * 1000 :=
  ⟨Int.mul_nonneg h0 (by omega), Int.le_trans (Int.mul_le_mul_of_nonneg_right h1 (by omega)) (Int.mul_le_mul_of_nonneg_left hx2 (by omega))⟩

def timesOk (q : Int) (ws : List Int) (n : Nat) (x : Int) : Bool := goodB q ws n && inB x 1 1000 && goodB (q * x - (x - 1)) (timesL ws n x) n
def timesQ (q : Int) (ws : List Int) (n : Nat) (x : Int) : Int := if timesOk q ws n x then q * x - (x - 1) else 0
def timesN (q : Int) (ws : List Int) (n : Nat) (x : Int) : Nat := if timesOk q ws n x then n else 0
theorem timesQ_yes {q ws n x} (h : timesOk q ws n x = true) : timesQ q ws n x = q * x - (x - 1) := if_pos h
theorem timesQ_no {q ws n x} (h : timesOk q ws n x = false) : timesQ q ws n x = 0 := if_neg (by rw [h]; simp)
theorem timesN_yes {q ws n x} (h : timesOk q ws n x = true) : timesN q ws n x = n := if_pos h
theorem timesN_no {q ws n x} (h : timesOk q ws n x = false) : timesN q ws n x = 0 := if_neg (by rw [h]; simp)
theorem timesN_le (q : Int) (ws : List Int) (n : Nat) (x : Int) : timesN q ws n x ≤ 9 := by
  cases h : timesOk q ws n x with
  | true =>
    rw [timesN_yes h]
    unfold timesOk at h
    simp at h
    have := h.1.1
    unfold goodB at this
    exact (of_decide_eq_true this).hi
  | false => rw [timesN_no h]; omega
theorem timesOk_good {q ws n x} (h : goodB q ws n = true) (hx : inB x 1 1000 = true) : timesOk q ws n x = goodB (q * x - (x - 1)) (timesL ws n x) n := by unfold timesOk; rw [h, hx]; rfl
theorem timesOk_bad {q ws n x} (h : goodB q ws n = false) : timesOk q ws n x = false := by unfold timesOk; rw [h]; rfl
theorem timesOk_out {q ws n x} (h : goodB q ws n = true) (hx : inB x 1 1000 = false) : timesOk q ws n x = false := by unfold timesOk; rw [h, hx]; rfl

set_option maxRecDepth 20000 in
set_option maxHeartbeats 4000000 in
theorem timesCommittee_any (q : Int) (A : Option Addr) (n cap : Nat) (ws : List Int) (x : Int) (w : World) (hm : n ≤ 9223372036854775807) (hk : Known w A n ws) (_hx : (Lit.int .i64 x).wf = true) :
    Calls Try.prog 28 #[.agg #[.int .i64 q, .slice A n cap], .int .i64 x] w fun e w' => ComAt (timesQ q ws n x) (timesN q ws n x) (timesL ws n x) (timesOk q ws n x) w w' e := by
  have HK := Lib.hid hk
  clear hk
  have hb0 : Below w.heap.size w ((w.alloc (.cells #[.int .i64 q, .slice A n cap] 32)).alloc (.cells #[.int .i64 0, .slice none 0 0] 32)) := (below1 w _).alloc (by simp) _
  have hx := (Box.new w (.int .i64 q) (.slice A n cap)).alloc (.cells #[.int .i64 0, .slice none 0 0] 32)
  have hr := Box.new (w.alloc (.cells #[.int .i64 q, .slice A n cap] 32)) (.int .i64 0) (.slice none 0 0)
  simp only [World.size_alloc] at hr
  have KF := Lib.hid (show ∀ W, BoxT 32 W (w.heap.size + 1) (.int .i64 0) (.slice none 0 0) → (W.frozen? ⟨w.heap.size + 1, 0, none⟩ = false ∧ W.frozen? ⟨w.heap.size + 1, 1, none⟩ = false) from fun W h => by unfold BoxT at h; exact ⟨by simp [World.frozen?, h], by simp [World.frozen?, h]⟩)
  by_cases hg : Vo.Good q ws n
  · obtain ⟨b, off, rfl, hsl⟩ := HK.out.get hg.lo
    have HSL := Lib.hid hsl
    have HG := Lib.hid hg
    have HGB := Lib.hid (goodB_true hg)
    have hn9 := hg.hi
    have hn1 := hg.lo
    have hn10 : n < 10 := by omega
    clear hg hsl
    by_cases hxx : 1 ≤ x ∧ x ≤ 1000
    · obtain ⟨hx1', hx2'⟩ := hxx
      have HIN := Lib.hid (inB_yes (x := x) (lo := 1) (hi := 1000) hx1' hx2')
      have HDO := Lib.hid (timesOk_good HGB.out HIN.out)
      have hq := HG.out.q1
      have hq2 := HG.out.q2
      have htot := HG.out.tot
      have HOK := Lib.hid HG.out.ok
      have hqx := mul_bd (y := q) (a := 9000) (by omega) (by omega) hx1' hx2'
      have HLT := Lib.hid (timesL_len ws n x)
      obtain ⟨Q, hQ⟩ : ∃ Q, Q = q * x - (x - 1) := ⟨_, rfl⟩
      have HQQ := Lib.hid hQ
      rw [← hQ] at HDO
      obtain ⟨P, hP⟩ : ∃ P, P = q * x := ⟨_, rfl⟩
      have HPP := Lib.hid hP
      rw [← hP] at hqx hQ
      have HW := Lib.hid (show IntKind.i64.wrap (IntKind.i64.wrap (q * x) - IntKind.i64.wrap (x - 1)) = Q from by rw [← hP, IntWalk.i64_in P (by omega), IntWalk.i64_in (x - 1) (by omega), IntWalk.i64_in _ (by omega), hQ])
      clear hq hq2 htot
      have hxl1 : ¬ x < 1 := by omega
      have hxl2 : ¬ 1000 < x := by omega
      go_enter Try.func28, Try.ntmps28
      go_wp2_with fail
      refine (isCommittee_any q _ n cap ws _ hm (HK.out.now hb0)).mono ?_
      rintro e w1 ⟨rfl, hb1⟩
      rw [HGB.out]
      have g1 := bfrom hb0 hb1
      have hr1 := hr.now hb1
      obtain ⟨c0, c1⟩ := (hx.now hb1).cells
      clear hr hb0 hb1 hx
      go_wp2_with fail
      rw [← HQQ.out]
      refine (withQuota_row q Q b off n cap ws w1 hn1 hn9 (HSL.out.now g1)).mono ?_
      rintro e w2 ⟨rfl, ho2, hb2⟩
      obtain ⟨g, hg⟩ : ∃ g, g = w1.heap.size + 2 := ⟨_, rfl⟩
      rw [← hg] at ho2 ⊢
      have hI2 := ints_of_row ho2
      have hzr := hr1.lt
      have hgr : w.heap.size + 3 < g := by omega
      have hgl : g < w2.heap.size := hI2.lt
      have g2 := bfrom g1 hb2
      have b3 := below1 w2 (.cells #[.int .i64 Q, .slice (some ⟨g, 0, none⟩) n n] 32)
      have g3 := bfrom g2 b3
      have hI3 := Own.below hI2 b3 hgl
      have hn3 := Box.new w2 (.int .i64 Q) (.slice (some ⟨g, 0, none⟩) n n)
      have hr3 := (hr1.now hb2).now b3
      obtain ⟨e0, e1⟩ := hn3.cells
      have hge : w.heap.size ≤ g := by omega
      have hgr2 : g ≠ w.heap.size + 1 := by omega
      clear c0 c1 hQ hP hg
      go_wp2_with fail
      obtain ⟨w3, hw3⟩ : ∃ w3, w3 = w2.alloc (.cells #[.int .i64 Q, .slice (some ⟨g, 0, none⟩) n n] 32) := ⟨_, rfl⟩
      obtain ⟨nb, hnb⟩ : ∃ nb, nb = w2.heap.size := ⟨_, rfl⟩
      rw [← hw3] at g3 hI3 hn3 hr3 e0 e1 ⊢
      rw [← hnb] at hn3 hgl e0 e1 ⊢
      have hgn : g ≠ nb := by omega
      clear hb2 b3 hw3 hnb g2 hI2 ho2 hr1 e0 e1 hzr
      go_loopw [7, 32] (fun _ i wr => ∃ k : Nat, k ≤ n ∧ i = .int .i64 k ∧ Own wr g 3 n (fun j => .int .i64 (if j < k then ws.getD j 0 * x else ws.getD j 0)) ∧ Box wr nb (.int .i64 Q) (.slice (some ⟨g, 0, none⟩) n n) ∧ BoxT 32 wr (w.heap.size + 1) (.int .i64 0) (.slice none 0 0) ∧ Below w.heap.size w wr) (fun _ i _ => n - (intOf i).toNat)
      case atStart => exact ⟨0, Nat.zero_le _, rfl, hI3.congr fun j _ => by simp, hn3, hr3, g3⟩
      case round =>
        obtain ⟨k, hk, rfl, hown, hbx, hrr, hbr⟩ := hrel
        obtain ⟨e0, e1⟩ := hbx.cells
        by_cases hlt : k < n
        · have hcell := hown.cell hlt
          have hfz := hown.frozen k
          rw [if_neg (by omega)] at hcell
          have hy := HOK.out k hlt
          have hyx := mul_bd (y := ws.getD k 0) (a := 1000) hy.1 hy.2 hx1' hx2'
          have HST := Lib.hid (show Own (_root_.Go.World.setCell _ ⟨g, k, none⟩ (.int .i64 (ws.getD k 0 * x))) g 3 n (fun j => .int .i64 (if j < k + 1 then ws.getD j 0 * x else ws.getD j 0)) from (hown.set k (.int .i64 (ws.getD k 0 * x))).congr fun j hj => by
            by_cases e : j = k
            · subst e; rw [if_pos rfl, if_pos (by omega)]
            · rw [if_neg e]
              by_cases h : j < k
              · rw [if_pos h, if_pos (by omega)]
              · rw [if_neg h, if_neg (by omega)])
          obtain ⟨y, hye⟩ : ∃ y, y = ws.getD k 0 := ⟨_, rfl⟩
          rw [← hye] at hcell hyx HST
          obtain ⟨z, hz⟩ : ∃ z, z = y * x := ⟨_, rfl⟩
          have HZ := Lib.hid hz
          rw [← hz] at hyx HST
          clear hy hye
          have hyz : y * x = z := hz.symm
          clear hz
          go_wp2
          go_roundw
          case rel => exact ⟨k + 1, by omega, by go_num, HST.out, hbx.far (by simpa using hgn.symm) _, hrr.far (by simpa using hgr2.symm) _, hbr.setCell (by simpa using hge) _⟩
          case measure => simp [intOf]; omega
        · obtain rfl : k = n := by omega
          have hI : Ints _ g k (timesL ws k x) := hown.congr fun j hj => by rw [if_pos hj, timesL_at hj]
          have HI := Lib.hid hI
          clear hown hI
          cases hgd : goodB Q (timesL ws k x) k with
          | true =>
            have HGD := Lib.hid hgd
            rw [HGD.out] at HDO
            clear hgd
            go_wp2_with (go_at_call 69; refine (checked_yes Q (some ⟨g, 0, none⟩) k k (timesL ws k x) _ hm (Known.of HI.out.sl) HGD.out).mono ?_; rintro e w9 ⟨rfl, hb9⟩; have hr9 := hrr.now hb9; obtain ⟨d0, d1⟩ := hr9.cells; obtain ⟨f0, f1⟩ := KF.out _ hr9)
            have g9 := bfrom hbr hb9
            have hlt9 := HI.out.lt
            refine bodyPost_ret (v := .tuple #[.agg #[.int .i64 Q, .slice (some ⟨g, 0, none⟩) k k], .bool true]) (by simp [results, Try.results28, go_sem, d0, d1]) rfl ?_
            rw [HDO.out, timesQ_yes HDO.out, timesN_yes HDO.out, ← HQQ.out]
            exact ⟨_, _, rfl, Or.inr ⟨g, rfl, hge, ((Own.below HI.out hb9 hlt9).far (by simpa using hgr2) _).far (by simpa using hgr2) _⟩, (g9.setCell (by simp) _).setCell (by simp) _⟩
          | false =>
            have HGD := Lib.hid hgd
            rw [HGD.out] at HDO
            clear hgd
            go_wp2_with (go_at_call 69; refine (checked_no Q (some ⟨g, 0, none⟩) k k (timesL ws k x) _ hm (Known.of HI.out.sl) HGD.out).mono ?_; rintro e w9 ⟨rfl, hb9⟩; have hr9 := hrr.now hb9; obtain ⟨d0, d1⟩ := hr9.cells; obtain ⟨f0, f1⟩ := KF.out _ hr9)
            have g9 := bfrom hbr hb9
            refine bodyPost_ret (v := .tuple #[.agg #[.int .i64 0, .slice none 0 0], .bool false]) (by simp [results, Try.results28, go_sem, d0, d1]) rfl ?_
            rw [HDO.out, timesQ_no HDO.out, timesN_no HDO.out]
            exact ⟨_, _, rfl, Or.inl ⟨rfl, rfl⟩, (g9.setCell (by simp) _).setCell (by simp) _⟩
    · have HE := Lib.hid (timesOk_out (x := x) HGB.out (inB_no hxx))
      have hxx2 : x < 1 ∨ (1 ≤ x ∧ 1000 < x) := by omega
      clear hxx
      rcases hxx2 with hxl | ⟨hxl, hxh⟩
      all_goals
        go_enter Try.func28, Try.ntmps28
        go_wp2_with fail
        refine (isCommittee_any q _ n cap ws _ hm (HK.out.now hb0)).mono ?_
        rintro e w1 ⟨rfl, hb1⟩
        rw [HGB.out]
        have g1 := bfrom hb0 hb1
        have hr1 := hr.now hb1
        obtain ⟨c0, c1⟩ := hr1.cells
        obtain ⟨f0, f1⟩ := KF.out _ hr1
        clear hr hb0 hb1 hx
        go_wp2
        refine bodyPost_ret (v := .tuple #[.agg #[.int .i64 0, .slice none 0 0], .bool false]) (by simp [results, Try.results28, go_sem, c0, c1]) rfl ?_
        rw [HE.out, timesQ_no HE.out, timesN_no HE.out]
        exact ⟨_, _, rfl, Or.inl ⟨rfl, rfl⟩, (g1.setCell (by simp) _).setCell (by simp) _⟩
  · have HE := Lib.hid (timesOk_bad (x := x) (goodB_false hg))
    have HGB := Lib.hid (goodB_false hg)
    clear hg
    go_enter Try.func28, Try.ntmps28
    go_wp2_with fail
    refine (isCommittee_any q A n cap ws _ hm (HK.out.now hb0)).mono ?_
    rintro e w1 ⟨rfl, hb1⟩
    rw [HGB.out]
    have g1 := bfrom hb0 hb1
    have hr1 := hr.now hb1
    obtain ⟨c0, c1⟩ := hr1.cells
    obtain ⟨f0, f1⟩ := KF.out _ hr1
    clear hr hb0 hb1 hx
    go_wp2
    refine bodyPost_ret (v := .tuple #[.agg #[.int .i64 0, .slice none 0 0], .bool false]) (by simp [results, Try.results28, go_sem, c0, c1]) rfl ?_
    rw [HE.out, timesQ_no HE.out, timesN_no HE.out]
    exact ⟨_, _, rfl, Or.inl ⟨rfl, rfl⟩, (g1.setCell (by simp) _).setCell (by simp) _⟩
end Go.Proofs.Ytkeiojfnjgjliaa
