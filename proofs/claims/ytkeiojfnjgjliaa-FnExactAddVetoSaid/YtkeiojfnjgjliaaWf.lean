/- Contract of the model's AddDummy. -/
import Derived.Test.YtkeiojfnjgjliaaWc
import Derived.Test.YtkeiojfnjgjliaaG2
import Derived.Test.YtkeiojfnjgjliaaS2
namespace Go.Proofs.Ytkeiojfnjgjliaa
open Go.RowKit Vo

theorem addL_in {lo hi : Int} {ws : List Int} {n : Nat} {x : Int} (h : InK lo hi ws n) (h1 : lo ≤ x) (h2 : x ≤ hi) : InK lo hi (addL ws n x) (n+1) := by
  intro j hj
  by_cases e : j = n
  · subst e; rw [addL_end]; exact ⟨h1, h2⟩
  · rw [addL_at (by omega)]; exact h j (by omega)
theorem moreOk_zero {q : Int} {ws : List Int} {n : Nat} (hg : Vo.Good q ws n) : moreOk q ws n 0 = decide (n < 9) := by
  by_cases h : n < 9
  · rw [decide_eq_true h]
    exact goodB_true ⟨by omega, by omega, addL_in hg.ok (by omega) (by omega), hg.q1, by rw [sumK_addL1]; have := hg.q2; omega⟩
  · rw [decide_eq_false h]
    exact goodB_false fun g => h (by have := g.hi; omega)
theorem cut_addL (ws : List Int) (n : Nat) (x : Int) : cut ws 0 n ++ [Value.int .i64 x] = (addL ws n x).map (Value.int .i64) := by
  rw [← addL_cells]; simp [cut]
theorem lit_news {w : World} {g : Nat} {x : Int} {t : TypeId} (h : w.heap[g]? = some (.cells #[.int .i64 x] t)) : ∀ j u, [Value.int .i64 x][j]? = some u → w.cell? ((⟨g, 0, none⟩ : Addr).add j) = some u := by
  intro j u hj
  rcases j with _ | j
  · simp at hj
    subst hj
    simp [Addr.add, World.cell?, h]
  · simp at hj

set_option maxRecDepth 20000 in
set_option maxHeartbeats 4000000 in
theorem sAddDummy_any (q : Int) (A : Option Addr) (n cap : Nat) (ws : List Int) (w : World) (hm : n ≤ 9223372036854775807) (hk : Known w A n ws) :
    Calls Try.prog 39 #[.agg #[.int .i64 q, .slice A n cap]] w fun e w' => ComAt (addQ q q ws n 0) (addN q q ws n 0) (addL ws n 0) (addOk q q ws n 0) w w' e := by
  have HK := Lib.hid hk
  clear hk
  have hb0 : Below w.heap.size w ((w.alloc (.cells #[.int .i64 q, .slice A n cap] 32)).alloc (.cells #[.int .i64 0, .slice none 0 0] 32)) := (below1 w _).alloc (by simp) _
  have hx := (Box.new w (.int .i64 q) (.slice A n cap)).alloc (.cells #[.int .i64 0, .slice none 0 0] 32)
  have hr := Box.new (w.alloc (.cells #[.int .i64 q, .slice A n cap] 32)) (.int .i64 0) (.slice none 0 0)
  simp only [World.size_alloc] at hr
  have KF := Lib.hid (show ∀ W, BoxT 32 W (w.heap.size + 1) (.int .i64 0) (.slice none 0 0) → (W.frozen? ⟨w.heap.size + 1, 0, none⟩ = false ∧ W.frozen? ⟨w.heap.size + 1, 1, none⟩ = false) from fun W h => by unfold BoxT at h; exact ⟨by simp [World.frozen?, h], by simp [World.frozen?, h]⟩)
  by_cases hg : Vo.Good q ws n
  · obtain ⟨b, off, rfl, hsl⟩ := HK.out.get hg.lo
    have HSL := Lib.hid hsl
    have HG := Lib.hid hg
    have HGB := Lib.hid (goodB_true hg)
    have hn9 := hg.hi
    have hn1 := hg.lo
    have hn10 : n < 10 := by omega
    clear hg hsl
    have HMO := Lib.hid (moreOk_zero HG.out)
    rw [addQ_good HGB.out, addN_good HGB.out, addOk_good HGB.out]
    obtain ⟨i0, hi0, hz0, hz1, hz2⟩ := infoIntParts
    by_cases h9 : n < 9
    · have HT := Lib.hid (HMO.out.trans (decide_eq_true h9))
      rw [moreQ_yes HT.out, moreN_yes HT.out, HT.out]
      go_enter Try.func39, Try.ntmps39
      go_wp2_with fail
      refine (voGood_any q _ n cap ws _ hm (HK.out.now hb0)).mono ?_
      rintro e w1 ⟨rfl, hb1⟩
      rw [HGB.out]
      have g1 := bfrom hb0 hb1
      have hr1 := hr.now hb1
      have hx1 := hx.now hb1
      have hs1 := Lib.hid (HSL.out.now g1)
      have hz1' := hr1.lt
      have hne : ((n : Int) == 9) = false := by simp; omega
      clear hr hb0 hb1 hx
      have K := Lib.hid (show ∀ W, Below w1.heap.size w1 W → (W.cell? ⟨w.heap.size, 0, none⟩ = some (.int .i64 q) ∧ W.cell? ⟨w.heap.size, 1, none⟩ = some (.slice (some ⟨b, off, none⟩) n cap) ∧ W.cell? ⟨w.heap.size + 1, 0, none⟩ = some (.int .i64 0) ∧ W.cell? ⟨w.heap.size + 1, 1, none⟩ = some (.slice none 0 0) ∧ W.frozen? ⟨w.heap.size + 1, 0, none⟩ = false ∧ W.frozen? ⟨w.heap.size + 1, 1, none⟩ = false) from fun W hb => ⟨(hx1.now hb).cells.1, (hx1.now hb).cells.2, (hr1.now hb).cells.1, (hr1.now hb).cells.2, (KF.out _ (hr1.now hb)).1, (KF.out _ (hr1.now hb)).2⟩)
      obtain ⟨c0, c1, c2, c3, c4, c5⟩ := K.out _ (Below.refl _ _)
      go_wp2_with fail
      go_region_held3 (fun w' => w'.cell? ⟨w.heap.size, 0, none⟩ = some (.int .i64 q) ∧ w'.cell? ⟨w.heap.size, 1, none⟩ = some (.slice (some ⟨b, off, none⟩) n cap) ∧ (w'.cell? ⟨w.heap.size + 1, 0, none⟩).isSome = true ∧ (w'.cell? ⟨w.heap.size + 1, 1, none⟩).isSome = true ∧ w'.frozen? ⟨w.heap.size + 1, 0, none⟩ = false ∧ w'.frozen? ⟨w.heap.size + 1, 1, none⟩ = false)
        (first | exact ⟨a0, a1, by rw [a2]; rfl, by rw [a3]; rfl, a4, a5⟩ | exact ⟨d0, d1, by rw [d2]; rfl, by rw [d3]; rfl, d4, d5⟩ | exact ⟨c0, c1, by rw [c2]; rfl, by rw [c3]; rfl, c4, c5⟩ | (obtain ⟨e0, e1, e2, e3, e4, e5⟩ := K.out (wA.alloc (.cells #[.int .i64 0] 3)) (gA.alloc gA.size _); exact ⟨e0, e1, by rw [e2]; rfl, by rw [e3]; rfl, e4, e5⟩) | (obtain ⟨e0, e1, e2, e3, e4, e5⟩ := K.out (w1.alloc (.cells #[.int .i64 0] 3)).drew ((Below.refl _ _).alloc (Nat.le_refl _) _).drew; exact ⟨e0, e1, by rw [e2]; rfl, by rw [e3]; rfl, e4, e5⟩) | ((try dsimp only); (repeat' apply And.intro); all_goals (first | exact isSome_set (isSome_set (Option.isSome_iff_exists.2 ⟨_, d2⟩)) | exact isSome_set (isSome_set (Option.isSome_iff_exists.2 ⟨_, d3⟩)) | go_keep)) | go_keep)
        (first
          | (go_at_call 75; refine (l1Own_row b off n n cap ws w1.drew hn9 (Nat.le_refl _) hs1.out.drew).mono ?_; rintro e wA ⟨v4, rfl, hown4, hbA⟩; have gA := bfrom (Below.refl _ _).drew hbA; have hbe : w1.heap.size ≤ w1.drew.heap.size := Nat.le_refl _; obtain ⟨a0, a1, a2, a3, a4, a5⟩ := K.out _ gA; have hlit : True := trivial; have hszA := hbA.size)
          | (go_at_call 75; refine (l1Own_row b off n n cap ws (w1.alloc (.cells #[.int .i64 0] 3)).drew hn9 (Nat.le_refl _) (hs1.out.alloc _).drew).mono ?_; rintro e wA ⟨v4, rfl, hown4, hbA⟩; have gA := bfrom ((Below.refl _ _).alloc (Nat.le_refl _) _).drew hbA; have hbe : w1.heap.size ≤ (w1.alloc (.cells #[.int .i64 0] 3)).drew.heap.size := (by show w1.heap.size ≤ (w1.alloc _).heap.size; simp); obtain ⟨a0, a1, a2, a3, a4, a5⟩ := K.out _ gA; have hlit := (hbA.block w1.heap.size (by show w1.heap.size < (w1.alloc _).heap.size; simp)).trans (heap_alloc_new w1 (.cells #[.int .i64 0] 3)); have hszA := hbA.size)
          | (have h := hown4; (refine step_append_at _ ?_ (.tmp 18) (.tmp 19) _ ?_ _ 3 i0 (.int .i64 0) 1 8 Try.underlying22 hi0 hz0 hz1 hz2 rfl ?_ v4 n (cut ws 0 n) ?_ hown4 ⟨w1.heap.size, 0, none⟩ 1 1 [.int .i64 0] ?_ rfl ?_ ?_ ?_ ?_ ?_ ?_; (rfl); (rfl); (omega); (rfl); (rfl); (exact lit_news hlit); (simp [Value.oneCell']); (unfold maxLen; omega); (omega); (exact hszA); intro B cp w7 hown7 hgrow7 hob7; have g7 := (show Below w1.heap.size w1 wA from gA).grown hgrow7 gA.size (fun j hj => by have := owns_le hown4 hj; omega); obtain ⟨d0, d1, d2, d3, d4, d5⟩ := K.out _ g7))
          | (have h := hown4; (refine step_append_at _ ?_ (.tmp 18) (.tmp 19) _ ?_ _ 3 i0 (.int .i64 0) 1 8 Try.underlying22 hi0 hz0 hz1 hz2 rfl ?_ v4 n (cut ws 0 n) ?_ (hown4.alloc _) ⟨wA.heap.size, 0, none⟩ 1 1 [.int .i64 0] ?_ rfl ?_ ?_ ?_ ?_ ?_ ?_; (rfl); (rfl); (omega); (rfl); (rfl); (exact lit_news (heap_alloc_new wA (.cells #[.int .i64 0] 3))); (simp [Value.oneCell']); (unfold maxLen; omega); (omega); (exact (by rw [World.size_alloc]; exact Nat.le_succ_of_le hszA)); intro B cp w7 hown7 hgrow7 hob7; have g7 := (show Below w1.heap.size w1 (wA.alloc (.cells #[.int .i64 0] 3)) from (gA.alloc gA.size (.cells #[.int .i64 0] 3))).grown hgrow7 (gA.alloc gA.size (.cells #[.int .i64 0] 3)).size (fun j hj => by have := owns_le hown4 hj; omega); obtain ⟨d0, d1, d2, d3, d4, d5⟩ := K.out _ g7)))
      all_goals
        have hown8 := owns_less hown7 hbe
        rw [cut_addL] at hown8
        have hz2 := g1.size
        obtain ⟨g, cp', hv, hg, _, _⟩ := owns_head hown8 (by omega)
        obtain ⟨rfl, rfl⟩ : B = some ⟨g, 0, none⟩ ∧ cp = cp' := by simpa using hv
        have HI8 := Lib.hid (addL_row hown8)
        clear c0 c1 c2 c3 c4 c5 a0 a1 a2 a3 a4 a5 d0 d1 d4 d5 hown7 hown8 hown4 hgrow7 hob7 hv
        go_wp2
        refine bodyPost_ret (v := .tuple #[.agg #[.int .i64 q, .slice (some ⟨g, 0, none⟩) (n + 1) cp], .bool true]) (by simp [results, Try.results39, go_sem, d2, d3]) rfl ?_
        exact ⟨_, _, rfl, Or.inr ⟨g, rfl, by omega, (HI8.out.far (by simp; omega) _).far (by simp; omega) _⟩, ((bfrom g1 g7).setCell (by simp) _).setCell (by simp) _⟩
    · obtain rfl : n = 9 := by omega
      have HF := Lib.hid (HMO.out.trans (decide_eq_false h9))
      rw [moreQ_no HF.out, moreN_no HF.out, HF.out]
      go_enter Try.func39, Try.ntmps39
      go_wp2_with fail
      refine (voGood_any q _ 9 cap ws _ hm (HK.out.now hb0)).mono ?_
      rintro e w1 ⟨rfl, hb1⟩
      rw [HGB.out]
      have g1 := bfrom hb0 hb1
      have hr1 := hr.now hb1
      obtain ⟨c0, c1⟩ := (hx.now hb1).cells
      obtain ⟨d0, d1⟩ := hr1.cells
      obtain ⟨f0, f1⟩ := KF.out _ hr1
      clear hr hb0 hb1 hx
      go_wp2
      refine bodyPost_ret (v := .tuple #[.agg #[.int .i64 0, .slice none 0 0], .bool false]) (by simp [results, Try.results39, go_sem, d0, d1]) rfl ?_
      exact ⟨_, _, rfl, Or.inl ⟨rfl, rfl⟩, (g1.setCell (by simp) _).setCell (by simp) _⟩
  · have HGB := Lib.hid (goodB_false hg)
    have HQ := Lib.hid (addQ_no (q' := q) (x := 0) (goodB_false hg))
    clear hg
    go_enter Try.func39, Try.ntmps39
    go_wp2_with fail
    refine (voGood_any q A n cap ws _ hm (HK.out.now hb0)).mono ?_
    rintro e w1 ⟨rfl, hb1⟩
    rw [HGB.out]
    have g1 := bfrom hb0 hb1
    have hr1 := hr.now hb1
    obtain ⟨c0, c1⟩ := hr1.cells
    obtain ⟨f0, f1⟩ := KF.out _ hr1
    clear hr hb0 hb1 hx
    go_wp2
    refine bodyPost_ret (v := .tuple #[.agg #[.int .i64 0, .slice none 0 0], .bool false]) (by simp [results, Try.results39, go_sem, c0, c1]) rfl ?_
    rw [HQ.out, addN_no HGB.out, addOk_no HGB.out]
    exact ⟨_, _, rfl, Or.inl ⟨rfl, rfl⟩, (g1.setCell (by simp) _).setCell (by simp) _⟩
end Go.Proofs.Ytkeiojfnjgjliaa
