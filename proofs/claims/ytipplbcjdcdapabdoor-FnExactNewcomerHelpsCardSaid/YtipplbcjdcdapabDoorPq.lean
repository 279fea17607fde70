/- Contracts of the model's unNew, unAdd, AddMember. -/
import Derived.Test.YtipplbcjdcdapabDoorPd
import Derived.Test.YtipplbcjdcdapabDoorWf
import Derived.Outline
namespace Go.Proofs.YtipplbcjdcdapabDoor
open Go.RowKit Vo

/-- A committee as a value, its weights in a block of the call's own. -/
def ComV (q : Int) (m : Nat) (L : List Int) (w w' : World) (e : Ending) : Prop :=
  ∃ g cap, e = .returned (.agg #[.int .i64 q, .slice (some ⟨g, 0, none⟩) m cap]) ∧ w.heap.size ≤ g ∧ Ints w' g m L ∧ Below w.heap.size w w'
theorem addOk_form (q : Int) (ws : List Int) (n : Nat) (x : Int) : addOk q q ws n x = (goodB q ws n && inB x 0 1000 && decide (n < 9)) := by
  by_cases hg : Vo.Good q ws n
  · rw [addOk_good (goodB_true hg), goodB_true hg, Bool.true_and]
    by_cases h9 : n < 9
    · by_cases hx : 0 ≤ x ∧ x ≤ 1000
      · rw [inB_yes hx.1 hx.2, decide_eq_true h9]
        exact goodB_true ⟨by omega, by omega, addL_in hg.ok hx.1 hx.2, hg.q1, by rw [sumK_addL1]; have := hg.q2; omega⟩
      · rw [inB_no hx, Bool.false_and]
        refine goodB_false fun g => hx ?_
        have h := g.ok n (by omega)
        rw [addL_end] at h
        exact h
    · rw [decide_eq_false h9, Bool.and_false]
      exact goodB_false fun g => h9 (by have := g.hi; omega)
  · rw [addOk_no (goodB_false hg), goodB_false hg]; rfl

theorem addMN_le (q : Int) (ws : List Int) (n : Nat) (x : Int) : addN q q ws n x ≤ 9 := addN_le _ _ _ _ _

set_option maxHeartbeats 1000000 in
theorem unNew_any (q : Int) (A : Option Addr) (n cap : Nat) (ws : List Int) (x : Int) (w : World) (hm : n ≤ 9223372036854775807) (hk : Known w A n ws) :
    Calls Tryd.prog 14 #[.agg #[.int .i64 q, .slice A n cap], .int .i64 x] w fun e w' => e = .returned (.bool (addOk q q ws n x)) ∧ Below w.heap.size w w' := by
  have HK := Lib.hid hk
  clear hk
  have hx := Box.new w (.int .i64 q) (.slice A n cap)
  have hb0 := below1 w (.cells #[.int .i64 q, .slice A n cap] 28)
  have HV := Lib.hid (addOk_form q ws n x)
  cases hg : goodB q ws n with
  | false =>
    have HG := Lib.hid hg
    clear hg
    go_enter Tryd.func14, Tryd.ntmps14
    go_wp2_with fail
    refine (voGood_any q A n cap ws _ hm (HK.out.now hb0)).mono ?_
    rintro e w1 ⟨rfl, hb⟩
    rw [HG.out]
    go_wp2
    go_ret
    exact ⟨by rw [HV.out, HG.out]; rfl, bfrom hb0 hb⟩
  | true =>
    have HG := Lib.hid hg
    clear hg
    cases hi : inB x 0 1000 with
    | false =>
      have HI := Lib.hid hi
      clear hi
      go_enter Tryd.func14, Tryd.ntmps14
      go_wp2_with fail
      refine (voGood_any q A n cap ws _ hm (HK.out.now hb0)).mono ?_
      rintro e w1 ⟨rfl, hb⟩
      rw [HG.out]
      obtain ⟨c0, c1⟩ := (hx.now hb).cells
      go_wp2_with (go_at_call 27; refine (l1In_any x 0 1000 _).mono ?_; rintro e w2 ⟨rfl, rfl⟩; rw [HI.out])
      go_ret
      exact ⟨by rw [HV.out, HG.out, HI.out]; rfl, bfrom hb0 hb⟩
    | true =>
      have HI := Lib.hid hi
      clear hi
      go_enter Tryd.func14, Tryd.ntmps14
      go_wp2_with fail
      refine (voGood_any q A n cap ws _ hm (HK.out.now hb0)).mono ?_
      rintro e w1 ⟨rfl, hb⟩
      rw [HG.out]
      obtain ⟨c0, c1⟩ := (hx.now hb).cells
      go_wp2_with (go_at_call 27; refine (l1In_any x 0 1000 _).mono ?_; rintro e w2 ⟨rfl, rfl⟩; rw [HI.out])
      go_ret
      exact ⟨by rw [HV.out, HG.out, HI.out]; simp; omega, bfrom hb0 hb⟩

set_option maxRecDepth 20000 in
set_option maxHeartbeats 4000000 in
theorem unAdd_any (q : Int) (b off n cap : Nat) (ws : List Int) (x : Int) (w : World) (hn1 : 1 ≤ n) (hn9 : n ≤ 9) (hsl : Sl w b off n ws) :
    Calls Tryd.prog 16 #[.agg #[.int .i64 q, .slice (some ⟨b, off, none⟩) n cap], .int .i64 x] w fun e w' => ComV q (n + 1) (addL ws n x) w w' e := by
  have HSL := Lib.hid hsl
  clear hsl
  obtain ⟨i0, hi0, hz0, hz1, hz2⟩ := infoIntParts
  have hb0 : Below w.heap.size w ((w.alloc (.cells #[.int .i64 q, .slice (some ⟨b, off, none⟩) n cap] 28)).alloc (.cells #[.int .i64 0, .slice none 0 0] 28)) := (below1 w _).alloc (by simp) _
  obtain ⟨w1, hw1⟩ : ∃ w1, w1 = ((w.alloc (.cells #[.int .i64 q, .slice (some ⟨b, off, none⟩) n cap] 28)).alloc (.cells #[.int .i64 0, .slice none 0 0] 28)) := ⟨_, rfl⟩
  have hx1 := (Box.new w (.int .i64 q) (.slice (some ⟨b, off, none⟩) n cap)).alloc (.cells #[.int .i64 0, .slice none 0 0] 28)
  have hr1 := Box.new (w.alloc (.cells #[.int .i64 q, .slice (some ⟨b, off, none⟩) n cap] 28)) (.int .i64 0) (.slice none 0 0)
  simp only [World.size_alloc] at hr1
  rw [← hw1] at hb0 hx1 hr1
  have HW1 := Lib.hid hw1
  clear hw1
  have hs1 := Lib.hid (HSL.out.now hb0)
  have hz1' := hr1.lt
  have KF := Lib.hid (show ∀ W, BoxT 28 W (w.heap.size + 1) (.int .i64 0) (.slice none 0 0) → (W.frozen? ⟨w.heap.size + 1, 0, none⟩ = false ∧ W.frozen? ⟨w.heap.size + 1, 1, none⟩ = false) from fun W h => by unfold BoxT at h; exact ⟨by simp [World.frozen?, h], by simp [World.frozen?, h]⟩)
  go_enter Tryd.func16, Tryd.ntmps16
  have K := Lib.hid (show ∀ W, Below w1.heap.size w1 W → (W.cell? ⟨w.heap.size, 0, none⟩ = some (.int .i64 q) ∧ W.cell? ⟨w.heap.size, 1, none⟩ = some (.slice (some ⟨b, off, none⟩) n cap) ∧ W.cell? ⟨w.heap.size + 1, 0, none⟩ = some (.int .i64 0) ∧ W.cell? ⟨w.heap.size + 1, 1, none⟩ = some (.slice none 0 0) ∧ W.frozen? ⟨w.heap.size + 1, 0, none⟩ = false ∧ W.frozen? ⟨w.heap.size + 1, 1, none⟩ = false) from fun W hb => ⟨(hx1.now hb).cells.1, (hx1.now hb).cells.2, (hr1.now hb).cells.1, (hr1.now hb).cells.2, (KF.out _ (hr1.now hb)).1, (KF.out _ (hr1.now hb)).2⟩)
  obtain ⟨c0, c1, c2, c3, c4, c5⟩ := K.out _ (Below.refl _ _)
  go_wp2_with fail
  rw [← HW1.out]
  go_region_held3 (fun w' => w'.cell? ⟨w.heap.size, 0, none⟩ = some (.int .i64 q) ∧ w'.cell? ⟨w.heap.size, 1, none⟩ = some (.slice (some ⟨b, off, none⟩) n cap) ∧ (w'.cell? ⟨w.heap.size + 1, 0, none⟩).isSome = true ∧ (w'.cell? ⟨w.heap.size + 1, 1, none⟩).isSome = true ∧ w'.frozen? ⟨w.heap.size + 1, 0, none⟩ = false ∧ w'.frozen? ⟨w.heap.size + 1, 1, none⟩ = false)
    (first | exact ⟨a0, a1, by rw [a2]; rfl, by rw [a3]; rfl, a4, a5⟩ | exact ⟨d0, d1, by rw [d2]; rfl, by rw [d3]; rfl, d4, d5⟩ | exact ⟨c0, c1, by rw [c2]; rfl, by rw [c3]; rfl, c4, c5⟩ | (obtain ⟨e0, e1, e2, e3, e4, e5⟩ := K.out (wA.alloc (.cells #[.int .i64 x] 3)) (gA.alloc gA.size _); exact ⟨e0, e1, by rw [e2]; rfl, by rw [e3]; rfl, e4, e5⟩) | (obtain ⟨e0, e1, e2, e3, e4, e5⟩ := K.out (w1.alloc (.cells #[.int .i64 x] 3)).drew ((Below.refl _ _).alloc (Nat.le_refl _) _).drew; exact ⟨e0, e1, by rw [e2]; rfl, by rw [e3]; rfl, e4, e5⟩) | ((try dsimp only); (repeat' apply And.intro); all_goals (first | exact isSome_set (isSome_set (Option.isSome_iff_exists.2 ⟨_, d2⟩)) | exact isSome_set (isSome_set (Option.isSome_iff_exists.2 ⟨_, d3⟩)) | go_keep)) | go_keep)
    (first
      | (go_at_call 31; refine (l1Own_row b off n n cap ws w1.drew hn9 (Nat.le_refl _) hs1.out.drew).mono ?_; rintro e wA ⟨v4, rfl, hown4, hbA⟩; have gA := bfrom (Below.refl _ _).drew hbA; have hbe : w1.heap.size ≤ w1.drew.heap.size := Nat.le_refl _; obtain ⟨a0, a1, a2, a3, a4, a5⟩ := K.out _ gA; have hlit : True := trivial; have hszA := hbA.size)
      | (go_at_call 31; refine (l1Own_row b off n n cap ws (w1.alloc (.cells #[.int .i64 x] 3)).drew hn9 (Nat.le_refl _) (hs1.out.alloc _).drew).mono ?_; rintro e wA ⟨v4, rfl, hown4, hbA⟩; have gA := bfrom ((Below.refl _ _).alloc (Nat.le_refl _) _).drew hbA; have hbe : w1.heap.size ≤ (w1.alloc (.cells #[.int .i64 x] 3)).drew.heap.size := (by show w1.heap.size ≤ (w1.alloc _).heap.size; simp); obtain ⟨a0, a1, a2, a3, a4, a5⟩ := K.out _ gA; have hlit := (hbA.block w1.heap.size (by show w1.heap.size < (w1.alloc _).heap.size; simp)).trans (heap_alloc_new w1 (.cells #[.int .i64 x] 3)); have hszA := hbA.size)
      | (have h := hown4; (refine step_append_at _ ?_ (.tmp 9) (.tmp 11) _ ?_ _ 3 i0 (.int .i64 0) 1 8 Tryd.underlying22 hi0 hz0 hz1 hz2 rfl ?_ v4 n (cut ws 0 n) ?_ hown4 ⟨w1.heap.size, 0, none⟩ 1 1 [.int .i64 x] ?_ rfl ?_ ?_ ?_ ?_ ?_ ?_; (rfl); (rfl); (omega); (rfl); (rfl); (exact lit_news hlit); (simp [Value.oneCell']); (unfold maxLen; omega); (omega); (exact hszA); intro B cp w7 hown7 hgrow7 hob7; have g7 := (show Below w1.heap.size w1 wA from gA).grown hgrow7 gA.size (fun j hj => by have := owns_le hown4 hj; omega); obtain ⟨d0, d1, d2, d3, d4, d5⟩ := K.out _ g7))
      | (have h := hown4; (refine step_append_at _ ?_ (.tmp 9) (.tmp 11) _ ?_ _ 3 i0 (.int .i64 0) 1 8 Tryd.underlying22 hi0 hz0 hz1 hz2 rfl ?_ v4 n (cut ws 0 n) ?_ (hown4.alloc _) ⟨wA.heap.size, 0, none⟩ 1 1 [.int .i64 x] ?_ rfl ?_ ?_ ?_ ?_ ?_ ?_; (rfl); (rfl); (omega); (rfl); (rfl); (exact lit_news (heap_alloc_new wA (.cells #[.int .i64 x] 3))); (simp [Value.oneCell']); (unfold maxLen; omega); (omega); (exact (by rw [World.size_alloc]; exact Nat.le_succ_of_le hszA)); intro B cp w7 hown7 hgrow7 hob7; have g7 := (show Below w1.heap.size w1 (wA.alloc (.cells #[.int .i64 x] 3)) from (gA.alloc gA.size (.cells #[.int .i64 x] 3))).grown hgrow7 (gA.alloc gA.size (.cells #[.int .i64 x] 3)).size (fun j hj => by have := owns_le hown4 hj; omega); obtain ⟨d0, d1, d2, d3, d4, d5⟩ := K.out _ g7)))
  all_goals
    have hown8 := owns_less hown7 hbe
    rw [cut_addL] at hown8
    have hz2 := hb0.size
    obtain ⟨g, cp', hv, hg, _, _⟩ := owns_head hown8 (by omega)
    obtain ⟨rfl, rfl⟩ : B = some ⟨g, 0, none⟩ ∧ cp = cp' := by simpa using hv
    have HI8 := Lib.hid (addL_row hown8)
    clear c0 c1 c2 c3 c4 c5 a0 a1 a2 a3 a4 a5 d0 d1 d4 d5 hown7 hown8 hown4 hgrow7 hob7 hv
    go_wp2
    refine bodyPost_ret (v := .agg #[.int .i64 q, .slice (some ⟨g, 0, none⟩) (n + 1) cp]) (by simp [results, Tryd.results16, go_sem, d2, d3]) rfl ?_
    exact ⟨g, cp, rfl, by omega, (HI8.out.far (by simp; omega) _).far (by simp; omega) _, ((bfrom hb0 g7).setCell (by simp) _).setCell (by simp) _⟩

end Go.Proofs.YtipplbcjdcdapabDoor
