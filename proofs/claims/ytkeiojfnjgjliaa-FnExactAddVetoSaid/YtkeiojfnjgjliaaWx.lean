/- Contract of the model's AddVeto. -/
import Derived.Test.YtkeiojfnjgjliaaWf
namespace Go.Proofs.Ytkeiojfnjgjliaa
open Go.RowKit Vo

set_option maxRecDepth 20000 in
set_option maxHeartbeats 8000000 in
theorem sAddVeto_any (q : Int) (A : Option Addr) (n cap : Nat) (ws : List Int) (w : World) (hm : n ≤ 9223372036854775807) (hk : Known w A n ws) :
    Calls Try.prog 37 #[.agg #[.int .i64 q, .slice A n cap]] w fun e w' => ComAt (addQ q (q + sumK ws n) ws n (sumK ws n)) (addN q (q + sumK ws n) ws n (sumK ws n)) (addL ws n (sumK ws n)) (addOk q (q + sumK ws n) ws n (sumK ws n)) w w' e := by
  have HK := Lib.hid hk
  clear hk
  have hb0 : Below w.heap.size w ((w.alloc (.cells #[.int .i64 q, .slice A n cap] 32)).alloc (.cells #[.int .i64 0, .slice none 0 0] 32)) := (below1 w _).alloc (by simp) _
  have hx := (Box.new w (.int .i64 q) (.slice A n cap)).alloc (.cells #[.int .i64 0, .slice none 0 0] 32)
  have hr := Box.new (w.alloc (.cells #[.int .i64 q, .slice A n cap] 32)) (.int .i64 0) (.slice none 0 0)
  simp only [World.size_alloc] at hr
  have KF := Lib.hid (show ∀ W, BoxT 32 W (w.heap.size + 1) (.int .i64 0) (.slice none 0 0) → (W.frozen? ⟨w.heap.size + 1, 0, none⟩ = false ∧ W.frozen? ⟨w.heap.size + 1, 1, none⟩ = false) from fun W h => by unfold BoxT at h; exact ⟨by simp [World.frozen?, h], by simp [World.frozen?, h]⟩)
  by_cases hg : Vo.Good q ws n
  · obtain ⟨b, off, rfl, hsl⟩ := HK.out.get hg.lo
    have HSL := Lib.hid hsl
    have HG := Lib.hid hg
    have HGB := Lib.hid (goodB_true hg)
    have hn9 := hg.hi
    have hn1 := hg.lo
    have hn10 : n < 10 := by omega
    clear hg hsl
    have htot := HG.out.tot
    have hq1 := HG.out.q1
    have hq2 := HG.out.q2
    have HOK := Lib.hid HG.out.ok
    have HW := Lib.hid (show IntKind.i64.wrap (q + sumK ws n) = q + sumK ws n from IntWalk.i64_in _ (by omega))
    rw [addQ_good HGB.out, addN_good HGB.out, addOk_good HGB.out]
    obtain ⟨i0, hi0, hz0, hz1, hz2⟩ := infoIntParts
    obtain ⟨S, hS⟩ : ∃ S, S = sumK ws n := ⟨_, rfl⟩
    have HS := Lib.hid hS
    rw [← hS] at HW ⊢
    clear htot hq1 hq2 hS
    go_enter Try.func37, Try.ntmps37
    go_wp2_with fail
    refine (voGood_any q _ n cap ws _ hm (HK.out.now hb0)).mono ?_
    rintro e w1 ⟨rfl, hb1⟩
    rw [HGB.out]
    have g1 := bfrom hb0 hb1
    have hr1 := hr.now hb1
    have hx1 := hx.now hb1
    have hs1 := Lib.hid (HSL.out.now g1)
    have hzr := hr1.lt
    clear hr hb0 hb1 hx
    obtain ⟨c0, c1⟩ := hx1.cells
    have K := Lib.hid (show ∀ W, Below w1.heap.size w1 W → (W.cell? ⟨w.heap.size, 0, none⟩ = some (.int .i64 q) ∧ W.cell? ⟨w.heap.size, 1, none⟩ = some (.slice (some ⟨b, off, none⟩) n cap)) from fun W hb => ⟨(hx1.now hb).cells.1, (hx1.now hb).cells.2⟩)
    go_wp2_with (go_at_call 62; refine (voSum_any b off n cap ws _ hn10 HOK.out hs1.out).mono ?_; rw [← HS.out]; rintro e w2 ⟨rfl, rfl⟩)
    go_region_held3 (fun w' => w'.cell? ⟨w.heap.size, 0, none⟩ = some (.int .i64 q) ∧ w'.cell? ⟨w.heap.size, 1, none⟩ = some (.slice (some ⟨b, off, none⟩) n cap))
      (first | exact ⟨d0, d1⟩ | exact ⟨a0, a1⟩ | exact ⟨c0, c1⟩ | exact (hx1.alloc _).cells | exact ((hx1.alloc _).alloc _).cells | exact (hx1.drew.alloc _).cells | exact ((hx1.now gA).alloc _).cells | exact (((hx1.now gA).alloc _).alloc _).cells | exact ((hx1.now g7).alloc _).cells | exact (((hx1.now g7).far (p := ⟨w1.heap.size, 0, none⟩) (show w.heap.size ≠ w1.heap.size by have := gA.size; omega) _).far (p := ⟨w1.heap.size, 1, none⟩) (show w.heap.size ≠ w1.heap.size by have := gA.size; omega) _).cells | exact (((hx1.now g7).far (p := ⟨w1.heap.size + 1, 0, none⟩) (show w.heap.size ≠ w1.heap.size + 1 by have := gA.size; omega) _).far (p := ⟨w1.heap.size + 1, 1, none⟩) (show w.heap.size ≠ w1.heap.size + 1 by have := gA.size; omega) _).cells | exact (((hx1.now g7).far (p := ⟨wA.heap.size, 0, none⟩) (show w.heap.size ≠ wA.heap.size by have := gA.size; omega) _).far (p := ⟨wA.heap.size, 1, none⟩) (show w.heap.size ≠ wA.heap.size by have := gA.size; omega) _).cells | exact (((hx1.now g7).far (p := ⟨wA.heap.size + 1, 0, none⟩) (show w.heap.size ≠ wA.heap.size + 1 by have := gA.size; omega) _).far (p := ⟨wA.heap.size + 1, 1, none⟩) (show w.heap.size ≠ wA.heap.size + 1 by have := gA.size; omega) _).cells | go_keep)
      (first
        | (go_at_call 75; refine (l1Own_row b off n n cap ws w1.drew hn9 (Nat.le_refl _) hs1.out.drew).mono ?_; rintro e wA ⟨v4, rfl, hown4, hbA⟩; have gA : Below w1.heap.size w1 wA := bfrom (Below.refl w1.heap.size w1).drew hbA; have hszA := hbA.size; have hbe : w1.heap.size ≤ w1.drew.heap.size := (by first | exact Nat.le_refl _ | (show w1.heap.size ≤ (w1.alloc _).heap.size; simp) | (show w1.heap.size ≤ ((w1.alloc _).alloc _).heap.size; (simp <;> omega))); obtain ⟨a0, a1⟩ := K.out _ gA; have tag0 : True := trivial)
        | (go_at_call 75; refine (l1Own_row b off n n cap ws (w1.alloc (.cells #[.int .i64 S] 3)).drew hn9 (Nat.le_refl _) (hs1.out.alloc _).drew).mono ?_; rintro e wA ⟨v4, rfl, hown4, hbA⟩; have gA : Below w1.heap.size w1 wA := bfrom ((Below.refl w1.heap.size w1).alloc (Nat.le_refl _) _).drew hbA; have hszA := hbA.size; have hbe : w1.heap.size ≤ (w1.alloc (.cells #[.int .i64 S] 3)).drew.heap.size := (by first | exact Nat.le_refl _ | (show w1.heap.size ≤ (w1.alloc _).heap.size; simp) | (show w1.heap.size ≤ ((w1.alloc _).alloc _).heap.size; (simp <;> omega))); obtain ⟨a0, a1⟩ := K.out _ gA; have hl1 := (hbA.block w1.heap.size (by show w1.heap.size < (w1.alloc _).heap.size; simp)).trans (heap_alloc_new w1 (.cells #[.int .i64 S] 3)))
        | (go_at_call 75; refine (l1Own_row b off n n cap ws (w1.alloc (.cells #[.int .i64 0, .slice none 0 0] 32)).drew hn9 (Nat.le_refl _) (hs1.out.alloc _).drew).mono ?_; rintro e wA ⟨v4, rfl, hown4, hbA⟩; have gA : Below w1.heap.size w1 wA := bfrom ((Below.refl w1.heap.size w1).alloc (Nat.le_refl _) _).drew hbA; have hszA := hbA.size; have hbe : w1.heap.size ≤ (w1.alloc (.cells #[.int .i64 0, .slice none 0 0] 32)).drew.heap.size := (by first | exact Nat.le_refl _ | (show w1.heap.size ≤ (w1.alloc _).heap.size; simp) | (show w1.heap.size ≤ ((w1.alloc _).alloc _).heap.size; (simp <;> omega))); obtain ⟨a0, a1⟩ := K.out _ gA; have hB1 := BoxT.now (Box.new w1 (.int .i64 0) (.slice none 0 0)).drew hbA)
        | (go_at_call 75; refine (l1Own_row b off n n cap ws ((w1.alloc (.cells #[.int .i64 S] 3)).alloc (.cells #[.int .i64 0, .slice none 0 0] 32)).drew hn9 (Nat.le_refl _) ((hs1.out.alloc _).alloc _).drew).mono ?_; rintro e wA ⟨v4, rfl, hown4, hbA⟩; have gA : Below w1.heap.size w1 wA := bfrom (((Below.refl w1.heap.size w1).alloc (Nat.le_refl _) _).alloc (by simp) _).drew hbA; have hszA := hbA.size; have hbe : w1.heap.size ≤ ((w1.alloc (.cells #[.int .i64 S] 3)).alloc (.cells #[.int .i64 0, .slice none 0 0] 32)).drew.heap.size := (by first | exact Nat.le_refl _ | (show w1.heap.size ≤ (w1.alloc _).heap.size; simp) | (show w1.heap.size ≤ ((w1.alloc _).alloc _).heap.size; (simp <;> omega))); obtain ⟨a0, a1⟩ := K.out _ gA; have hl1 := (hbA.block w1.heap.size (by show w1.heap.size < ((w1.alloc _).alloc _).heap.size; (simp <;> omega))).trans ((Below.heap_alloc (w1.alloc (.cells #[.int .i64 S] 3)) (.cells #[.int .i64 0, .slice none 0 0] 32) w1.heap.size (by simp)).trans (heap_alloc_new w1 (.cells #[.int .i64 S] 3))); have hB2 := BoxT.now (Box.new (w1.alloc (.cells #[.int .i64 S] 3)) (.int .i64 0) (.slice none 0 0)).drew hbA; simp only [World.size_alloc] at hB2)
        | (go_at_call 75; refine (l1Own_row b off n n cap ws ((w1.alloc (.cells #[.int .i64 0, .slice none 0 0] 32)).alloc (.cells #[.int .i64 S] 3)).drew hn9 (Nat.le_refl _) ((hs1.out.alloc _).alloc _).drew).mono ?_; rintro e wA ⟨v4, rfl, hown4, hbA⟩; have gA : Below w1.heap.size w1 wA := bfrom (((Below.refl w1.heap.size w1).alloc (Nat.le_refl _) _).alloc (by simp) _).drew hbA; have hszA := hbA.size; have hbe : w1.heap.size ≤ ((w1.alloc (.cells #[.int .i64 0, .slice none 0 0] 32)).alloc (.cells #[.int .i64 S] 3)).drew.heap.size := (by first | exact Nat.le_refl _ | (show w1.heap.size ≤ (w1.alloc _).heap.size; simp) | (show w1.heap.size ≤ ((w1.alloc _).alloc _).heap.size; (simp <;> omega))); obtain ⟨a0, a1⟩ := K.out _ gA; have hl2 : wA.heap[w1.heap.size + 1]? = some (.cells #[.int .i64 S] 3) := (hbA.block (w1.heap.size + 1) (by show w1.heap.size + 1 < ((w1.alloc _).alloc _).heap.size; simp)).trans (by have h := heap_alloc_new (w1.alloc (.cells #[.int .i64 0, .slice none 0 0] 32)) (.cells #[.int .i64 S] 3); rw [World.size_alloc] at h; exact h); have hB1 := BoxT.now ((Box.new w1 (.int .i64 0) (.slice none 0 0)).alloc (.cells #[.int .i64 S] 3)).drew hbA)
        | (refine step_append_at _ ?_ (.tmp 19) (.tmp 21) _ ?_ _ 3 i0 (.int .i64 0) 1 8 Try.underlying22 hi0 hz0 hz1 hz2 rfl ?_ v4 n (cut ws 0 n) ?_ hown4 ⟨w1.heap.size, 0, none⟩ 1 1 [.int .i64 S] ?_ rfl ?_ ?_ ?_ ?_ ?_ ?_; (rfl); (rfl); (omega); (rfl); (rfl); (exact lit_news hl1); (simp [Value.oneCell']); (unfold maxLen; omega); (omega); (first | exact hszA | (have := hszA; (simp at this ⊢ <;> omega)) | (have hq : (w1.alloc _).heap.size ≤ wA.heap.size := hszA; simp at hq; show (w1.alloc _).heap.size ≤ _; (simp <;> omega)) | ((simp <;> omega))); intro B cp w7 hown7 hgrow7 hob7; have g7 := (show Below w1.heap.size w1 wA from gA).grown hgrow7 (by have := gA.size; (simp <;> omega)) (fun j hj => by have := owns_le hown4 hj; omega); obtain ⟨d0, d1⟩ := K.out _ g7; (first | (have hm7 := (show BoxT 32 wA w1.heap.size (.int .i64 0) (.slice none 0 0) from hB1).grown hgrow7 (owns_ne hown4 (by first | (show w1.heap.size < (w1.alloc _).heap.size; simp) | (show w1.heap.size < ((w1.alloc _).alloc _).heap.size; (simp <;> omega))))) | (have hm7 := (show BoxT 32 wA (w1.heap.size + 1) (.int .i64 0) (.slice none 0 0) from hB2).grown hgrow7 (owns_ne hown4 (by show w1.heap.size + 1 < ((w1.alloc _).alloc _).heap.size; simp))) | skip); (first | (obtain ⟨p0, p1⟩ := hm7.cells; obtain ⟨q0, q1⟩ := frozen_box2 hm7) | skip))
        | (refine step_append_at _ ?_ (.tmp 19) (.tmp 21) _ ?_ _ 3 i0 (.int .i64 0) 1 8 Try.underlying22 hi0 hz0 hz1 hz2 rfl ?_ v4 n (cut ws 0 n) ?_ hown4 ⟨w1.heap.size + 1, 0, none⟩ 1 1 [.int .i64 S] ?_ rfl ?_ ?_ ?_ ?_ ?_ ?_; (rfl); (rfl); (omega); (rfl); (rfl); (exact lit_news hl2); (simp [Value.oneCell']); (unfold maxLen; omega); (omega); (first | exact hszA | (have := hszA; (simp at this ⊢ <;> omega)) | (have hq : (w1.alloc _).heap.size ≤ wA.heap.size := hszA; simp at hq; show (w1.alloc _).heap.size ≤ _; (simp <;> omega)) | ((simp <;> omega))); intro B cp w7 hown7 hgrow7 hob7; have g7 := (show Below w1.heap.size w1 wA from gA).grown hgrow7 (by have := gA.size; (simp <;> omega)) (fun j hj => by have := owns_le hown4 hj; omega); obtain ⟨d0, d1⟩ := K.out _ g7; (first | (have hm7 := (show BoxT 32 wA w1.heap.size (.int .i64 0) (.slice none 0 0) from hB1).grown hgrow7 (owns_ne hown4 (by first | (show w1.heap.size < (w1.alloc _).heap.size; simp) | (show w1.heap.size < ((w1.alloc _).alloc _).heap.size; (simp <;> omega))))) | (have hm7 := (show BoxT 32 wA (w1.heap.size + 1) (.int .i64 0) (.slice none 0 0) from hB2).grown hgrow7 (owns_ne hown4 (by show w1.heap.size + 1 < ((w1.alloc _).alloc _).heap.size; simp))) | skip); (first | (obtain ⟨p0, p1⟩ := hm7.cells; obtain ⟨q0, q1⟩ := frozen_box2 hm7) | skip))
        | (refine step_append_at _ ?_ (.tmp 19) (.tmp 21) _ ?_ _ 3 i0 (.int .i64 0) 1 8 Try.underlying22 hi0 hz0 hz1 hz2 rfl ?_ v4 n (cut ws 0 n) ?_ (hown4.alloc _) ⟨w1.heap.size, 0, none⟩ 1 1 [.int .i64 S] ?_ rfl ?_ ?_ ?_ ?_ ?_ ?_; (rfl); (rfl); (omega); (rfl); (rfl); (exact lit_news ((Below.heap_alloc wA (.cells #[.int .i64 0, .slice none 0 0] 32) w1.heap.size (by have := gA.size; have := hszA; first | (simp at this; omega) | omega)).trans hl1)); (simp [Value.oneCell']); (unfold maxLen; omega); (omega); (first | exact hszA | (have := hszA; (simp at this ⊢ <;> omega)) | (have hq : (w1.alloc _).heap.size ≤ wA.heap.size := hszA; simp at hq; show (w1.alloc _).heap.size ≤ _; (simp <;> omega)) | ((simp <;> omega))); intro B cp w7 hown7 hgrow7 hob7; have g7 := (show Below w1.heap.size w1 (wA.alloc (.cells #[.int .i64 0, .slice none 0 0] 32)) from gA.alloc gA.size _).grown hgrow7 (by have := gA.size; (simp <;> omega)) (fun j hj => by have := owns_le hown4 hj; omega); obtain ⟨d0, d1⟩ := K.out _ g7; have hm7 := (Box.new wA (.int .i64 0) (.slice none 0 0)).grown hgrow7 (fun e => by have := owns_lt hown4 e.symm; omega); (first | (obtain ⟨p0, p1⟩ := hm7.cells; obtain ⟨q0, q1⟩ := frozen_box2 hm7) | skip))
        | (refine step_append_at _ ?_ (.tmp 19) (.tmp 21) _ ?_ _ 3 i0 (.int .i64 0) 1 8 Try.underlying22 hi0 hz0 hz1 hz2 rfl ?_ v4 n (cut ws 0 n) ?_ (hown4.alloc _) ⟨wA.heap.size, 0, none⟩ 1 1 [.int .i64 S] ?_ rfl ?_ ?_ ?_ ?_ ?_ ?_; (rfl); (rfl); (omega); (rfl); (rfl); (exact lit_news (heap_alloc_new wA (.cells #[.int .i64 S] 3))); (simp [Value.oneCell']); (unfold maxLen; omega); (omega); (first | exact hszA | (have := hszA; (simp at this ⊢ <;> omega)) | (have hq : (w1.alloc _).heap.size ≤ wA.heap.size := hszA; simp at hq; show (w1.alloc _).heap.size ≤ _; (simp <;> omega)) | ((simp <;> omega))); intro B cp w7 hown7 hgrow7 hob7; have g7 := (show Below w1.heap.size w1 (wA.alloc (.cells #[.int .i64 S] 3)) from gA.alloc gA.size _).grown hgrow7 (by have := gA.size; (simp <;> omega)) (fun j hj => by have := owns_le hown4 hj; omega); obtain ⟨d0, d1⟩ := K.out _ g7; (first | (have hm7 := (show BoxT 32 wA w1.heap.size (.int .i64 0) (.slice none 0 0) from hB1).alloc (.cells #[.int .i64 S] 3) |>.grown hgrow7 (owns_ne hown4 (by first | (show w1.heap.size < (w1.alloc _).heap.size; simp) | (show w1.heap.size < ((w1.alloc _).alloc _).heap.size; (simp <;> omega))))) | (have hm7 := (show BoxT 32 wA (w1.heap.size + 1) (.int .i64 0) (.slice none 0 0) from hB2).alloc (.cells #[.int .i64 S] 3) |>.grown hgrow7 (owns_ne hown4 (by show w1.heap.size + 1 < ((w1.alloc _).alloc _).heap.size; simp))) | skip); (first | (obtain ⟨p0, p1⟩ := hm7.cells; obtain ⟨q0, q1⟩ := frozen_box2 hm7) | skip))
        | (refine step_append_at _ ?_ (.tmp 19) (.tmp 21) _ ?_ _ 3 i0 (.int .i64 0) 1 8 Try.underlying22 hi0 hz0 hz1 hz2 rfl ?_ v4 n (cut ws 0 n) ?_ ((hown4.alloc _).alloc _) ⟨wA.heap.size, 0, none⟩ 1 1 [.int .i64 S] ?_ rfl ?_ ?_ ?_ ?_ ?_ ?_; (rfl); (rfl); (omega); (rfl); (rfl); (exact lit_news ((Below.heap_alloc (wA.alloc (.cells #[.int .i64 S] 3)) (.cells #[.int .i64 0, .slice none 0 0] 32) wA.heap.size (by simp)).trans (heap_alloc_new wA (.cells #[.int .i64 S] 3)))); (simp [Value.oneCell']); (unfold maxLen; omega); (omega); (first | exact hszA | (have := hszA; (simp at this ⊢ <;> omega)) | (have hq : (w1.alloc _).heap.size ≤ wA.heap.size := hszA; simp at hq; show (w1.alloc _).heap.size ≤ _; (simp <;> omega)) | ((simp <;> omega))); intro B cp w7 hown7 hgrow7 hob7; have g7 := (show Below w1.heap.size w1 ((wA.alloc (.cells #[.int .i64 S] 3)).alloc (.cells #[.int .i64 0, .slice none 0 0] 32)) from (gA.alloc gA.size _).alloc (by have := gA.size; (simp <;> omega)) _).grown hgrow7 (by have := gA.size; (simp <;> omega)) (fun j hj => by have := owns_le hown4 hj; omega); obtain ⟨d0, d1⟩ := K.out _ g7; have hm7 := (Box.new (wA.alloc (.cells #[.int .i64 S] 3)) (.int .i64 0) (.slice none 0 0)).grown hgrow7 (fun e => by have := owns_lt hown4 e.symm; simp at this; omega); simp only [World.size_alloc] at hm7; (first | (obtain ⟨p0, p1⟩ := hm7.cells; obtain ⟨q0, q1⟩ := frozen_box2 hm7) | skip))
        | (refine step_append_at _ ?_ (.tmp 19) (.tmp 21) _ ?_ _ 3 i0 (.int .i64 0) 1 8 Try.underlying22 hi0 hz0 hz1 hz2 rfl ?_ v4 n (cut ws 0 n) ?_ ((hown4.alloc _).alloc _) ⟨wA.heap.size + 1, 0, none⟩ 1 1 [.int .i64 S] ?_ rfl ?_ ?_ ?_ ?_ ?_ ?_; (rfl); (rfl); (omega); (rfl); (rfl); (exact lit_news (by have h := heap_alloc_new (wA.alloc (.cells #[.int .i64 0, .slice none 0 0] 32)) (.cells #[.int .i64 S] 3); simpa using h)); (simp [Value.oneCell']); (unfold maxLen; omega); (omega); (first | exact hszA | (have := hszA; (simp at this ⊢ <;> omega)) | (have hq : (w1.alloc _).heap.size ≤ wA.heap.size := hszA; simp at hq; show (w1.alloc _).heap.size ≤ _; (simp <;> omega)) | ((simp <;> omega))); intro B cp w7 hown7 hgrow7 hob7; have g7 := (show Below w1.heap.size w1 ((wA.alloc (.cells #[.int .i64 0, .slice none 0 0] 32)).alloc (.cells #[.int .i64 S] 3)) from (gA.alloc gA.size _).alloc (by have := gA.size; (simp <;> omega)) _).grown hgrow7 (by have := gA.size; (simp <;> omega)) (fun j hj => by have := owns_le hown4 hj; omega); obtain ⟨d0, d1⟩ := K.out _ g7; have hm7 := ((Box.new wA (.int .i64 0) (.slice none 0 0)).alloc (.cells #[.int .i64 S] 3)).grown hgrow7 (fun e => by have := owns_lt hown4 e.symm; omega); (first | (obtain ⟨p0, p1⟩ := hm7.cells; obtain ⟨q0, q1⟩ := frozen_box2 hm7) | skip)))
    all_goals
      have hown8 := owns_less hown7 hbe
      rw [cut_addL] at hown8
      have hr7 := hr1.now g7
      have gw7 := bfrom g1 g7
      have hsA := gA.size
      have hs7 := g7.size
      have hgw := g1.size
      try rw [HW.out]
      obtain ⟨Q, hQ⟩ : ∃ Q, Q = q + S := ⟨_, rfl⟩
      have HQQ := Lib.hid hQ
      rw [← hQ]
      clear hQ
      first
        | (have hb9 := Box.new w7 (.int .i64 Q) (.slice B (n + 1) cp)
           have hr9 := hr7.alloc (.cells #[.int .i64 Q, .slice B (n + 1) cp] 32)
           have ho9 := hown8.alloc (.cells #[.int .i64 Q, .slice B (n + 1) cp] 32)
           have g9 := gw7.alloc gw7.size (.cells #[.int .i64 Q, .slice B (n + 1) cp] 32)
           obtain ⟨W9, hW9⟩ : ∃ W9, W9 = w7.alloc (.cells #[.int .i64 Q, .slice B (n + 1) cp] 32) := ⟨_, rfl⟩
           rw [← hW9] at hb9 hr9 ho9 g9 ⊢
           clear hW9
           obtain ⟨nb, hnb⟩ : ∃ nb, nb = w7.heap.size := ⟨_, rfl⟩
           rw [← hnb] at hb9 ⊢
           clear hnb)
        | (have hb9 := box_put (show BoxT 32 w7 w1.heap.size (.int .i64 0) (.slice none 0 0) from hm7) (.int .i64 Q) (.slice B (n + 1) cp)
           have hnon : ∀ j, Value.ownBlock (.slice B (n + 1) cp) = some j → j ≠ w1.heap.size := fun j hj => by
             rcases hob7 with ho | ho
             · have h := ho.symm.trans hj
               have l1 := owns_le hown4 h
               have l2 := owns_lt hown4 h
               first | omega | (simp at l1; omega) | (have l3 : (w1.alloc _).heap.size ≤ j := l1; simp at l3; omega) | (have l3 : ((w1.alloc _).alloc _).heap.size ≤ j := l1; simp at l3; omega)
             · have h := hj.symm.trans ho
               simp at h
               have hz := hszA
               first | omega | (simp at hz; omega) | (have l3 : (w1.alloc _).heap.size ≤ wA.heap.size := hz; simp at l3; omega) | (have l3 : ((w1.alloc _).alloc _).heap.size ≤ wA.heap.size := hz; simp at l3; omega)
           have hr9 := (hr7.far (p := ⟨w1.heap.size, 0, none⟩) (show w.heap.size + 1 ≠ w1.heap.size by omega) (.int .i64 Q)).far (p := ⟨w1.heap.size, 1, none⟩) (show w.heap.size + 1 ≠ w1.heap.size by omega) (.slice B (n + 1) cp)
           have ho9 := owns_sets hown8 (nb := w1.heap.size) hnon (.int .i64 Q) (.slice B (n + 1) cp)
           have g9 := (gw7.setCell (p := ⟨w1.heap.size, 0, none⟩) (show w.heap.size ≤ w1.heap.size by omega) (.int .i64 Q)).setCell (p := ⟨w1.heap.size, 1, none⟩) (show w.heap.size ≤ w1.heap.size by omega) (.slice B (n + 1) cp)
           obtain ⟨W9, hW9⟩ : ∃ W9, W9 = (w7.setCell ⟨w1.heap.size, 0, none⟩ (.int .i64 Q)).setCell ⟨w1.heap.size, 1, none⟩ (.slice B (n + 1) cp) := ⟨_, rfl⟩
           rw [← hW9] at hb9 hr9 ho9 g9 ⊢
           clear hW9 hnon
           obtain ⟨nb, hnb⟩ : ∃ nb, nb = w1.heap.size := ⟨_, rfl⟩
           rw [← hnb] at hb9 ⊢
           clear hnb)
        | (have hb9 := box_put (show BoxT 32 w7 (w1.heap.size + 1) (.int .i64 0) (.slice none 0 0) from hm7) (.int .i64 Q) (.slice B (n + 1) cp)
           have hnon : ∀ j, Value.ownBlock (.slice B (n + 1) cp) = some j → j ≠ (w1.heap.size + 1) := fun j hj => by
             rcases hob7 with ho | ho
             · have h := ho.symm.trans hj
               have l1 := owns_le hown4 h
               have l2 := owns_lt hown4 h
               first | omega | (simp at l1; omega) | (have l3 : (w1.alloc _).heap.size ≤ j := l1; simp at l3; omega) | (have l3 : ((w1.alloc _).alloc _).heap.size ≤ j := l1; simp at l3; omega)
             · have h := hj.symm.trans ho
               simp at h
               have hz := hszA
               first | omega | (simp at hz; omega) | (have l3 : (w1.alloc _).heap.size ≤ wA.heap.size := hz; simp at l3; omega) | (have l3 : ((w1.alloc _).alloc _).heap.size ≤ wA.heap.size := hz; simp at l3; omega)
           have hr9 := (hr7.far (p := ⟨(w1.heap.size + 1), 0, none⟩) (show w.heap.size + 1 ≠ (w1.heap.size + 1) by omega) (.int .i64 Q)).far (p := ⟨(w1.heap.size + 1), 1, none⟩) (show w.heap.size + 1 ≠ (w1.heap.size + 1) by omega) (.slice B (n + 1) cp)
           have ho9 := owns_sets hown8 (nb := (w1.heap.size + 1)) hnon (.int .i64 Q) (.slice B (n + 1) cp)
           have g9 := (gw7.setCell (p := ⟨(w1.heap.size + 1), 0, none⟩) (show w.heap.size ≤ (w1.heap.size + 1) by omega) (.int .i64 Q)).setCell (p := ⟨(w1.heap.size + 1), 1, none⟩) (show w.heap.size ≤ (w1.heap.size + 1) by omega) (.slice B (n + 1) cp)
           obtain ⟨W9, hW9⟩ : ∃ W9, W9 = (w7.setCell ⟨(w1.heap.size + 1), 0, none⟩ (.int .i64 Q)).setCell ⟨(w1.heap.size + 1), 1, none⟩ (.slice B (n + 1) cp) := ⟨_, rfl⟩
           rw [← hW9] at hb9 hr9 ho9 g9 ⊢
           clear hW9 hnon
           obtain ⟨nb, hnb⟩ : ∃ nb, nb = (w1.heap.size + 1) := ⟨_, rfl⟩
           rw [← hnb] at hb9 ⊢
           clear hnb)
        | (have hb9 := box_put (show BoxT 32 w7 wA.heap.size (.int .i64 0) (.slice none 0 0) from hm7) (.int .i64 Q) (.slice B (n + 1) cp)
           have hnon : ∀ j, Value.ownBlock (.slice B (n + 1) cp) = some j → j ≠ wA.heap.size := fun j hj => by
             rcases hob7 with ho | ho
             · have h := ho.symm.trans hj
               have l1 := owns_le hown4 h
               have l2 := owns_lt hown4 h
               first | omega | (simp at l1; omega) | (have l3 : (w1.alloc _).heap.size ≤ j := l1; simp at l3; omega) | (have l3 : ((w1.alloc _).alloc _).heap.size ≤ j := l1; simp at l3; omega)
             · have h := hj.symm.trans ho
               simp at h
               have hz := hszA
               first | omega | (simp at hz; omega) | (have l3 : (w1.alloc _).heap.size ≤ wA.heap.size := hz; simp at l3; omega) | (have l3 : ((w1.alloc _).alloc _).heap.size ≤ wA.heap.size := hz; simp at l3; omega)
           have hr9 := (hr7.far (p := ⟨wA.heap.size, 0, none⟩) (show w.heap.size + 1 ≠ wA.heap.size by omega) (.int .i64 Q)).far (p := ⟨wA.heap.size, 1, none⟩) (show w.heap.size + 1 ≠ wA.heap.size by omega) (.slice B (n + 1) cp)
           have ho9 := owns_sets hown8 (nb := wA.heap.size) hnon (.int .i64 Q) (.slice B (n + 1) cp)
           have g9 := (gw7.setCell (p := ⟨wA.heap.size, 0, none⟩) (show w.heap.size ≤ wA.heap.size by omega) (.int .i64 Q)).setCell (p := ⟨wA.heap.size, 1, none⟩) (show w.heap.size ≤ wA.heap.size by omega) (.slice B (n + 1) cp)
           obtain ⟨W9, hW9⟩ : ∃ W9, W9 = (w7.setCell ⟨wA.heap.size, 0, none⟩ (.int .i64 Q)).setCell ⟨wA.heap.size, 1, none⟩ (.slice B (n + 1) cp) := ⟨_, rfl⟩
           rw [← hW9] at hb9 hr9 ho9 g9 ⊢
           clear hW9 hnon
           obtain ⟨nb, hnb⟩ : ∃ nb, nb = wA.heap.size := ⟨_, rfl⟩
           rw [← hnb] at hb9 ⊢
           clear hnb)
        | (have hb9 := box_put (show BoxT 32 w7 (wA.heap.size + 1) (.int .i64 0) (.slice none 0 0) from hm7) (.int .i64 Q) (.slice B (n + 1) cp)
           have hnon : ∀ j, Value.ownBlock (.slice B (n + 1) cp) = some j → j ≠ (wA.heap.size + 1) := fun j hj => by
             rcases hob7 with ho | ho
             · have h := ho.symm.trans hj
               have l1 := owns_le hown4 h
               have l2 := owns_lt hown4 h
               first | omega | (simp at l1; omega) | (have l3 : (w1.alloc _).heap.size ≤ j := l1; simp at l3; omega) | (have l3 : ((w1.alloc _).alloc _).heap.size ≤ j := l1; simp at l3; omega)
             · have h := hj.symm.trans ho
               simp at h
               have hz := hszA
               first | omega | (simp at hz; omega) | (have l3 : (w1.alloc _).heap.size ≤ wA.heap.size := hz; simp at l3; omega) | (have l3 : ((w1.alloc _).alloc _).heap.size ≤ wA.heap.size := hz; simp at l3; omega)
           have hr9 := (hr7.far (p := ⟨(wA.heap.size + 1), 0, none⟩) (show w.heap.size + 1 ≠ (wA.heap.size + 1) by omega) (.int .i64 Q)).far (p := ⟨(wA.heap.size + 1), 1, none⟩) (show w.heap.size + 1 ≠ (wA.heap.size + 1) by omega) (.slice B (n + 1) cp)
           have ho9 := owns_sets hown8 (nb := (wA.heap.size + 1)) hnon (.int .i64 Q) (.slice B (n + 1) cp)
           have g9 := (gw7.setCell (p := ⟨(wA.heap.size + 1), 0, none⟩) (show w.heap.size ≤ (wA.heap.size + 1) by omega) (.int .i64 Q)).setCell (p := ⟨(wA.heap.size + 1), 1, none⟩) (show w.heap.size ≤ (wA.heap.size + 1) by omega) (.slice B (n + 1) cp)
           obtain ⟨W9, hW9⟩ : ∃ W9, W9 = (w7.setCell ⟨(wA.heap.size + 1), 0, none⟩ (.int .i64 Q)).setCell ⟨(wA.heap.size + 1), 1, none⟩ (.slice B (n + 1) cp) := ⟨_, rfl⟩
           rw [← hW9] at hb9 hr9 ho9 g9 ⊢
           clear hW9 hnon
           obtain ⟨nb, hnb⟩ : ∃ nb, nb = (wA.heap.size + 1) := ⟨_, rfl⟩
           rw [← hnb] at hb9 ⊢
           clear hnb)
      obtain ⟨gg, cp', hv, hgg, _, _⟩ := owns_head ho9 (by omega)
      obtain ⟨rfl, rfl⟩ : B = some ⟨gg, 0, none⟩ ∧ cp = cp' := by simpa using hv
      have HI9 := Lib.hid (addL_row ho9)
      have HB9 := Lib.hid hb9
      have HR9 := Lib.hid hr9
      have hgr : gg ≠ w.heap.size + 1 := by omega
      have hge : w.heap.size ≤ gg := by omega
      obtain ⟨e0, e1⟩ := hb9.cells
      clear hv c0 c1 a0 a1 d0 d1 hown7 hown8 hown4 hgrow7 hob7 hr7 hr1 hx1 ho9 hb9 hr9 gA g7 gw7 hbA hszA hbe
      try clear hm7 p0 p1 q0 q1
      cases hok : moreOk Q ws n S with
      | true =>
        have HOKM := Lib.hid (show goodB Q (addL ws n S) (n + 1) = true from hok)
        have HQM := Lib.hid (moreQ_yes hok)
        have HNM := Lib.hid (moreN_yes hok)
        have HBM := Lib.hid hok
        clear hok
        go_wp2_with (go_at_call 51; refine (voGood_any Q (some ⟨gg, 0, none⟩) (n + 1) cp (addL ws n S) _ (by omega) (Known.of HI9.out.sl)).mono ?_; rintro e w8 ⟨rfl, hb8⟩; rw [HOKM.out]; obtain ⟨q0, q1⟩ := (HB9.out.now hb8).cells; obtain ⟨d0, d1⟩ := (HR9.out.now hb8).cells; obtain ⟨f0, f1⟩ := KF.out _ (HR9.out.now hb8))
        have b8 := bfrom g9 hb8
        have hlt9 := HI9.out.lt
        refine bodyPost_ret (v := .tuple #[.agg #[.int .i64 Q, .slice (some ⟨gg, 0, none⟩) (n + 1) cp], .bool true]) (by simp [results, Try.results37, go_sem, d0, d1]) rfl ?_
        rw [← HQQ.out, HQM.out, HNM.out, HBM.out]
        exact ⟨_, _, rfl, Or.inr ⟨gg, rfl, hge, ((Own.below HI9.out hb8 hlt9).far (by simpa using hgr) _).far (by simpa using hgr) _⟩, (b8.setCell (by simp) _).setCell (by simp) _⟩
      | false =>
        have HOKM := Lib.hid (show goodB Q (addL ws n S) (n + 1) = false from hok)
        have HQM := Lib.hid (moreQ_no hok)
        have HNM := Lib.hid (moreN_no hok)
        have HBM := Lib.hid hok
        clear hok
        go_wp2_with (go_at_call 51; refine (voGood_any Q (some ⟨gg, 0, none⟩) (n + 1) cp (addL ws n S) _ (by omega) (Known.of HI9.out.sl)).mono ?_; rintro e w8 ⟨rfl, hb8⟩; rw [HOKM.out]; obtain ⟨d0, d1⟩ := (HR9.out.now hb8).cells; obtain ⟨f0, f1⟩ := KF.out _ (HR9.out.now hb8))
        have b8 := bfrom g9 hb8
        refine bodyPost_ret (v := .tuple #[.agg #[.int .i64 0, .slice none 0 0], .bool false]) (by simp [results, Try.results37, go_sem, d0, d1]) rfl ?_
        rw [← HQQ.out, HQM.out, HNM.out, HBM.out]
        exact ⟨_, _, rfl, Or.inl ⟨rfl, rfl⟩, (b8.setCell (by simp) _).setCell (by simp) _⟩
  · have HGB := Lib.hid (goodB_false hg)
    have HQ := Lib.hid (addQ_no (q' := q + sumK ws n) (x := sumK ws n) (goodB_false hg))
    clear hg
    go_enter Try.func37, Try.ntmps37
    go_wp2_with fail
    refine (voGood_any q A n cap ws _ hm (HK.out.now hb0)).mono ?_
    rintro e w1 ⟨rfl, hb1⟩
    rw [HGB.out]
    have g1 := bfrom hb0 hb1
    have hr1 := hr.now hb1
    obtain ⟨c0, c1⟩ := hr1.cells
    obtain ⟨f0, f1⟩ := KF.out _ hr1
    clear hr hb0 hb1 hx
    go_wp2
    refine bodyPost_ret (v := .tuple #[.agg #[.int .i64 0, .slice none 0 0], .bool false]) (by simp [results, Try.results37, go_sem, c0, c1]) rfl ?_
    rw [HQ.out, addN_no HGB.out, addOk_no HGB.out]
    exact ⟨_, _, rfl, Or.inl ⟨rfl, rfl⟩, (g1.setCell (by simp) _).setCell (by simp) _⟩
end Go.Proofs.Ytkeiojfnjgjliaa
