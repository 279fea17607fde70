/- Contract of the model's GameOf. -/
import Derived.Test.YtipplbcjdcdapaaA3
import Derived.Outline
namespace Go.Proofs.Ytipplbcjdcdapaa
open Go.RowKit Vo

set_option maxRecDepth 20000 in
set_option maxHeartbeats 4000000 in
theorem sGameOf_ans (q : Int) (A : Option Addr) (n cap : Nat) (ws : List Int) (w : World) (hm : n ≤ 9223372036854775807) (hk : Known w A n ws) :
    Calls Try.prog 16 #[.agg #[.int .i64 q, .slice A n cap]] w fun e w' => AnsG RSS0 (gameM q ws n) (leastWinningL q ws n) (goodB q ws n) w w' e := by
  have HK := Lib.hid hk
  clear hk
  have hb0 : Below w.heap.size w ((w.alloc (.cells #[.int .i64 q, .slice A n cap] 31)).alloc (.cells #[.int .i64 0, .slice none 0 0] 28)) := (below1 w _).alloc (by simp) _
  have hx := (Box.new w (.int .i64 q) (.slice A n cap)).alloc (.cells #[.int .i64 0, .slice none 0 0] 28)
  have hr := BoxT.new 28 (w.alloc (.cells #[.int .i64 q, .slice A n cap] 31)) (.int .i64 0) (.slice none 0 0)
  simp only [World.size_alloc] at hr
  have KF := Lib.hid (show ∀ W, BoxT 28 W (w.heap.size + 1) (.int .i64 0) (.slice none 0 0) → (W.frozen? ⟨w.heap.size + 1, 0, none⟩ = false ∧ W.frozen? ⟨w.heap.size + 1, 1, none⟩ = false) from fun W h => by unfold BoxT at h; exact ⟨by simp [World.frozen?, h], by simp [World.frozen?, h]⟩)
  by_cases hg : Vo.Good q ws n
  · obtain ⟨b, off, rfl, hsl⟩ := HK.out.get hg.lo
    have HSL := Lib.hid hsl
    have HOK := Lib.hid hg.ok
    have HGB := Lib.hid (goodB_true hg)
    have hn9 := hg.hi
    have hn10 : n < 10 := by omega
    have HGM := Lib.hid (gameM_yes (goodB_true hg))
    have HGL := Lib.hid (show leastWinningL q ws n = setsL ((inOrder n).filter (leastP (winB q ws n) n)) from okLL_yes (goodB_true hg))
    obtain ⟨P, hP⟩ : ∃ P, P = 2 ^ n := ⟨_, rfl⟩
    have HWW := Lib.hid (fun W h => voWins_any q b off n cap ws W hn10 HOK.out h)
    have HV := Lib.hid (fun g2 cap2 W => gmOf_any (winB q ws n) n g2 cap2 W hn10)
    simp only [WinsAt] at HWW
    rw [← hP] at HV HWW
    clear hP hg hsl
    go_enter Try.func16, Try.ntmps16
    go_wp2_with fail
    refine (voGood_any q _ n cap ws _ hm (HK.out.now hb0)).mono ?_
    rintro e w1 ⟨rfl, hb1⟩
    rw [HGB.out]
    have g1 := bfrom hb0 hb1
    have hx1 := hx.now hb1
    have hr1 := hr.now hb1
    have hs1 := Lib.hid (HSL.out.now g1)
    have hzr := hr1.lt
    clear hx hr hb0 hb1
    have K := Lib.hid (show ∀ W, Below w1.heap.size w1 W → (W.cell? ⟨w.heap.size, 0, none⟩ = some (.int .i64 q) ∧ W.cell? ⟨w.heap.size, 1, none⟩ = some (.slice (some ⟨b, off, none⟩) n cap) ∧ W.cell? ⟨w.heap.size + 1, 0, none⟩ = some (.int .i64 0) ∧ W.cell? ⟨w.heap.size + 1, 1, none⟩ = some (.slice none 0 0) ∧ W.frozen? ⟨w.heap.size + 1, 0, none⟩ = false ∧ W.frozen? ⟨w.heap.size + 1, 1, none⟩ = false) from fun W hb => ⟨(hx1.now hb).cells.1, (hx1.now hb).cells.2, (hr1.now hb).cells.1, (hr1.now hb).cells.2, (KF.out _ (hr1.now hb)).1, (KF.out _ (hr1.now hb)).2⟩)
    obtain ⟨c0, c1, c2, c3, c4, c5⟩ := K.out _ (Below.refl _ _)
    clear hx1 hr1
    go_wp2_with fail
    go_region_held3 (fun w' => w'.cell? ⟨w.heap.size, 0, none⟩ = some (.int .i64 q) ∧ w'.cell? ⟨w.heap.size, 1, none⟩ = some (.slice (some ⟨b, off, none⟩) n cap) ∧ (w'.cell? ⟨w.heap.size + 1, 0, none⟩).isSome = true ∧ (w'.cell? ⟨w.heap.size + 1, 1, none⟩).isSome = true ∧ w'.frozen? ⟨w.heap.size + 1, 0, none⟩ = false ∧ w'.frozen? ⟨w.heap.size + 1, 1, none⟩ = false)
      (first | exact ⟨c0, c1, by rw [c2]; rfl, by rw [c3]; rfl, c4, c5⟩ | exact ⟨a0, a1, by rw [a2]; rfl, by rw [a3]; rfl, a4, a5⟩ | exact ⟨d0, d1, by rw [d2]; rfl, by rw [d3]; rfl, d4, d5⟩ | ((try dsimp only); (repeat' apply And.intro); all_goals (first | exact isSome_set (isSome_set (Option.isSome_iff_exists.2 ⟨_, d2⟩)) | exact isSome_set (isSome_set (Option.isSome_iff_exists.2 ⟨_, d3⟩)) | go_keep)) | go_keep)
      (first
        | (go_at_call 59; refine (HWW.out _ (hs1.out.drew)).mono ?_; rintro e wA ⟨g2, cap2, rfl, hg2, hoA, hbA⟩; have HOA := Lib.hid hoA; clear hoA; have gA := bfrom (Below.refl _ w1).drew hbA; obtain ⟨a0, a1, a2, a3, a4, a5⟩ := K.out _ gA)
        | (go_at_call 58; refine (HV.out g2 cap2 _ HOA.out).mono ?_; rw [← HGL.out]; rintro e wC ⟨BC, cC, rfl, hlC, hbC⟩; have HLC := Lib.hid hlC; clear hlC; have gC := bfrom gA hbC; obtain ⟨d0, d1, d2, d3, d4, d5⟩ := K.out _ gC))
    have hzA := gA.size
    have hzC := gC.size
    clear a0 a1 a2 a3 a4 a5 c0 c1 c2 c3 c4 c5 d0 d1 d4 d5
    obtain ⟨k, hk⟩ : ∃ k, k = (leastWinningL q ws n).length := ⟨_, rfl⟩
    rw [← hk] at HLC ⊢
    have HKL := Lib.hid hk
    clear hk
    go_wp2
    refine bodyPost_ret (v := .tuple #[.agg #[.int .i64 n, .slice BC k cC], .bool true]) (by simp [results, Try.results16, go_sem, d2, d3]) rfl ?_
    rw [HGM.out, HGB.out]
    refine ⟨BC, cC, by first | rfl | rw [HKL.out], ?_, ?_⟩
    · try rw [← HKL.out]
      exact Lies.rss0_wide (Lies.far (Lies.far HLC.out (by first | omega | (simp; omega)) _) (by first | omega | (simp; omega)) _) (by omega) (by first | exact Nat.le_refl _ | simp) (by first | exact Nat.le_refl _ | simp)
    · exact ((bfrom g1 gC).setCell (by simp) _).setCell (by simp) _
  · have HGB := Lib.hid (goodB_false hg)
    have HGM := Lib.hid (gameM_no (goodB_false hg))
    have HGL := Lib.hid (show leastWinningL q ws n = [] from okLL_no (goodB_false hg))
    clear hg
    go_enter Try.func16, Try.ntmps16
    go_wp2_with fail
    refine (voGood_any q A n cap ws _ hm (HK.out.now hb0)).mono ?_
    rintro e w1 ⟨rfl, hb1⟩
    rw [HGB.out]
    have g1 := bfrom hb0 hb1
    have hr1 := hr.now hb1
    obtain ⟨f0, f1⟩ := KF.out _ hr1
    obtain ⟨c0, c1⟩ := hr1.cells
    go_wp2
    refine bodyPost_ret (v := .tuple #[.agg #[.int .i64 0, .slice none 0 0], .bool false]) (by simp [results, Try.results16, go_sem, c0, c1]) rfl ?_
    rw [HGM.out, HGL.out, HGB.out]
    exact AnsG.none_ RSS0.none_ ((g1.setCell (by simp) _).setCell (by simp) _)
end Go.Proofs.Ytipplbcjdcdapaa
