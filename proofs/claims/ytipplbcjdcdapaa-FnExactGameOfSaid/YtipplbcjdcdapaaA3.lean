/- Contracts of GameOf: the program's and the model's. -/
import Derived.Test.YtipplbcjdcdapaaA2
import Derived.Test.YtipplbcjdcdapaaA5
import Derived.Test.YtipplbcjdcdapaaR7
import Derived.Test.YtipplbcjdcdapaaT5
import Derived.Test.YtipplbcjdcdapaaD2
import Derived.Outline
namespace Go.Proofs.Ytipplbcjdcdapaa
open Go.RowKit Vo

/-- The members of the game of a committee. -/
def gameM (q : Int) (ws : List Int) (n : Nat) : Int := if goodB q ws n then (n : Int) else 0
theorem gameM_yes {q ws n} (h : goodB q ws n = true) : gameM q ws n = n := if_pos h
theorem gameM_no {q ws n} (h : goodB q ws n = false) : gameM q ws n = 0 := if_neg (by rw [h]; simp)
theorem lwL_at9 {q : Int} {ws : List Int} {n : Nat} (hn : n ≤ 9) : ∀ j, j < (lwL q ws n).length → (lwL q ws n).getD j 0 < 512 := fun j hj => by
  have h1 := (lwL_mem (lwL_at hj)).1
  have h2 := pow_lt hn
  omega
theorem lwL_game {q : Int} {ws : List Int} {n : Nat} (h : goodB q ws n = true) : leastWinningL q ws n = setsL (lwL q ws n) := okLL_yes h
set_option maxRecDepth 20000 in
set_option maxHeartbeats 4000000 in
theorem gameOf_ans (q : Int) (A : Option Addr) (n cap : Nat) (ws : List Int) (w : World) (hm : n ≤ 9223372036854775807) (hk : Known w A n ws) :
    Calls Try.prog 18 #[.agg #[.int .i64 q, .slice A n cap]] w fun e w' => AnsG RSS (gameM q ws n) (leastWinningL q ws n) (goodB q ws n) w w' e := by
  have HK := Lib.hid hk
  clear hk
  have hb0 : Below w.heap.size w ((w.alloc (.cells #[.int .i64 q, .slice A n cap] 31)).alloc (.cells #[.int .i64 0, .slice none 0 0] 28)) := (below1 w _).alloc (by simp) _
  have hx := (Box.new w (.int .i64 q) (.slice A n cap)).alloc (.cells #[.int .i64 0, .slice none 0 0] 28)
  have hr := BoxT.new 28 (w.alloc (.cells #[.int .i64 q, .slice A n cap] 31)) (.int .i64 0) (.slice none 0 0)
  simp only [World.size_alloc] at hr
  have KF := Lib.hid (show ∀ W, BoxT 28 W (w.heap.size + 1) (.int .i64 0) (.slice none 0 0) → (W.frozen? ⟨w.heap.size + 1, 0, none⟩ = false ∧ W.frozen? ⟨w.heap.size + 1, 1, none⟩ = false) from fun W h => by unfold BoxT at h; exact ⟨by simp [World.frozen?, h], by simp [World.frozen?, h]⟩)
  by_cases hg : Vo.Good q ws n
  · obtain ⟨b, off, rfl, hsl⟩ := HK.out.get hg.lo
    have HSL := Lib.hid hsl
    have HOK := Lib.hid hg.ok
    have HGB := Lib.hid (goodB_true hg)
    have hn9 := hg.hi
    have hn10 : n < 10 := by omega
    have HGM := Lib.hid (gameM_yes (goodB_true hg))
    have HGL := Lib.hid (lwL_game (goodB_true hg))
    have HSM := Lib.hid (show ∀ j, j < (lwL q ws n).length → (lwL q ws n).getD j 0 < 512 from lwL_at9 hn9)
    have hlen := lwL_len (q := q) (ws := ws) hn9
    obtain ⟨S, hS⟩ : ∃ S, S = lwL q ws n := ⟨_, rfl⟩
    rw [← hS] at HGL HSM hlen
    obtain ⟨k, hk⟩ : ∃ k, k = S.length := ⟨_, rfl⟩
    rw [← hk] at hlen HSM
    have HS := Lib.hid hS
    have HKL := Lib.hid hk
    clear hg hsl hS hk
    go_enter Try.func18, Try.ntmps18
    go_wp2_with fail
    refine (isCommittee_any q _ n cap ws _ hm (HK.out.now hb0)).mono ?_
    rintro e w1 ⟨rfl, hb1⟩
    rw [HGB.out]
    have g1 := bfrom hb0 hb1
    have hx1 := hx.now hb1
    have hr1 := hr.now hb1
    have hs1 := Lib.hid (HSL.out.now g1)
    have hzr := hr1.lt
    clear hx hr hb0 hb1
    have K := Lib.hid (show ∀ W, Below w1.heap.size w1 W → (W.cell? ⟨w.heap.size, 0, none⟩ = some (.int .i64 q) ∧ W.cell? ⟨w.heap.size, 1, none⟩ = some (.slice (some ⟨b, off, none⟩) n cap) ∧ W.cell? ⟨w.heap.size + 1, 0, none⟩ = some (.int .i64 0) ∧ W.cell? ⟨w.heap.size + 1, 1, none⟩ = some (.slice none 0 0) ∧ W.frozen? ⟨w.heap.size + 1, 0, none⟩ = false ∧ W.frozen? ⟨w.heap.size + 1, 1, none⟩ = false) from fun W hb => ⟨(hx1.now hb).cells.1, (hx1.now hb).cells.2, (hr1.now hb).cells.1, (hr1.now hb).cells.2, (KF.out _ (hr1.now hb)).1, (KF.out _ (hr1.now hb)).2⟩)
    obtain ⟨c0, c1, c2, c3, c4, c5⟩ := K.out _ (Below.refl _ _)
    clear hx1 hr1
    go_wp2_with fail
    go_region_held3 (fun w' => w'.cell? ⟨w.heap.size, 0, none⟩ = some (.int .i64 q) ∧ w'.cell? ⟨w.heap.size, 1, none⟩ = some (.slice (some ⟨b, off, none⟩) n cap) ∧ (w'.cell? ⟨w.heap.size + 1, 0, none⟩).isSome = true ∧ (w'.cell? ⟨w.heap.size + 1, 1, none⟩).isSome = true ∧ w'.frozen? ⟨w.heap.size + 1, 0, none⟩ = false ∧ w'.frozen? ⟨w.heap.size + 1, 1, none⟩ = false)
      (first | exact ⟨c0, c1, by rw [c2]; rfl, by rw [c3]; rfl, c4, c5⟩ | exact ⟨a0, a1, by rw [a2]; rfl, by rw [a3]; rfl, a4, a5⟩ | exact ⟨b0, b1, by rw [b2]; rfl, by rw [b3]; rfl, b4, b5⟩ | exact ⟨d0, d1, by rw [d2]; rfl, by rw [d3]; rfl, d4, d5⟩ | ((try dsimp only); (repeat' apply And.intro); all_goals (first | exact isSome_set (isSome_set (Option.isSome_iff_exists.2 ⟨_, d2⟩)) | exact isSome_set (isSome_set (Option.isSome_iff_exists.2 ⟨_, d3⟩)) | go_keep)) | go_keep)
      (first
        | (go_at_call 61; refine (members_any _ _ n cap _).mono ?_; rintro e wA ⟨rfl, hbA⟩; have gA := bfrom (Below.refl _ w1).drew hbA; obtain ⟨a0, a1, a2, a3, a4, a5⟩ := K.out _ gA)
        | (go_at_call 62; refine (leastWinning_any q b off n cap ws _ hn10 HOK.out (hs1.out.now gA)).mono ?_; rw [← HS.out]; rintro e wB ⟨AB, cB, rfl, hoB, hbB⟩; rw [← HKL.out] at hoB ⊢; have HOB := Lib.hid hoB; clear hoB; have gB := bfrom gA hbB; obtain ⟨b0, b1, b2, b3, b4, b5⟩ := K.out _ gB)
        | (go_at_call 63; refine (told_any S n _ k cB AB _ HKL.out hlen HSM.out HOB.out).mono ?_; rintro e wC ⟨BC, cC, rfl, hlC, hbC⟩; have HLC := Lib.hid hlC; clear hlC; have gC := bfrom gB hbC; obtain ⟨d0, d1, d2, d3, d4, d5⟩ := K.out _ gC))
    have hzB := gB.size
    have hzC := gC.size
    clear a0 a1 a2 a3 a4 a5 b0 b1 b2 b3 b4 b5 c0 c1 c2 c3 c4 c5 d0 d1 d4 d5
    go_wp2
    refine bodyPost_ret (v := .tuple #[.agg #[.int .i64 n, .slice BC k cC], .bool true]) (by simp [results, Try.results18, go_sem, d2, d3]) rfl ?_
    rw [HGM.out, HGL.out, HGB.out]
    have HSLN := Lib.hid (show (setsL S).length = k from by rw [setsL_len, HKL.out])
    refine ⟨BC, cC, by rw [HSLN.out], ?_, ?_⟩
    · rw [HSLN.out]
      exact Lies.rss_wide (Lies.far (Lies.far HLC.out (by first | omega | (simp; omega)) _) (by first | omega | (simp; omega)) _) (by omega) (by first | exact Nat.le_refl _ | simp) (by first | exact Nat.le_refl _ | simp)
    · exact ((bfrom g1 gC).setCell (by simp) _).setCell (by simp) _
  · have HGB := Lib.hid (goodB_false hg)
    have HGM := Lib.hid (gameM_no (goodB_false hg))
    have HGL := Lib.hid (show leastWinningL q ws n = [] from okLL_no (goodB_false hg))
    clear hg
    go_enter Try.func18, Try.ntmps18
    go_wp2_with fail
    refine (isCommittee_any q A n cap ws _ hm (HK.out.now hb0)).mono ?_
    rintro e w1 ⟨rfl, hb1⟩
    rw [HGB.out]
    have g1 := bfrom hb0 hb1
    have hr1 := hr.now hb1
    obtain ⟨f0, f1⟩ := KF.out _ hr1
    obtain ⟨c0, c1⟩ := hr1.cells
    go_wp2
    refine bodyPost_ret (v := .tuple #[.agg #[.int .i64 0, .slice none 0 0], .bool false]) (by simp [results, Try.results18, go_sem, c0, c1]) rfl ?_
    rw [HGM.out, HGL.out, HGB.out]
    exact AnsG.none_ RSS.none_ ((g1.setCell (by simp) _).setCell (by simp) _)

end Go.Proofs.Ytipplbcjdcdapaa
