/- Contracts of the model's LeastWinning and LeastBlocking. -/
import Derived.Test.YtldpdjnedoflcabT4
import Derived.Test.YtldpdjnedoflcabD2
namespace Go.Proofs.Ytldpdjnedoflcab
open Go.RowKit Vo

theorem RSS0.low {L : List (List Int)} {lo lo' hi : Nat} {v : Value} {w : World} (h : RSS0 L lo hi v w) (hl : lo' ≤ lo) : RSS0 L lo' hi v w := by
  obtain ⟨A, cap, hv, h⟩ := h
  refine ⟨A, cap, hv, ?_⟩
  rcases h with h | ⟨g, f, hA, h1, h2, ho, h⟩
  · exact Or.inl h
  · exact Or.inr ⟨g, f, hA, by omega, h2, ho, fun i hi => (h i hi).wide (Or.inr ⟨hl, Nat.le_refl _⟩)⟩
theorem leastP_congr {p p' : Nat → Bool} {n : Nat} (h : ∀ s, s < 2^n → p s = p' s) : (inOrder n).filter (leastP p n) = (inOrder n).filter (leastP p' n) := by
  refine List.filter_congr fun t ht => ?_
  have h2 := mem_inOrder.1 ht
  unfold leastP noneOut
  rw [h t h2, allK_congr fun j _ => by rw [h (out t j) (Nat.lt_of_le_of_lt (out_le t j) h2)]]
theorem leastP_dual {q : Int} {ws : List Int} {n : Nat} : (inOrder n).filter (leastP (vetoP q ws n) n) = (inOrder n).filter (leastP (winB (sumK ws n + 1 - q) ws n) n) := by
  refine leastP_congr fun s hs => ?_
  unfold vetoP winB
  rw [wtK_co hs (Nat.le_refl _)]
  rw [Bool.eq_iff_iff]
  simp
  omega

set_option maxRecDepth 20000 in
set_option maxHeartbeats 4000000 in
theorem sLeastWinning_ans (q : Int) (A : Option Addr) (n cap : Nat) (ws : List Int) (w : World) (hm : n ≤ 9223372036854775807) (hk : Known w A n ws) :
    Calls Try.prog 16 #[.agg #[.int .i64 q, .slice A n cap]] w fun e w' => Ans (RSS0 (leastWinningL q ws n)) (goodB q ws n) w w' e := by
  have HK := Lib.hid hk
  clear hk
  have hx := Box.new w (.int .i64 q) (.slice A n cap)
  have hb0 := below1 w (.cells #[.int .i64 q, .slice A n cap] 29)
  by_cases hg : Vo.Good q ws n
  · obtain ⟨b, off, rfl, hsl⟩ := HK.out.get hg.lo
    have HSL := Lib.hid hsl
    have HOK := Lib.hid hg.ok
    have HGB := Lib.hid (goodB_true hg)
    have hn9 := hg.hi
    have hn10 : n < 10 := by omega
    have HV := Lib.hid (show leastWinningL q ws n = setsL ((inOrder n).filter (leastP (winB q ws n) n)) from okLL_yes HGB.out)
    clear hg hsl
    go_enter Try.func16, Try.ntmps16
    go_wp2_with fail
    refine (voGood_any q _ n cap ws _ hm (HK.out.now hb0)).mono ?_
    rintro e w1 ⟨rfl, hb⟩
    rw [HGB.out]
    have g1 := bfrom hb0 hb
    have hz1 := g1.size
    have hs1 := Lib.hid (HSL.out.now g1)
    obtain ⟨hc0, hc1⟩ := (hx.now hb).cells
    go_wp2_with (first
      | (go_at_call 54; refine (voWins_any q b off n cap ws _ hn10 HOK.out hs1.out).mono ?_; rintro e w2 ⟨g2, cap2, rfl, hg2, hown2, hb2⟩; have HO2 := Lib.hid hown2; clear hown2; have g2' := bfrom g1 hb2; have hz2 := g2'.size)
      | (go_at_call 53; refine (voLeast_any (winB q ws n) n g2 cap2 _ hn10 HO2.out).mono ?_; rintro e w3 ⟨v, rfl, hr, hb3⟩; have HR := Lib.hid hr; clear hr))
    go_ret2
    rw [HV.out, HGB.out]
    exact ⟨_, rfl, RSS0.lies (RSS0.low HR.out hz2) (Nat.le_refl _), bfrom g2' hb3⟩
  · have HGB := Lib.hid (goodB_false hg)
    clear hg
    go_enter Try.func16, Try.ntmps16
    go_wp2_with fail
    refine (voGood_any q A n cap ws _ hm (HK.out.now hb0)).mono ?_
    rintro e w1 ⟨rfl, hb⟩
    rw [HGB.out]
    go_wp2
    go_ret2
    rw [show leastWinningL q ws n = [] from okLL_no HGB.out, HGB.out]
    exact Ans.noneSS0 (bfrom hb0 hb)

set_option maxRecDepth 20000 in
set_option maxHeartbeats 4000000 in
theorem sLeastBlocking_ans (q : Int) (A : Option Addr) (n cap : Nat) (ws : List Int) (w : World) (hm : n ≤ 9223372036854775807) (hk : Known w A n ws) :
    Calls Try.prog 26 #[.agg #[.int .i64 q, .slice A n cap]] w fun e w' => Ans (RSS0 (leastBlockingL q ws n)) (goodB q ws n) w w' e := by
  have HK := Lib.hid hk
  clear hk
  have hx := Box.new w (.int .i64 q) (.slice A n cap)
  have hb0 := below1 w (.cells #[.int .i64 q, .slice A n cap] 29)
  by_cases hg : Vo.Good q ws n
  · obtain ⟨b, off, rfl, hsl⟩ := HK.out.get hg.lo
    have HSL := Lib.hid hsl
    have HG := Lib.hid hg
    have HOK := Lib.hid hg.ok
    have HGB := Lib.hid (goodB_true hg)
    have hn9 := hg.hi
    have hn10 : n < 10 := by omega
    have HV := Lib.hid (show leastBlockingL q ws n = setsL ((inOrder n).filter (leastP (winB (sumK ws n + 1 - q) ws n) n)) from (okLL_yes HGB.out).trans (by rw [leastP_dual]))
    clear hg hsl
    go_enter Try.func26, Try.ntmps26
    go_wp2_with fail
    refine (voGood_any q _ n cap ws _ hm (HK.out.now hb0)).mono ?_
    rintro e w1 ⟨rfl, hb⟩
    rw [HGB.out]
    have g1 := bfrom hb0 hb
    have hz1 := g1.size
    have hs1 := Lib.hid (HSL.out.now g1)
    obtain ⟨hc0, hc1⟩ := (hx.now hb).cells
    go_wp2_with (first
      | (go_at_call 63; refine (voDual_any q b off n cap ws _ HG.out hs1.out).mono ?_; rintro e w4 ⟨g4, cap4, rfl, hg4, hi4, hb4⟩; have HI4 := Lib.hid hi4.sl; clear hi4; have g4' := bfrom g1 hb4; have hz4 := g4'.size)
      | (go_at_call 54; refine (voWins_any (sumK ws n + 1 - q) g4 0 n cap4 ws _ hn10 HOK.out HI4.out).mono ?_; rintro e w2 ⟨g2, cap2, rfl, hg2, hown2, hb2⟩; have HO2 := Lib.hid hown2; clear hown2; have g2' := bfrom g4' hb2; have hz2 := g2'.size)
      | (go_at_call 53; refine (voLeast_any (winB (sumK ws n + 1 - q) ws n) n g2 cap2 _ hn10 HO2.out).mono ?_; rintro e w3 ⟨v, rfl, hr, hb3⟩; have HR := Lib.hid hr; clear hr))
    go_ret2
    rw [HV.out, HGB.out]
    exact ⟨_, rfl, RSS0.lies (RSS0.low HR.out hz2) (Nat.le_refl _), bfrom g2' hb3⟩
  · have HGB := Lib.hid (goodB_false hg)
    clear hg
    go_enter Try.func26, Try.ntmps26
    go_wp2_with fail
    refine (voGood_any q A n cap ws _ hm (HK.out.now hb0)).mono ?_
    rintro e w1 ⟨rfl, hb⟩
    rw [HGB.out]
    go_wp2
    go_ret2
    rw [show leastBlockingL q ws n = [] from okLL_no HGB.out, HGB.out]
    exact Ans.noneSS0 (bfrom hb0 hb)
end Go.Proofs.Ytldpdjnedoflcab
