/- The walks of exact laws of functions of a committee that answer with a game of their own. -/
import Derived.Test.YtipplbcjdcdapaaA4
import Derived.Test.YtipplbcjdcdapaaL1
import Derived.Test.YtipplbcjdcdapaaK4
namespace Go.Proofs.Ytipplbcjdcdapaa
open Go.RowKit Vo

set_option maxHeartbeats 6000000 in
theorem lawGameOf (q : Int) (A : Option Addr) (n cap : Nat) (ws : List Int) (w : World) (hm : n ≤ 9223372036854775807) (hk : Known w A n ws) :
    Calls Try.prog 3 #[.agg #[.int .i64 q, .slice A n cap]] w fun e w' => e = .returned (.bool true) ∧ Below w.heap.size w w' := by
  have HK := Lib.hid hk
  clear hk
  have hx0 := BoxT.new 24 w (.int .i64 q) (.slice A n cap)
  have hb0 := below1 w (.cells #[.int .i64 q, .slice A n cap] 24)
  by_cases hn : 1048576 < n
  · go_enter Try.func3, Try.ntmps3
    go_wp2_with fail
    refine (szCommittee_no _ A n cap _ hm hn).mono ?_
    rintro e w1 ⟨rfl, hb1⟩
    go_wp2
    go_ret
    exact ⟨rfl, bfrom hb0 hb1⟩
  have hn' : n ≤ 1048576 := by omega
  obtain ⟨L, hL⟩ : ∃ L, L = leastWinningL q ws n := ⟨_, rfl⟩
  have HLL := Lib.hid (show tot L + L.length ≤ 1048576 from by rw [hL]; exact okLL_small q ws n _)
  have HL := Lib.hid hL
  clear hL
  obtain ⟨N, hN⟩ : ∃ N : Nat, N = tot L := ⟨_, rfl⟩
  have hNm : N ≤ 1048576 := by have := HLL.out; omega
  have HN := Lib.hid hN
  clear hN
  obtain ⟨ln, hln⟩ : ∃ z : Nat, z = L.length := ⟨_, rfl⟩
  have hlnm : ln ≤ 1048576 := by have := HLL.out; omega
  have HLN := Lib.hid hln
  clear hln
  obtain ⟨mm, hmm⟩ : ∃ z : Int, z = gameM q ws n := ⟨_, rfl⟩
  have HM := Lib.hid hmm
  clear hmm
  obtain ⟨ok, hok⟩ : ∃ ok, ok = goodB q ws n := ⟨_, rfl⟩
  have HOKB := Lib.hid hok
  clear hok
  go_enter Try.func3, Try.ntmps3
  go_wp2_with fail
  refine (szCommittee_yes _ A n cap _ hn').mono ?_
  rintro e w1 ⟨rfl, hb1⟩
  have g1 := bfrom hb0 hb1
  have hx1 := hx0.now hb1
  have hz1 : w.heap.size + 1 ≤ w1.heap.size := by have := hb1.size; simpa using this
  obtain ⟨c0, c1⟩ := hx1.cells
  go_wp2_with fail
  refine (toCommittee_any q A n cap ws _ hn' (HK.out.now g1)).mono ?_
  rintro e w2 ⟨rfl, hi2, hb2⟩
  have g2 := bfrom g1 hb2
  have hx2 := hx1.now hb2
  have hi2' := Lib.hid hi2.sl
  have hz2 := hb2.size
  clear hi2 c0 c1
  obtain ⟨c0, c1⟩ := hx2.cells
  go_wp2_with fail
  refine (sGameOf_ans q _ n n ws _ hm (Known.of hi2'.out)).mono ?_
  rintro e w3 ⟨A3, cp3, rfl, hl3, hb3⟩
  rw [← HL.out, ← HLN.out] at hl3 ⊢
  rw [← HM.out, ← HOKB.out]
  have b3 := below1 w3 (.cells #[.int .i64 mm, .slice A3 ln cp3] 28)
  have HH3 := Lib.hid (hl3.now b3)
  have hw3 := BoxT.new 28 w3 (.int .i64 mm) (.slice A3 ln cp3)
  have g3 := bfrom (bfrom g2 hb3) b3
  have hx3 := (hx2.now hb3).now b3
  have hz3 := hb3.size
  clear hl3 c0 c1
  obtain ⟨c0, c1⟩ := hx3.cells
  go_wp2_with fail
  refine (toCommittee_any q A n cap ws _ hn' (HK.out.now g3)).mono ?_
  rintro e w4 ⟨rfl, hi4, hb4⟩
  simp only [World.size_alloc] at hi4
  have hz4 : w3.heap.size + 1 + 3 < w4.heap.size := hi4.lt
  have b4 := below1 w4 (.cells #[.int .i64 q, .slice (some ⟨w3.heap.size + 1 + 3, 0, none⟩) n n] 31)
  have g4 := bfrom (bfrom g3 hb4) b4
  have hx4 := (hx3.now hb4).now b4
  have hw4 := (hw3.now hb4).now b4
  have HH34 := Lib.hid ((HH3.out.now hb4).now b4)
  have hy4 := Box.new w4 (.int .i64 q) (.slice (some ⟨w3.heap.size + 1 + 3, 0, none⟩) n n)
  have hi4' := Lib.hid (Own.below hi4 b4 hi4.lt)
  clear hi4 c0 c1
  go_wp2_with fail
  refine (gameOf_ans q _ n n ws _ hm (Known.of (Ints.sl hi4'.out))).mono ?_
  rintro e w5 ⟨A5, cp5, rfl, hl5, hb5⟩
  rw [← HL.out, ← HLN.out] at hl5 ⊢
  rw [← HM.out, ← HOKB.out]
  have hz5 := hb5.size
  simp only [World.size_alloc] at hl5 hz5
  have b5 := below1 w5 (.cells #[.int .i64 mm, .slice A5 ln cp5] 28)
  have b45 := bfrom hb5 b5
  have g5 := bfrom g4 b45
  have hx5 := hx4.now b45
  have hw5 := hw4.now b45
  have hy5 := hy4.now b45
  have hv5 := BoxT.new 28 w5 (.int .i64 mm) (.slice A5 ln cp5)
  have hi5 := Lib.hid (Own.below hi4'.out b45 hi4'.out.lt)
  have HH35 := Lib.hid (HH34.out.now b45)
  have HH55 := Lib.hid (hl5.now b5)
  clear hl5 hx0 hb0 hb1 g1 hx1 hb2 g2 hx2 hi2' hb3 b3 HH3 hw3 g3 hx3 hb4 b4 g4 hx4 hw4 HH34 hy4 hi4' hb5 b5 b45
  obtain ⟨d0, d1⟩ := hw5.cells
  obtain ⟨v0, v1⟩ := hv5.cells
  go_wp2_with fail
  refine (eqGame_v mm A5 A3 ln cp5 cp3 _ HLL.out HH55.out HH35.out).mono ?_
  rintro e w6 ⟨rfl, hb6⟩
  have g6 := bfrom g5 hb6
  have hx6 := hx5.now hb6
  have hw6 := hw5.now hb6
  have hy6 := hy5.now hb6
  have hv6 := hv5.now hb6
  have hi6 := Lib.hid (Own.below hi5.out hb6 hi5.out.lt)
  have HH36 := Lib.hid (HH35.out.now hb6)
  have HH56 := Lib.hid (HH55.out.now hb6)
  have hz6 := hb6.size
  simp only [World.size_alloc] at hz6
  clear g5 hx5 hw5 hy5 hv5 hi5 HH35 HH55 hb6 d0 d1 v0 v1
  obtain ⟨c0, c1⟩ := hx6.cells
  obtain ⟨d0, d1⟩ := hy6.cells
  go_wp2_with fail
  go_region_held3 (fun w' => w'.cell? ⟨w.heap.size, 0, none⟩ = some (.int .i64 q) ∧ w'.cell? ⟨w.heap.size, 1, none⟩ = some (.slice A n cap) ∧ w'.cell? ⟨w4.heap.size, 0, none⟩ = some (.int .i64 q) ∧ w'.cell? ⟨w4.heap.size, 1, none⟩ = some (.slice (some ⟨w3.heap.size + 1 + 3, 0, none⟩) n n))
    (first | exact ⟨c0, c1, d0, d1⟩ | exact ⟨c80, c81, d80, d81⟩ | exact ⟨c90, c91, d90, d91⟩ | go_keep)
    (first
      | (go_at_call 17; refine (toCommittee_any q A n cap ws _ hn' (HK.out.now g6.drew)).mono ?_; rintro e w7 ⟨rfl, hi7, hb7⟩; have hi7' := Lib.hid hi7; clear hi7; obtain ⟨c80, c81⟩ := (hx6.drew.now hb7).cells; obtain ⟨d80, d81⟩ := (hy6.drew.now hb7).cells)
      | (go_at_call 20; refine (eqCommittee_same q _ _ n n _ _ n ws _ hm ((Ints.sl hi6.out).drew.now hb7) hi7'.out.sl).mono ?_; rintro e w8 ⟨rfl, hb8⟩; obtain ⟨c90, c91⟩ := ((hx6.drew.now hb7).now hb8).cells; obtain ⟨d90, d91⟩ := ((hy6.drew.now hb7).now hb8).cells))
  have b68 := bfrom hb7 hb8
  have g8 := bfrom g6.drew b68
  have hx8 := hx6.drew.now b68
  have hw8 := hw6.drew.now b68
  have hy8 := hy6.drew.now b68
  have hv8 := hv6.drew.now b68
  have hi8 := Lib.hid (Own.below (Own.drew hi6.out) b68 (Own.drew hi6.out).lt)
  have HH38 := Lib.hid (HH36.out.drew.now b68)
  have HH58 := Lib.hid (HH56.out.drew.now b68)
  have hz8 : w6.heap.size ≤ w8.heap.size := b68.size
  clear c0 c1 d0 d1 c80 c81 d80 d81 c90 c91 d90 d91 hx6 hw6 hy6 hv6 hi6 HH36 HH56 hb7 hb8 b68 g6 hi7'
  obtain ⟨d0, d1⟩ := hy8.cells
  go_wp2_with fail
  refine (markCommittee_any _ _ n n _ hn' (Or.inr ⟨_, _, rfl, hi8.out⟩)).mono ?_
  rintro e w9 ⟨rfl, ho9⟩
  have t9 : Turn (w3.heap.size + 1 + 3) (w3.heap.size + 1 + 4) w8 w9 := Turn.of_grown ho9 (fun k hk => by simp at hk; omega)
  have g9 := Turn.below g8 t9 (by omega) (by omega)
  have hx9 := hx8.turn t9 (by omega)
  have hw9 := hw8.turn t9 (by omega)
  have hv9 := hv8.turn t9 (by omega)
  have HH59 := Lib.hid (HH58.out.turn t9 (by omega))
  have HH39 := Lib.hid (HH38.out.turn t9 (by omega))
  have hz9 := t9.size
  clear ho9 t9 hx8 hw8 hy8 hv8 hi8 HH38 HH58 g8 d0 d1
  obtain ⟨d0, d1⟩ := hw9.cells
  obtain ⟨v0, v1⟩ := hv9.cells
  go_wp2_with fail
  refine (eqGame_v mm A5 A3 ln cp5 cp3 _ HLL.out HH59.out HH39.out).mono ?_
  rintro e w10 ⟨rfl, hb10⟩
  have g10 := bfrom g9 hb10
  have hx10 := hx9.now hb10
  have hw10 := hw9.now hb10
  have hv10 := hv9.now hb10
  have HH510 := Lib.hid (HH59.out.now hb10)
  have HH310 := Lib.hid (HH39.out.now hb10)
  have hz10 := hb10.size
  clear hx9 hw9 hv9 HH59 HH39 hb10 g9 d0 d1 v0 v1
  obtain ⟨v0, v1⟩ := hv10.cells
  go_wp2_with fail
  refine (markGame_v mm A5 ln cp5 _ HLL.out HH510.out).mono ?_
  rw [← HN.out]
  rintro e w11 ⟨rfl, t11, hmk⟩
  have hh11 := HH510.out.hi_le
  have hz11 := t11.size
  have HMK := Lib.hid (hmk.lies (by omega))
  have g11 := Turn.below g10 t11 (by omega) (by omega)
  have hx11 := hx10.turn t11 (by omega)
  have hw11 := hw10.turn t11 (by omega)
  have hv11 := hv10.turn t11 (by omega)
  have HH311 := Lib.hid (HH310.out.turn t11 (by omega))
  clear hmk t11 hx10 hw10 hv10 HH510 HH310 g10 hh11 v0 v1
  obtain ⟨v0, v1⟩ := hv11.cells
  go_wp2_with fail
  refine (heldGame_v mm A5 ln cp5 _ HLL.out HMK.out).mono ?_
  rw [← HN.out]
  rintro e w12 ⟨rfl, hb12⟩
  have g12 := bfrom g11 hb12
  have hx12 := hx11.now hb12
  have hw12 := hw11.now hb12
  have hv12 := hv11.now hb12
  have HH312 := Lib.hid (HH311.out.now hb12)
  have HMK12 := Lib.hid (HMK.out.now hb12)
  clear g11 hx11 hw11 hv11 HH311 HMK hb12 v0 v1
  obtain ⟨c0, c1⟩ := hx12.cells
  go_wp2_with fail
  refine (toCommittee_any q A n cap ws _ hn' (HK.out.now g12)).mono ?_
  rintro e w13 ⟨rfl, hi13, hb13⟩
  have hs13 := Lib.hid hi13.sl
  clear hi13 c0 c1
  go_wp2_with fail
  refine (gameOf_ans q _ n n ws _ hm (Known.of hs13.out)).mono ?_
  rintro e w14 ⟨A14, cp14, rfl, hl14, hb14⟩
  rw [← HL.out, ← HLN.out] at hl14 ⊢
  rw [← HM.out, ← HOKB.out]
  have b14 := below1 w14 (.cells #[.int .i64 mm, .slice A14 ln cp14] 28)
  have b124 := bfrom (bfrom hb13 hb14) b14
  have g14 := bfrom g12 b124
  have HH14 := Lib.hid (hl14.now b14)
  have HH314 := Lib.hid (HH312.out.now b124)
  have HMK14 := Lib.hid (HMK12.out.now b124)
  have hw14 := hw12.now b124
  have hv14 := hv12.now b124
  have hu14 := BoxT.new 28 w14 (.int .i64 mm) (.slice A14 ln cp14)
  clear hl14 hb13 hb14 b14 b124 g12 hx12 hw12 hv12 HH312 HMK12
  obtain ⟨d0, d1⟩ := hw14.cells
  obtain ⟨u0, u1⟩ := hu14.cells
  go_wp2_with fail
  refine (eqGame_v mm A14 A3 ln cp14 cp3 _ HLL.out HH14.out HH314.out).mono ?_
  rintro e w15 ⟨rfl, hb15⟩
  have g15 := bfrom g14 hb15
  have HMK15 := Lib.hid (HMK14.out.now hb15)
  have hv15 := hv14.now hb15
  clear d0 d1 u0 u1
  obtain ⟨v0, v1⟩ := hv15.cells
  go_wp2_with fail
  refine (heldGame_v mm A5 ln cp5 _ HLL.out HMK15.out).mono ?_
  rw [← HN.out]
  rintro e w16 ⟨rfl, hb16⟩
  go_wp2
  go_ret
  exact ⟨rfl, bfrom g15 hb16⟩

end Go.Proofs.Ytipplbcjdcdapaa
