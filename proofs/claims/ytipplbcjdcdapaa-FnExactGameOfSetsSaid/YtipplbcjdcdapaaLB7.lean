/- The walk of the exact law of GameOfSets. -/
import Derived.Test.YtipplbcjdcdapaaJc
import Derived.Test.YtipplbcjdcdapaaL1
import Derived.Test.YtipplbcjdcdapaaK4
namespace Go.Proofs.Ytipplbcjdcdapaa
open Go.RowKit Vo

set_option maxRecDepth 20000 in
set_option maxHeartbeats 6000000 in
theorem lawGameOfSets (m : Int) (A : Option Addr) (n cap : Nat) (L : List (List Int)) (w : World) (_hmw : (Lit.int .i64 m).wf = true) (hm : n ≤ 9223372036854775807) (hk : KSS w A n L) :
    Calls Try.prog 4 #[.int .i64 m, .slice A n cap] w fun e w' => e = .returned (.bool true) ∧ Below w.heap.size w w' := by
  have HK := Lib.hid hk
  have HLEN := Lib.hid hk.1
  clear hk
  have HSZ := Lib.hid (fun W h => szIntSS_any A n cap L 1048576 W (by omega) (by omega) hm h)
  have HTO := Lib.hid (fun W hn h => toIntSS_any A n cap L W hn h)
  have HTL := Lib.hid (fun (hn : n + tot L ≤ 1048576) => (show tot L + L.length ≤ 1048576 from by rw [HLEN.out]; omega))
  obtain ⟨T, hT⟩ : ∃ T, T = tot L := ⟨_, rfl⟩
  rw [← hT] at HSZ HTO
  have HTT := Lib.hid hT
  clear hT
  obtain ⟨M, hM⟩ : ∃ M, M = okG (setsB m L 50) (ofSets L) := ⟨_, rfl⟩
  have HLM := Lib.hid (show tot M + M.length ≤ 1048576 from by rw [hM]; exact okG_few (fun h => ofSets_len h))
  have HM := Lib.hid hM
  clear hM
  obtain ⟨N, hN⟩ : ∃ N : Nat, N = tot M := ⟨_, rfl⟩
  have hNm : N ≤ 1048576 := by have := HLM.out; omega
  have HN := Lib.hid hN
  clear hN
  obtain ⟨ln, hln⟩ : ∃ z : Nat, z = M.length := ⟨_, rfl⟩
  have hlnm : ln ≤ 1048576 := by have := HLM.out; omega
  have HLN := Lib.hid hln
  clear hln
  obtain ⟨mm, hmm⟩ : ∃ z : Int, z = okM (setsB m L 50) m := ⟨_, rfl⟩
  have HMM := Lib.hid hmm
  clear hmm
  obtain ⟨ok, hok⟩ : ∃ ok, ok = setsB m L 50 := ⟨_, rfl⟩
  have HOKB := Lib.hid hok
  clear hok
  go_enter Try.func4, Try.ntmps4
  go_wp2_with fail
  refine (HSZ.out _ HK.out).mono ?_
  rintro e w1 ⟨h, rfl⟩
  rcases h with rfl | ⟨hle, rfl⟩
  · go_wp2
    go_ret
    exact ⟨rfl, Below.refl _ _⟩
  have hge : ¬ 1048576 - (n : Int) - (T : Int) < 0 := by omega
  have hnt : n + T ≤ 1048576 := by omega
  have hl : n ≤ 1048576 := by omega
  have hTm : T ≤ 1048576 := by omega
  have HLL := Lib.hid (HTL.out (by rw [← HTT.out]; exact hnt))
  go_wp2_with fail
  refine (HTO.out _ hnt HK.out).mono ?_
  rintro e w2 ⟨rfl, hl2, hb2⟩
  have hz2 := hb2.size
  have HL2 := Lib.hid (show Lists w2 (some ⟨w.heap.size, 0, none⟩) n L from (RSS.weak (Lies.here hl2)).lists HLEN.out HLL.out)
  clear hl2
  go_wp2_with fail
  refine (sGameOfSets_any m _ n n L _ hl HL2.out).mono ?_
  rintro e w3 ⟨A3, cp3, rfl, hl3, hb3⟩
  rw [← HM.out, ← HLN.out] at hl3 ⊢
  rw [← HMM.out, ← HOKB.out]
  have b3 := below1 w3 (.cells #[.int .i64 mm, .slice A3 ln cp3] 28)
  have HH3 := Lib.hid (hl3.now b3)
  have hw3 := BoxT.new 28 w3 (.int .i64 mm) (.slice A3 ln cp3)
  have g3 := bfrom (bfrom hb2 hb3) b3
  have hz3 := hb3.size
  clear hl3
  go_wp2_with fail
  refine (HTO.out _ hnt (HK.out.now g3)).mono ?_
  rintro e w4 ⟨rfl, hl4, hb4⟩
  simp only [World.size_alloc] at hl4
  have hz4 := hl4.hi_le
  have hz4' := hb4.size
  simp only [World.size_alloc] at hz4'
  have g4 := bfrom g3 hb4
  have hw4 := hw3.now hb4
  have HH34 := Lib.hid (HH3.out.now hb4)
  have HI4 := Lib.hid hl4
  have HL4 := Lib.hid (show Lists w4 (some ⟨w3.heap.size + 1, 0, none⟩) n L from (RSS.weak (Lies.here hl4)).lists HLEN.out HLL.out)
  clear hl4
  go_wp2_with fail
  refine (iGameOfSets_any m _ n n L _ hl HL4.out).mono ?_
  rintro e w5 ⟨A5, cp5, rfl, hl5, hb5⟩
  rw [← HM.out, ← HLN.out] at hl5 ⊢
  rw [← HMM.out, ← HOKB.out]
  have hz5 := hb5.size
  have b5 := below1 w5 (.cells #[.int .i64 mm, .slice A5 ln cp5] 28)
  have b45 := bfrom hb5 b5
  have HH5 := Lib.hid (hl5.now b5)
  have hv5 := BoxT.new 28 w5 (.int .i64 mm) (.slice A5 ln cp5)
  have hw5 := hw4.now b45
  have g5 := bfrom g4 b45
  have HI5 := Lib.hid (HI4.out.now b45)
  have HH35 := Lib.hid (HH34.out.now b45)
  clear hl5 hb2 hb3 HH3 g3 hb4 g4 HH34 hb5 b45 HL2 HL4 HI4 b3 hw3 hw4 b5
  obtain ⟨d0, d1⟩ := hw5.cells
  obtain ⟨v0, v1⟩ := hv5.cells
  go_wp2_with fail
  refine (eqGame_v mm A5 A3 ln cp5 cp3 _ HLM.out HH5.out HH35.out).mono ?_
  rintro e w6 ⟨rfl, hb6⟩
  have g6 := bfrom g5 hb6
  have HI6 := Lib.hid (HI5.out.now hb6)
  have HH36 := Lib.hid (HH35.out.now hb6)
  have HH56 := Lib.hid (HH5.out.now hb6)
  have hw6 := hw5.now hb6
  have hv6 := hv5.now hb6
  have hz6 := hb6.size
  simp only [World.size_alloc] at hz6
  clear g5 HI5 HH35 HH5 hb6 hw5 hv5 d0 d1 v0 v1
  go_wp2_with fail
  refine (HTO.out _ hnt (HK.out.now g6)).mono ?_
  rintro e w7 ⟨rfl, hl7, hb7⟩
  have HL7 := Lib.hid hl7.rss0
  clear hl7
  go_wp2_with fail
  refine (eqIntSS_v _ HLL.out (HI6.out.now hb7) HL7.out).mono ?_
  rintro e w8 ⟨rfl, hb8⟩
  have b68 := bfrom hb7 hb8
  have g8 := bfrom g6 b68
  have HI8 := Lib.hid (HI6.out.now b68)
  have HH38 := Lib.hid (HH36.out.now b68)
  have HH58 := Lib.hid (HH56.out.now b68)
  have hw8 := hw6.now b68
  have hv8 := hv6.now b68
  have hz8 : w6.heap.size ≤ w8.heap.size := b68.size
  clear HI6 HH36 HH56 hb7 hb8 b68 g6 HL7 hw6 hv6
  go_wp2_with fail
  refine (markIntSS_v _ HLL.out HI8.out).mono ?_
  rw [← HTT.out]
  rintro e w9 ⟨rfl, t9, _⟩
  have hk0 : ¬ (1 + (T : Int)) < 0 := by omega
  have g9 := Turn.below g8 t9 (by omega) (by omega)
  have hw9 := hw8.turn t9 (by omega)
  have hv9 := hv8.turn t9 (by omega)
  have HH59 := Lib.hid (HH58.out.turn t9 (by omega))
  have HH39 := Lib.hid (HH38.out.turn t9 (by omega))
  have hz9 := t9.size
  clear t9 HI8 HH38 HH58 g8 hw8 hv8
  obtain ⟨d0, d1⟩ := hw9.cells
  obtain ⟨v0, v1⟩ := hv9.cells
  go_wp2_with fail
  refine (eqGame_v mm A5 A3 ln cp5 cp3 _ HLM.out HH59.out HH39.out).mono ?_
  rintro e w10 ⟨rfl, hb10⟩
  have g10 := bfrom g9 hb10
  have hw10 := hw9.now hb10
  have hv10 := hv9.now hb10
  have HH510 := Lib.hid (HH59.out.now hb10)
  have HH310 := Lib.hid (HH39.out.now hb10)
  have hz10 := hb10.size
  clear HH59 HH39 hb10 g9 hw9 hv9 d0 d1 v0 v1
  obtain ⟨v0, v1⟩ := hv10.cells
  go_wp2_with fail
  refine (markGame_v mm A5 ln cp5 _ HLM.out HH510.out).mono ?_
  rw [← HN.out]
  rintro e w11 ⟨rfl, t11, hmk⟩
  have hh11 := HH510.out.hi_le
  have hz11 := t11.size
  have HMK := Lib.hid (hmk.lies (by omega))
  have g11 := Turn.below g10 t11 (by omega) (by omega)
  have hw11 := hw10.turn t11 (by omega)
  have hv11 := hv10.turn t11 (by omega)
  have HH311 := Lib.hid (HH310.out.turn t11 (by omega))
  clear hmk t11 HH510 HH310 g10 hh11 hw10 hv10 v0 v1
  obtain ⟨v0, v1⟩ := hv11.cells
  go_wp2_with fail
  refine (heldGame_v mm A5 ln cp5 _ HLM.out HMK.out).mono ?_
  rw [← HN.out]
  rintro e w12 ⟨rfl, hb12⟩
  have g12 := bfrom g11 hb12
  have hw12 := hw11.now hb12
  have hv12 := hv11.now hb12
  have HH312 := Lib.hid (HH311.out.now hb12)
  have HMK12 := Lib.hid (HMK.out.now hb12)
  clear g11 HH311 HMK hb12 hw11 hv11 v0 v1
  go_wp2_with fail
  refine (HTO.out _ hnt (HK.out.now g12)).mono ?_
  rintro e w13 ⟨rfl, hl13, hb13⟩
  have HL13 := Lib.hid (show Lists w13 (some ⟨w12.heap.size, 0, none⟩) n L from (RSS.weak (Lies.here hl13)).lists HLEN.out HLL.out)
  clear hl13
  go_wp2_with fail
  refine (iGameOfSets_any m _ n n L _ hl HL13.out).mono ?_
  rintro e w14 ⟨A14, cp14, rfl, hl14, hb14⟩
  rw [← HM.out, ← HLN.out] at hl14 ⊢
  rw [← HMM.out, ← HOKB.out]
  have b14 := below1 w14 (.cells #[.int .i64 mm, .slice A14 ln cp14] 28)
  have b124 := bfrom (bfrom hb13 hb14) b14
  have HH14 := Lib.hid (hl14.now b14)
  have hw14 := hw12.now b124
  have hv14 := hv12.now b124
  have hu14 := BoxT.new 28 w14 (.int .i64 mm) (.slice A14 ln cp14)
  have g14 := bfrom g12 b124
  have HH314 := Lib.hid (HH312.out.now b124)
  have HMK14 := Lib.hid (HMK12.out.now b124)
  clear hl14 hb13 hb14 b124 g12 HH312 HMK12 HL13 b14 hw12 hv12
  obtain ⟨d0, d1⟩ := hw14.cells
  obtain ⟨u0, u1⟩ := hu14.cells
  go_wp2_with fail
  refine (eqGame_v mm A14 A3 ln cp14 cp3 _ HLM.out HH14.out HH314.out).mono ?_
  rintro e w15 ⟨rfl, hb15⟩
  have g15 := bfrom g14 hb15
  have HMK15 := Lib.hid (HMK14.out.now hb15)
  have hv15 := hv14.now hb15
  clear d0 d1 u0 u1
  obtain ⟨v0, v1⟩ := hv15.cells
  go_wp2_with fail
  refine (heldGame_v mm A5 ln cp5 _ HLM.out HMK15.out).mono ?_
  rw [← HN.out]
  rintro e w16 ⟨rfl, hb16⟩
  go_wp2
  go_ret
  exact ⟨rfl, bfrom g15 hb16⟩
end Go.Proofs.Ytipplbcjdcdapaa
