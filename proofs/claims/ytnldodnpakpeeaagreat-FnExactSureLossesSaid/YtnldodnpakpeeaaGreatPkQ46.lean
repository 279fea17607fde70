/- Texts of LK9. -/
import Derived.Test.YtnldodnpakpeeaaGreatPkQ01
import Derived.Test.YtnldodnpakpeeaaGreatPkQ45
import Derived.BigQuiet
import Derived.Deep.RegionHeld3
import Derived.Outline
namespace Go.Proofs.YtnldodnpakpeeaaGreat
open Go.RowKit Vo

set_option maxRecDepth 20000 in
set_option maxHeartbeats 6000000 in
theorem lawSureLosses (m : Int) (A : Option Addr) (n cap : Nat) (L : List Clu) (w : World) (hm : n ≤ 9223372036854775807) (hk : KCl w A n L) :
    Calls Tryz.prog 3 #[.agg #[.int .i64 m, .slice A n cap]] w fun e w' => e = .returned (.bool true) ∧ Below w.heap.size w w' := by
  have HK := Lib.hid hk
  have HLEN := Lib.hid hk.1
  clear hk
  have hx0 := BoxT.new 24 w (.int .i64 m) (.slice A n cap)
  have hb0 := below1 w (.cells #[.int .i64 m, .slice A n cap] 24)
  have HSZ := Lib.hid (fun W => szPuzzle_any (.int .i64 m) A n cap W hm)
  have HTO := Lib.hid (fun W hn h => toPuzzle_any m A n cap L W hn h)
  obtain ⟨M, hM⟩ : ∃ M, M = sureL (fun L s => winS L s == false) m L := ⟨_, rfl⟩
  have HLM := Lib.hid (show tot M + M.length ≤ 1048576 from by rw [hM]; exact sureL_few _ m L)
  have HM := Lib.hid hM
  clear hM
  obtain ⟨N, hN⟩ : ∃ N : Nat, N = tot M := ⟨_, rfl⟩
  have hNm : N ≤ 3145728 := by have := HLM.out; omega
  have HN := Lib.hid hN
  clear hN
  obtain ⟨ok, hok⟩ : ∃ ok, ok = fsOk m L := ⟨_, rfl⟩
  have HOKB := Lib.hid hok
  clear hok
  go_enter Tryz.func3, Tryz.ntmps3
  go_wp2_with fail
  refine (HSZ.out _).mono ?_
  rintro e w1 ⟨h, hb1⟩
  rcases h with rfl | ⟨hl, rfl⟩
  · go_wp2
    go_ret
    exact ⟨rfl, bfrom hb0 hb1⟩
  have hge : ¬ 1048576 - (n : Int) < 0 := by omega
  have HLL := Lib.hid (show L.length ≤ 1048576 from by rw [HLEN.out]; exact hl)
  have g1 := bfrom hb0 hb1
  have hx1 := hx0.now hb1
  have hz1 : w.heap.size + 1 ≤ w1.heap.size := by have := hb1.size; simpa using this
  obtain ⟨c0, c1⟩ := hx1.cells
  go_wp2_with fail
  refine (HTO.out _ hl (HK.out.now g1)).mono ?_
  rintro e w2 ⟨rfl, hl2, hb2⟩
  have g2 := bfrom g1 hb2
  have hx2 := hx1.now hb2
  have hz2 := hb2.size
  have HL2 := Lib.hid (show KCl w2 (some ⟨w1.heap.size + 3, 0, none⟩) n L from (Lies.here hl2).kcl)
  clear hl2 c0 c1
  obtain ⟨c0, c1⟩ := hx2.cells
  go_wp2_with fail
  refine (sSureLosses_p m _ n n L _ hl (Nat.le_refl _) HL2.out).mono ?_
  rintro e w3 ⟨v3, rfl, hl3, hb3⟩
  rw [← HM.out] at hl3
  rw [← HOKB.out]
  have HH3 := Lib.hid hl3
  have g3 := bfrom g2 hb3
  have hx3 := hx2.now hb3
  have hz3 := hb3.size
  clear hl3 c0 c1
  obtain ⟨c0, c1⟩ := hx3.cells
  go_wp2_with fail
  refine (HTO.out _ hl (HK.out.now g3)).mono ?_
  rintro e w4 ⟨rfl, hl4, hb4⟩
  have hz4 := hl4.hi_le
  have hz4' := hb4.size
  have b4 := below1 w4 (.cells #[.int .i64 m, .slice (some ⟨w3.heap.size + 3, 0, none⟩) n n] 31)
  have g4 := bfrom (bfrom g3 hb4) b4
  have hx4 := (hx3.now hb4).now b4
  have HH34 := Lib.hid ((HH3.out.now hb4).now b4)
  have hy4 := BoxT.new 31 w4 (.int .i64 m) (.slice (some ⟨w3.heap.size + 3, 0, none⟩) n n)
  have HI4 := Lib.hid (hl4.now b4)
  have HL4 := Lib.hid (show KCl _ (some ⟨w3.heap.size + 3, 0, none⟩) n L from ((Lies.here hl4).kcl).now b4)
  clear hl4 c0 c1
  go_wp2_with fail
  refine (iSureLosses_p m _ n n L _ hl (Nat.le_refl _) HL4.out).mono ?_
  rintro e w5 ⟨v5, rfl, hl5, hb5⟩
  rw [← HM.out] at hl5
  rw [← HOKB.out]
  have hz5 := hb5.size
  simp only [World.size_alloc] at hl5 hz5
  have b45 := hb5
  have HH5 := Lib.hid hl5
  have g5 := bfrom g4 b45
  have hx5 := hx4.now b45
  have hy5 := hy4.now b45
  have HI5 := Lib.hid (HI4.out.now b45)
  have HH35 := Lib.hid (HH34.out.now b45)
  clear hl5 hx0 hb0 hb1 g1 hx1 hb2 g2 hx2 hb3 HH3 g3 hx3 hb4 b4 g4 hx4 hy4 HH34 hb5 b45 HL2 HL4 HI4 
  go_wp2_with fail
  refine (eqIntSS_v _ HLM.out HH5.out HH35.out).mono ?_
  rintro e w6 ⟨rfl, hb6⟩
  have g6 := bfrom g5 hb6
  have hx6 := hx5.now hb6
  have hy6 := hy5.now hb6
  have HI6 := Lib.hid (HI5.out.now hb6)
  have HH36 := Lib.hid (HH35.out.now hb6)
  have HH56 := Lib.hid (HH5.out.now hb6)
  have hz6 := hb6.size
  clear g5 hx5 hy5 HI5 HH35 HH5 hb6 
  obtain ⟨c0, c1⟩ := hx6.cells
  obtain ⟨d0, d1⟩ := hy6.cells
  go_wp2_with fail
  go_region_held3 (fun w' => w'.cell? ⟨w.heap.size, 0, none⟩ = some (.int .i64 m) ∧ w'.cell? ⟨w.heap.size, 1, none⟩ = some (.slice A n cap) ∧ w'.cell? ⟨w4.heap.size, 0, none⟩ = some (.int .i64 m) ∧ w'.cell? ⟨w4.heap.size, 1, none⟩ = some (.slice (some ⟨w3.heap.size + 3, 0, none⟩) n n))
    (first | exact ⟨c0, c1, d0, d1⟩ | exact ⟨c80, c81, d80, d81⟩ | exact ⟨c90, c91, d90, d91⟩ | go_keep)
    (first
      | (go_at_call 6; refine (HTO.out _ hl (HK.out.now g6.drew)).mono ?_; rintro e w7 ⟨rfl, hl7, hb7⟩; have HL7 := Lib.hid hl7; clear hl7; obtain ⟨c80, c81⟩ := (hx6.drew.now hb7).cells; obtain ⟨d80, d81⟩ := (hy6.drew.now hb7).cells)
      | (go_at_call 9; refine (eqPuzzle_v m _ _ n n n _ HLL.out (HI6.out.drew.now hb7) HL7.out).mono ?_; rintro e w8 ⟨rfl, hb8⟩; obtain ⟨c90, c91⟩ := ((hx6.drew.now hb7).now hb8).cells; obtain ⟨d90, d91⟩ := ((hy6.drew.now hb7).now hb8).cells))
  have b68 := bfrom hb7 hb8
  have g8 := bfrom g6.drew b68
  have hx8 := hx6.drew.now b68
  have hy8 := hy6.drew.now b68
  have HI8 := Lib.hid (HI6.out.drew.now b68)
  have HH38 := Lib.hid (HH36.out.drew.now b68)
  have HH58 := Lib.hid (HH56.out.drew.now b68)
  have hz8 : w6.heap.size ≤ w8.heap.size := b68.size
  clear c0 c1 d0 d1 c80 c81 d80 d81 c90 c91 d90 d91 hx6 hy6 HI6 HH36 HH56 hb7 hb8 b68 g6 HL7 
  obtain ⟨d0, d1⟩ := hy8.cells
  go_wp2_with fail
  refine (markPuzzle_v m _ n n _ HLL.out HI8.out).mono ?_
  rw [HLEN.out]
  rintro e w9 ⟨rfl, t9, _⟩
  have hk0 : ¬ (1 + ((3 * n : Nat) : Int)) < 0 := by omega
  have g9 := Turn.below g8 t9 (by omega) (by omega)
  have hx9 := hx8.turn t9 (by omega)
  have HH59 := Lib.hid (HH58.out.turn t9 (by omega))
  have HH39 := Lib.hid (HH38.out.turn t9 (by omega))
  have hz9 := t9.size
  clear t9 hx8 hy8 HI8 HH38 HH58 g8 d0 d1 
  go_wp2_with fail
  refine (eqIntSS_v _ HLM.out HH59.out HH39.out).mono ?_
  rintro e w10 ⟨rfl, hb10⟩
  have g10 := bfrom g9 hb10
  have hx10 := hx9.now hb10
  have HH510 := Lib.hid (HH59.out.now hb10)
  have HH310 := Lib.hid (HH39.out.now hb10)
  have hz10 := hb10.size
  clear hx9 HH59 HH39 hb10 g9 
  go_wp2_with fail
  refine (markIntSS_v _ HLM.out HH510.out).mono ?_
  rw [← HN.out]
  rintro e w11 ⟨rfl, t11, hmk⟩
  have hh11 := HH510.out.hi_le
  have hz11 := t11.size
  have HMK := Lib.hid (hmk.lies (by omega))
  have g11 := Turn.below g10 t11 (by omega) (by omega)
  have hx11 := hx10.turn t11 (by omega)
  have HH311 := Lib.hid (HH310.out.turn t11 (by omega))
  clear hmk t11 hx10 HH510 HH310 g10 hh11 
  go_wp2_with fail
  refine (heldIntSS_v _ HLM.out HMK.out).mono ?_
  rw [← HN.out]
  rintro e w12 ⟨rfl, hb12⟩
  have g12 := bfrom g11 hb12
  have hx12 := hx11.now hb12
  have HH312 := Lib.hid (HH311.out.now hb12)
  have HMK12 := Lib.hid (HMK.out.now hb12)
  clear g11 hx11 HH311 HMK hb12 
  obtain ⟨c0, c1⟩ := hx12.cells
  go_wp2_with fail
  refine (HTO.out _ hl (HK.out.now g12)).mono ?_
  rintro e w13 ⟨rfl, hl13, hb13⟩
  have HL13 := Lib.hid (show KCl w13 (some ⟨w12.heap.size + 3, 0, none⟩) n L from (Lies.here hl13).kcl)
  clear hl13 c0 c1
  go_wp2_with fail
  refine (iSureLosses_p m _ n n L _ hl (Nat.le_refl _) HL13.out).mono ?_
  rintro e w14 ⟨v14, rfl, hl14, hb14⟩
  rw [← HM.out] at hl14
  rw [← HOKB.out]
  have b124 := bfrom hb13 hb14
  have HH14 := Lib.hid hl14
  have g14 := bfrom g12 b124
  have HH314 := Lib.hid (HH312.out.now b124)
  have HMK14 := Lib.hid (HMK12.out.now b124)
  clear hl14 hb13 hb14 b124 g12 hx12 HH312 HMK12 HL13 
  go_wp2_with fail
  refine (eqIntSS_v _ HLM.out HH14.out HH314.out).mono ?_
  rintro e w15 ⟨rfl, hb15⟩
  have g15 := bfrom g14 hb15
  have HMK15 := Lib.hid (HMK14.out.now hb15)
  go_wp2_with fail
  refine (heldIntSS_v _ HLM.out HMK15.out).mono ?_
  rw [← HN.out]
  rintro e w16 ⟨rfl, hb16⟩
  go_wp2
  go_ret
  exact ⟨rfl, bfrom g15 hb16⟩

end Go.Proofs.YtnldodnpakpeeaaGreat
