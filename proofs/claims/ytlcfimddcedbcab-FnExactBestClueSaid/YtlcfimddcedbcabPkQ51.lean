/- Texts of LK7. -/
import Derived.Test.YtlcfimddcedbcabPkQ01
import Derived.Test.YtlcfimddcedbcabPkQ50
import Derived.BigQuiet
import Derived.Deep.RegionHeld3
import Derived.Outline
namespace Go.Proofs.Ytlcfimddcedbcab
open Go.RowKit Vo

set_option maxRecDepth 20000 in
set_option maxHeartbeats 4000000 in
theorem lawBestClue (m : Int) (A : Option Addr) (n cap : Nat) (L : List Clu) (w : World) (hm : n ≤ 9223372036854775807) (hk : KCl w A n L) :
    Calls Try.prog 8 #[.agg #[.int .i64 m, .slice A n cap]] w fun e w' => e = .returned (.bool true) ∧ Below w.heap.size w w' := by
  have HK := Lib.hid hk
  have HLEN := Lib.hid hk.1
  clear hk
  have hx0 := BoxT.new 24 w (.int .i64 m) (.slice A n cap)
  have hb0 := below1 w (.cells #[.int .i64 m, .slice A n cap] 24)
  have HSZ := Lib.hid (fun W => szPuzzle_any (.int .i64 m) A n cap W hm)
  have HTO := Lib.hid (fun W hn h => toPuzzle_any m A n cap L W hn h)
  obtain ⟨r0, hr0⟩ : ∃ z, z = (bestU m L) := ⟨_, rfl⟩
  obtain ⟨r1, hr1⟩ : ∃ z, z = (bestOk m L) := ⟨_, rfl⟩
  have HSC := Lib.hid (fun (b0 : Nat) W (h : KCl W (some ⟨b0, 0, none⟩) n L) (hl : n ≤ 1048576) => sBestClue_any m _ n n L W hl (Nat.le_refl _) h)
  have HIC := Lib.hid (fun (b0 : Nat) W (h : KCl W (some ⟨b0, 0, none⟩) n L) (hl : n ≤ 1048576) => iBestClue_p m _ n n L W hl (Nat.le_refl _) h)
  rw [← hr0] at HSC HIC
  rw [← hr1] at HSC HIC
  clear hr0 hr1
  go_enter Try.func8, Try.ntmps8
  go_wp2_with fail
  refine (HSZ.out _).mono ?_
  rintro e w1 ⟨h, hb1⟩
  rcases h with rfl | ⟨hl, rfl⟩
  · go_wp2
    go_ret
    exact ⟨rfl, bfrom hb0 hb1⟩
  have hge : ¬ 1048576 - (n : Int) < 0 := by omega
  have HLL := Lib.hid (show L.length ≤ 1048576 from by rw [HLEN.out]; exact hl)
  have g1 := bfrom hb0 hb1
  have hx1 := hx0.now hb1
  obtain ⟨c0, c1⟩ := hx1.cells
  go_wp2_with fail
  refine (HTO.out _ hl (HK.out.now g1)).mono ?_
  rintro e w2 ⟨rfl, hl2, hb2⟩
  have g2 := bfrom g1 hb2
  have hx2 := hx1.now hb2
  have HL2 := Lib.hid (show KCl w2 (some ⟨w1.heap.size + 3, 0, none⟩) n L from (Lies.here hl2).kcl)
  clear hl2 c0 c1
  obtain ⟨c0, c1⟩ := hx2.cells
  go_wp2_with fail
  refine (HSC.out _ _ HL2.out hl).mono ?_
  rintro e w3 ⟨rfl, hb3⟩
  have g3 := bfrom g2 hb3
  have hx3 := hx2.now hb3
  clear c0 c1
  obtain ⟨c0, c1⟩ := hx3.cells
  go_wp2_with fail
  refine (HTO.out _ hl (HK.out.now g3)).mono ?_
  rintro e w4 ⟨rfl, hl4, hb4⟩
  have g4 := bfrom g3 hb4
  have hx4 := hx3.now hb4
  have hz4 := hl4.hi_le
  have b4 := below1 w4 (.cells #[.int .i64 m, .slice (some ⟨w3.heap.size + 3, 0, none⟩) n n] 31)
  have HI4 := Lib.hid (hl4.now b4)
  have HL4 := Lib.hid (show KCl _ (some ⟨w3.heap.size + 3, 0, none⟩) n L from ((Lies.here hl4).kcl).now b4)
  have g4a := bfrom g4 b4
  have hx4a := hx4.now b4
  have hy4 := BoxT.new 31 w4 (.int .i64 m) (.slice (some ⟨w3.heap.size + 3, 0, none⟩) n n)
  clear hl4 c0 c1
  obtain ⟨c0, c1⟩ := hx4a.cells
  go_wp2_with fail
  refine (HIC.out _ _ HL4.out hl).mono ?_
  rintro e w5 ⟨rfl, hb5⟩
  have g5 := bfrom g4a hb5
  have hx5 := hx4a.now hb5
  have hy5 := hy4.now hb5
  have HI5 := Lib.hid (HI4.out.now hb5)
  clear c0 c1
  obtain ⟨c0, c1⟩ := hx5.cells
  obtain ⟨d0, d1⟩ := hy5.cells
  have hz5 := g5.size
  have KX := Lib.hid (show ∀ W, Below w5.heap.size w5 W → W.cell? ⟨w.heap.size, 0, none⟩ = some (.int .i64 m) ∧ W.cell? ⟨w.heap.size, 1, none⟩ = some (.slice A n cap) ∧ W.cell? ⟨w4.heap.size, 0, none⟩ = some (.int .i64 m) ∧ W.cell? ⟨w4.heap.size, 1, none⟩ = some (.slice (some ⟨w3.heap.size + 3, 0, none⟩) n n) from fun W h => ⟨(hx5.now h).cells.1, (hx5.now h).cells.2, (hy5.now h).cells.1, (hy5.now h).cells.2⟩)
  have HK5 := Lib.hid (HK.out.now g5)
  clear hx0 hx1 hx2 hx3 hx4 hx4a hx5 hy4 hy5 hb0 hb1 hb2 hb3 hb4 hb5 b4 g1 g2 g3 g4 g4a HL2 HL4 HI4 hz4
  go_wp2_with fail
  go_region_held3 (fun w' => w'.cell? ⟨w.heap.size, 0, none⟩ = some (.int .i64 m) ∧ w'.cell? ⟨w.heap.size, 1, none⟩ = some (.slice A n cap) ∧ w'.cell? ⟨w4.heap.size, 0, none⟩ = some (.int .i64 m) ∧ w'.cell? ⟨w4.heap.size, 1, none⟩ = some (.slice (some ⟨w3.heap.size + 3, 0, none⟩) n n))
    (first | exact ⟨c0, c1, d0, d1⟩ | exact ⟨c60, c61, d60, d61⟩ | exact ⟨c70, c71, d70, d71⟩ | go_keep)
    (first
      | (go_at_call 16; refine (HTO.out _ hl (HK5.out.now (Below.refl _ _).drew)).mono ?_; rintro e w6 ⟨rfl, hl6, hb6⟩; have HL6 := Lib.hid hl6; clear hl6; have b6 := bfrom (Below.refl _ w5).drew hb6; obtain ⟨c60, c61, d60, d61⟩ := KX.out _ b6)
      | (go_at_call 19; refine (eqPuzzle_v m _ _ n n n _ HLL.out (HI5.out.now b6) HL6.out).mono ?_; rintro e w7 ⟨rfl, hb7⟩; have b7 := bfrom b6 hb7; obtain ⟨c70, c71, d70, d71⟩ := KX.out _ b7))
  go_wp2
  go_ret
  exact ⟨rfl, bfrom g5 b7⟩

end Go.Proofs.Ytlcfimddcedbcab
