/- The walk of the exact law of IsDesk. -/
import Derived.Test.YtlcfimddcedbcaaTa
import Derived.BigQuiet
import Derived.Deep.RegionHeld3
import Derived.Outline
namespace Go.Proofs.Ytlcfimddcedbcaa
open Go.RowKit Vo

set_option maxRecDepth 20000 in
set_option maxHeartbeats 4000000 in
theorem lawIsDesk (q : Int) (A : Option Addr) (n cap : Nat) (ws : List Int) (m : Int) (B : Option Addr) (k cp : Nat) (L : List (List Int)) (w : World) (hm : n ≤ 9223372036854775807) (hm2 : k ≤ 9223372036854775807) (hk : Known w A n ws) (hk2 : KSS w B k L) :
    Calls Try.prog 4 #[.agg #[.int .i64 q, .slice A n cap, .int .i64 m, .slice B k cp]] w fun e w' => e = .returned (.bool true) ∧ Below w.heap.size w w' := by
  have HK := Lib.hid hk
  have HKK := Lib.hid hk2
  have HLEN := Lib.hid hk2.1
  clear hk hk2
  have hx0 := Bx4.new 37 w (.int .i64 q) (.slice A n cap) (.int .i64 m) (.slice B k cp)
  have hb0 := below1 w (.cells #[.int .i64 q, .slice A n cap, .int .i64 m, .slice B k cp] 37)
  have HSZ := Lib.hid (fun W (h : Below w.heap.size w W) => szDesk_any q A n cap m B k cp L W hm hm2 (HKK.out.now h))
  have HTO := Lib.hid (fun W hn hk (h : Below w.heap.size w W) => toDesk_any q A n cap ws m B k cp L W hn hk (HK.out.now h) (HKK.out.now h))
  obtain ⟨c0, c1, c2, c3⟩ := hx0.cells
  go_enter Try.func4, Try.ntmps4
  go_wp2_with fail
  refine (HSZ.out _ hb0).mono ?_
  rintro e w1 ⟨h, hb1⟩
  rcases h with rfl | ⟨hle, rfl⟩
  · go_wp2
    go_ret
    exact ⟨rfl, bfrom hb0 hb1⟩
  have hn' : n ≤ 1048576 := by omega
  have hkt : k + tot L ≤ 1048576 := by omega
  have hl : k ≤ 1048576 := by omega
  have HLL := Lib.hid (show tot L + L.length ≤ 1048576 from by rw [HLEN.out]; omega)
  obtain ⟨T, hT⟩ : ∃ T, T = tot L := ⟨_, rfl⟩
  rw [← hT] at hle ⊢
  have hge : ¬ 1048576 - (n : Int) - (k : Int) - (T : Int) < 0 := by omega
  clear hT
  have g1 := bfrom hb0 hb1
  have hx1 := hx0.now hb1
  clear c0 c1 c2 c3
  obtain ⟨c0, c1, c2, c3⟩ := hx1.cells
  go_wp2_with fail
  refine (HTO.out _ hn' hkt g1).mono ?_
  rintro e w2 ⟨a2, b2, rfl, ha2, hab2, hi2, hl2, hb2⟩
  have g2 := bfrom g1 hb2
  have hx2 := hx1.now hb2
  have HK2 := Lib.hid (Known.of (Ints.sl hi2))
  have HL2 := Lib.hid ((RSS.weak (Lies.here hl2)).listsR HLEN.out HLL.out hl2.hi_le)
  clear hi2 hl2 c0 c1 c2 c3
  obtain ⟨c0, c1, c2, c3⟩ := hx2.cells
  go_wp2_with fail
  refine (sIsDesk_any q _ n n ws m _ k k L _ hm HK2.out hl (Nat.le_refl _) HL2.out).mono ?_
  rintro e w3 ⟨rfl, hb3⟩
  have g3 := bfrom g2 hb3
  have hx3 := hx2.now hb3
  clear c0 c1 c2 c3
  obtain ⟨c0, c1, c2, c3⟩ := hx3.cells
  go_wp2_with fail
  refine (HTO.out _ hn' hkt g3).mono ?_
  rintro e w4 ⟨a4, d4, rfl, ha4, hab4, hi4, hl4, hb4⟩
  have g4 := bfrom g3 hb4
  have hx4 := hx3.now hb4
  have b4 := below1 w4 (.cells #[.int .i64 q, .slice (some ⟨a4, 0, none⟩) n n, .int .i64 m, .slice (some ⟨d4, 0, none⟩) k k] 29)
  have hl4a := hl4.now b4
  have HI4 := Lib.hid (hl4a)
  have HS4 := Lib.hid (Own.below hi4 b4 hi4.lt)
  have HL4 := Lib.hid (((RSS.weak (Lies.here hl4)).lists HLEN.out HLL.out).now b4)
  have g4a := bfrom g4 b4
  have hx4a := hx4.now b4
  have hy4 := Bx4.new 29 w4 (.int .i64 q) (.slice (some ⟨a4, 0, none⟩) n n) (.int .i64 m) (.slice (some ⟨d4, 0, none⟩) k k)
  clear hi4 hl4 hl4a c0 c1 c2 c3
  obtain ⟨c0, c1, c2, c3⟩ := hx4a.cells
  obtain ⟨d0, d1, d2, d3⟩ := hy4.cells
  go_wp2_with fail
  refine (iIsDesk_any q _ n n ws m _ k k L _ hm (Known.of (Ints.sl HS4.out)) hl HL4.out).mono ?_
  rintro e w5 ⟨rfl, hb5⟩
  generalize deskB q ws n m L = r0
  have g5 := bfrom g4a hb5
  have hx5 := hx4a.now hb5
  have hy5 := hy4.now hb5
  have HI5 := Lib.hid (HI4.out.now hb5)
  have HS5 := Lib.hid (Own.below HS4.out hb5 HS4.out.lt)
  clear c0 c1 c2 c3 d0 d1 d2 d3
  obtain ⟨c0, c1, c2, c3⟩ := hx5.cells
  obtain ⟨d0, d1, d2, d3⟩ := hy5.cells
  have KX := Lib.hid (show ∀ W, Below w5.heap.size w5 W → (W.cell? ⟨w.heap.size, 0, none⟩ = some (.int .i64 q) ∧ W.cell? ⟨w.heap.size, 1, none⟩ = some (.slice A n cap) ∧ W.cell? ⟨w.heap.size, 2, none⟩ = some (.int .i64 m) ∧ W.cell? ⟨w.heap.size, 3, none⟩ = some (.slice B k cp)) ∧ W.cell? ⟨w4.heap.size, 0, none⟩ = some (.int .i64 q) ∧ W.cell? ⟨w4.heap.size, 1, none⟩ = some (.slice (some ⟨a4, 0, none⟩) n n) ∧ W.cell? ⟨w4.heap.size, 2, none⟩ = some (.int .i64 m) ∧ W.cell? ⟨w4.heap.size, 3, none⟩ = some (.slice (some ⟨d4, 0, none⟩) k k) from fun W h => ⟨(hx5.now h).cells, (hy5.now h).cells⟩)
  have HG5 := Lib.hid g5
  clear hx0 hx1 hx2 hx3 hx4 hx4a hx5 hy4 hy5 hb0 hb1 hb2 hb3 hb4 hb5 b4 g1 g2 g3 g4 g4a g5 HK2 HL2 HL4 HI4 HS4
  go_wp2_with fail
  go_region_held3 (fun W => (W.cell? ⟨w.heap.size, 0, none⟩ = some (.int .i64 q) ∧ W.cell? ⟨w.heap.size, 1, none⟩ = some (.slice A n cap) ∧ W.cell? ⟨w.heap.size, 2, none⟩ = some (.int .i64 m) ∧ W.cell? ⟨w.heap.size, 3, none⟩ = some (.slice B k cp)) ∧ W.cell? ⟨w4.heap.size, 0, none⟩ = some (.int .i64 q) ∧ W.cell? ⟨w4.heap.size, 1, none⟩ = some (.slice (some ⟨a4, 0, none⟩) n n) ∧ W.cell? ⟨w4.heap.size, 2, none⟩ = some (.int .i64 m) ∧ W.cell? ⟨w4.heap.size, 3, none⟩ = some (.slice (some ⟨d4, 0, none⟩) k k))
    (first | exact ⟨⟨c0, c1, c2, c3⟩, d0, d1, d2, d3⟩ | exact KX.out _ b6 | exact KX.out _ b7 | go_keep)
    (first
      | (go_at_call 21; refine (HTO.out _ hn' hkt HG5.out.drew).mono ?_; rintro e w6 ⟨a6, d6, rfl, ha6, hab6, hi6, hl6, hb6⟩; have HL6 := Lib.hid hl6; have HS6 := Lib.hid hi6; clear hl6 hi6; have b6 := bfrom (Below.refl _ w5).drew hb6)
      | (go_at_call 16; refine (eqDesk_same q m a4 0 n n a6 0 n ws _ _ k k k _ hm (Ints.sl (Own.below HS5.out b6 HS5.out.lt)) (Ints.sl HS6.out) HLL.out (HI5.out.now b6) HL6.out.rss0).mono ?_; rintro e w7 ⟨rfl, hb7⟩; have b7 := bfrom b6 hb7))
  go_wp2
  go_ret
  exact ⟨rfl, bfrom HG5.out b7⟩
end Go.Proofs.Ytlcfimddcedbcaa
