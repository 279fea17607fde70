/- The walks of exact laws of functions of a committee and a list of committees. -/
import Derived.Test.YtkckefjpkhjeaabBx
import Derived.Test.YtkckefjpkhjeaabBb
import Derived.Test.YtkckefjpkhjeaabL1
namespace Go.Proofs.Ytkckefjpkhjeaab
open Go.RowKit Vo

set_option maxHeartbeats 16000000 in
theorem lawCountCouncilWins (q : Int) (A : Option Addr) (n cap : Nat) (ws : List Int) (A2 : Option Addr) (k cap2 : Nat) (C : List (Int × List Int)) (w : World) (hm : n ≤ 9223372036854775807) (hk : Known w A n ws) (hm2 : k ≤ 9223372036854775807) (hk2 : KCS w A2 k C) :
    Calls Try.prog 5 #[.agg #[.int .i64 q, .slice A n cap], .slice A2 k cap2] w fun e w' => e = .returned (.bool true) ∧ Below w.heap.size w w' := by
  have HK := Lib.hid hk
  have HK2 := Lib.hid hk2
  have HLEN := Lib.hid hk2.1
  clear hk hk2
  have hx0 := BoxT.new 39 w (.int .i64 q) (.slice A n cap)
  have g0 := below1 w (.cells #[.int .i64 q, .slice A n cap] 39)
  have HSZ := Lib.hid (fun left W h0 h1 h => szCommitteeS_any A2 k cap2 C left W h0 h1 hm2 h)
  have HTO := Lib.hid (fun W hn h => toCommitteeS_any A2 k cap2 C W hn h)
  obtain ⟨T, hT⟩ : ∃ T, T = csum C k := ⟨_, rfl⟩
  rw [← hT] at HSZ HTO
  have HT := Lib.hid hT
  clear hT
  go_enter Try.func5, Try.ntmps5
  obtain ⟨c0, c1⟩ := hx0.cells
  go_wp2_with fail
  refine (szCommittee_left _ A n cap 1048576 _ hm (by omega) (by omega)).mono ?_
  rintro e w1 ⟨he, hb1⟩
  have g1 := bfrom g0 hb1
  have hx1 := hx0.now hb1
  clear c0 c1
  rcases he with ⟨rfl, hlo⟩ | ⟨hn', rfl⟩
  · go_wp2
    go_ret
    exact ⟨rfl, g1⟩
  have hge1 : ¬ 1048576 - (n : Int) < 0 := by omega
  go_wp2_with fail
  refine (HSZ.out (1048576 - n) _ (by omega) (by omega) (HK2.out.now g1)).mono ?_
  rintro e w2 ⟨he, hb2⟩
  have g2 := bfrom g1 hb2
  have hx2 := hx1.now hb2
  rcases he with rfl | ⟨hle, rfl⟩
  · go_wp2
    go_ret
    exact ⟨rfl, g2⟩
  have hge2 : ¬ 1048576 - (n : Int) - (k : Int) - (T : Int) < 0 := by omega
  have hzw : w.heap.size < w2.heap.size := hx2.lt
  have HNT := Lib.hid (show k + T ≤ 1048576 from by omega)
  have HNT2 := Lib.hid (show k + csum C k ≤ 1048576 from by have := HT.out; omega)
  have HCT := Lib.hid (show csum C k ≤ 1048576 from by have := HT.out; omega)
  have hl : k ≤ 1048576 := by omega
  have hn20 : n ≤ 1048576 := by omega
  have HKC := Lib.hid (fun lo hi W (h : RCS C lo hi W) => h.kcsn HLEN.out HNT2.out)
  clear hle hn'
  obtain ⟨c0, c1⟩ := hx2.cells
  go_wp2_with fail
  refine (toCommittee_any q A n cap ws _ hn20 (HK.out.now g2)).mono ?_
  rintro e w3 ⟨rfl, hi3, hb3⟩
  have g3 := bfrom g2 hb3
  have hx3 := hx2.now hb3
  have HI3 := Lib.hid hi3.sl
  have hz3 := hb3.size
  clear hi3 c0 c1
  go_wp2_with fail
  refine (HTO.out _ HNT.out (HK2.out.now g3)).mono ?_
  rintro e w4 ⟨rfl, hl4, hb4⟩
  have g4 := bfrom g3 hb4
  have hx4 := hx3.now hb4
  have HL4 := Lib.hid hl4
  have HI4 := Lib.hid (HI3.out.now hb4)
  have hz4 := hb4.size
  clear hl4
  go_wp2_with fail
  refine (sCountCouncilWins_any q _ n n ws _ k k C _ hm (Known.of HI4.out) hm2 (HKC.out _ _ _ HL4.out.here) HCT.out).mono ?_
  rintro e w5 ⟨rfl, hb5⟩
  have g5 := bfrom g4 hb5
  have hx5 := hx4.now hb5
  have hz5 := hb5.size
  clear HL4 HI4 HI3 hb1 hb2 hb3 hb4 hb5 hx0 hx1 hx2 hx3 hx4 g1 g2 g3 g4 g0
  obtain ⟨c0, c1⟩ := hx5.cells
  go_wp2_with fail
  refine (toCommittee_any q A n cap ws _ hn20 (HK.out.now g5)).mono ?_
  rintro e w6 ⟨rfl, hi6, hb6⟩
  try simp only [World.size_alloc] at hi6
  have hz6 : w5.heap.size + 3 < w6.heap.size := hi6.lt
  have b6 := below1 w6 (.cells #[.int .i64 q, .slice (some ⟨w5.heap.size + 3, 0, none⟩) n n] 43)
  have g6 := bfrom (bfrom g5 hb6) b6
  have hx6 := (hx5.now hb6).now b6
  have hy6 := Box.new w6 (.int .i64 q) (.slice (some ⟨w5.heap.size + 3, 0, none⟩) n n)
  have HI6 := Lib.hid (Own.below hi6 b6 hi6.lt)
  clear hi6 c0 c1
  go_wp2_with fail
  refine (HTO.out _ HNT.out (HK2.out.now g6)).mono ?_
  rintro e w7 ⟨rfl, hl7, hb7⟩
  simp only [World.size_alloc] at hl7
  have g7 := bfrom g6 hb7
  have hx7 := hx6.now hb7
  have hy7 := hy6.now hb7
  have HI7 := Lib.hid (Own.below HI6.out hb7 HI6.out.lt)
  have HX7 := Lib.hid hl7
  have hz7 := hb7.size
  simp only [World.size_alloc] at hz7
  clear hl7
  obtain ⟨d0, d1⟩ := hy7.cells
  go_wp2_with fail
  refine (iCountCouncilWins_any q _ n n ws _ k k C _ hm (Known.of (Ints.sl HI7.out)) hm2 (HKC.out _ _ _ HX7.out.here) HCT.out).mono ?_
  rintro e w8 ⟨rfl, hb8⟩
  generalize ((ccN q ws n C : Nat) : Int) = r0
  generalize cnB q ws n C = r1
  have g8 := bfrom g7 hb8
  have hx8 := hx7.now hb8
  have hy8 := hy7.now hb8
  have HI8 := Lib.hid (Own.below HI7.out hb8 HI7.out.lt)
  have HX8 := Lib.hid (HX7.out.now hb8)
  have hz8 := hb8.size

  clear d0 d1
  clear g5 g6 g7 hx5 hx6 hx7 hy6 hy7 HI6 HI7 HX7 hb6 hb7 hb8 b6
  obtain ⟨c0, c1⟩ := hx8.cells
  obtain ⟨d0, d1⟩ := hy8.cells
  go_wp2_with fail
  go_region_held3 (fun w' => w'.cell? ⟨w.heap.size, 0, none⟩ = some (.int .i64 q) ∧ w'.cell? ⟨w.heap.size, 1, none⟩ = some (.slice A n cap) ∧ w'.cell? ⟨w6.heap.size, 0, none⟩ = some (.int .i64 q) ∧ w'.cell? ⟨w6.heap.size, 1, none⟩ = some (.slice (some ⟨w5.heap.size + 3, 0, none⟩) n n))
    (first | exact ⟨c0, c1, d0, d1⟩ | exact ⟨c80, c81, d80, d81⟩ | exact ⟨c90, c91, d90, d91⟩ | go_keep)
    (first
      | (go_at_call 22; refine (toCommittee_any q A n cap ws _ hn20 (HK.out.now g8.drew)).mono ?_; rintro e w10 ⟨rfl, hi10, hb10⟩; have HI10 := Lib.hid hi10; clear hi10; obtain ⟨c80, c81⟩ := (hx8.drew.now hb10).cells; obtain ⟨d80, d81⟩ := (hy8.drew.now hb10).cells)
      | (go_at_call 24; refine (eqCommittee_same q _ _ n n _ _ n ws _ hm ((Ints.sl HI8.out).drew.now hb10) HI10.out.sl).mono ?_; rintro e w11 ⟨rfl, hb11⟩; obtain ⟨c90, c91⟩ := ((hx8.drew.now hb10).now hb11).cells; obtain ⟨d90, d91⟩ := ((hy8.drew.now hb10).now hb11).cells)
      | fail)
  have b11 := bfrom hb10 hb11
  have g11 := bfrom g8.drew b11
  have hx11 := hx8.drew.now b11
  have hy11 := hy8.drew.now b11
  have HI11 := Lib.hid (Own.below (Own.drew HI8.out) b11 (Own.drew HI8.out).lt)
  have HX11 := Lib.hid (HX8.out.drew.now b11)
  have hz11 : w8.heap.size ≤ w11.heap.size := by have := b11.size; simpa using this

  clear c0 c1 d0 d1 c80 c81 d80 d81 c90 c91 d90 d91 hx8 hy8 HI8 HX8 hb10 hb11 b11 g8 HI10
  go_wp2_with fail
  refine (HTO.out _ HNT.out (HK2.out.now g11)).mono ?_
  rintro e w12 ⟨rfl, hl12, hb12⟩
  have HY12 := Lib.hid hl12
  clear hl12
  go_wp2_with fail
  refine (eqCommitteeS_v _ _ _ _ k k k C _ HLEN.out.symm HNT2.out (HX11.out.now hb12).here HY12.out.here).mono ?_
  rintro e w13 ⟨rfl, hb13⟩
  have b13 := bfrom hb12 hb13
  have g13 := bfrom g11 b13
  have hz13 : w11.heap.size ≤ w13.heap.size := b13.size

  go_wp2
  go_ret
  exact ⟨rfl, g13⟩

end Go.Proofs.Ytkckefjpkhjeaab
