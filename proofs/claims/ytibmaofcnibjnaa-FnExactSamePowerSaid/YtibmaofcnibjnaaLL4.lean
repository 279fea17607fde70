/- The walks of exact laws of functions that answer with slices of their own. -/
import Derived.Test.YtibmaofcnibjnaaK4
import Derived.Test.YtibmaofcnibjnaaT6
import Derived.Test.YtibmaofcnibjnaaNf
import Derived.Test.YtibmaofcnibjnaaL1
namespace Go.Proofs.Ytibmaofcnibjnaa
open Go.RowKit Vo

set_option maxHeartbeats 4000000 in
theorem lawSamePower (q : Int) (A : Option Addr) (n cap : Nat) (ws : List Int) (w : World) (hm : n ≤ 9223372036854775807) (hk : Known w A n ws) :
    Calls Try.prog 5 #[.agg #[.int .i64 q, .slice A n cap]] w fun e w' => e = .returned (.bool true) ∧ Below w.heap.size w w' := by
  have HK := Lib.hid hk
  clear hk
  have hx0 := BoxT.new 46 w (.int .i64 q) (.slice A n cap)
  have hb0 := below1 w (.cells #[.int .i64 q, .slice A n cap] 46)
  by_cases hn : 1048576 < n
  · go_enter Try.func5, Try.ntmps5
    go_wp2_with fail
    refine (szCommittee_no _ A n cap _ hm hn).mono ?_
    rintro e w1 ⟨rfl, hb1⟩
    go_wp2
    go_ret
    exact ⟨rfl, bfrom hb0 hb1⟩
  have hn' : n ≤ 1048576 := by omega
  obtain ⟨L, hL⟩ : ∃ L, L = samL q ws n := ⟨_, rfl⟩
  have HLL := Lib.hid (show tot L + L.length ≤ 1048576 from by rw [hL]; exact samL_small q ws n)
  have HL := Lib.hid hL
  clear hL
  obtain ⟨N, hN⟩ : ∃ N : Nat, N = tot L := ⟨_, rfl⟩
  have hNm : N ≤ 1048576 := by have := HLL.out; omega
  have HN := Lib.hid hN
  clear hN
  obtain ⟨ok, hok⟩ : ∃ ok, ok = goodB q ws n := ⟨_, rfl⟩
  have HOKB := Lib.hid hok
  clear hok
  go_enter Try.func5, Try.ntmps5
  go_wp2_with fail
  refine (szCommittee_yes _ A n cap _ hn').mono ?_
  rintro e w1 ⟨rfl, hb1⟩
  have g1 := bfrom hb0 hb1
  have hx1 := hx0.now hb1
  have hz1 : w.heap.size + 1 ≤ w1.heap.size := by have := hb1.size; simpa using this
  obtain ⟨c0, c1⟩ := hx1.cells
  go_wp2_with fail
  refine (toCommittee_any q A n cap ws _ hn' (HK.out.now g1)).mono ?_
  rintro e w2 ⟨rfl, hi2, hb2⟩
  have g2 := bfrom g1 hb2
  have hx2 := hx1.now hb2
  have hi2' := Lib.hid hi2.sl
  have hz2 := hb2.size
  clear hi2 c0 c1
  obtain ⟨c0, c1⟩ := hx2.cells
  go_wp2_with fail
  refine (sSamePower_any q _ n n ws _ hm (Known.of hi2'.out)).mono ?_
  rintro e w3 ⟨v3, rfl, hl3, hb3⟩
  rw [← HL.out] at hl3
  rw [← HOKB.out]
  have HH3 := Lib.hid hl3
  have g3 := bfrom g2 hb3
  have hx3 := hx2.now hb3
  have hz3 := hb3.size
  clear hl3 c0 c1
  obtain ⟨c0, c1⟩ := hx3.cells
  go_wp2_with fail
  refine (toCommittee_any q A n cap ws _ hn' (HK.out.now g3)).mono ?_
  rintro e w4 ⟨rfl, hi4, hb4⟩
  have hz4 : w3.heap.size + 3 < w4.heap.size := hi4.lt
  have b4 := below1 w4 (.cells #[.int .i64 q, .slice (some ⟨w3.heap.size + 3, 0, none⟩) n n] 24)
  have g4 := bfrom (bfrom g3 hb4) b4
  have hx4 := (hx3.now hb4).now b4
  have hy4 := Box.new w4 (.int .i64 q) (.slice (some ⟨w3.heap.size + 3, 0, none⟩) n n)
  have hi4' := Lib.hid (Own.below hi4 b4 hi4.lt)
  have HH34 := Lib.hid ((HH3.out.now hb4).now b4)
  clear hi4 c0 c1
  go_wp2_with fail
  refine (iSamePower_any q _ n n ws _ hm (Known.of (Ints.sl hi4'.out))).mono ?_
  rintro e w5 ⟨v5, rfl, hl5, hb5⟩
  rw [← HL.out] at hl5
  rw [← HOKB.out]
  have hz5 := hb5.size
  simp only [World.size_alloc] at hl5 hz5
  have HH5 := Lib.hid hl5
  have g5 := bfrom g4 hb5
  have hx5 := hx4.now hb5
  have hy5 := hy4.now hb5
  have hi5 := Lib.hid (Own.below hi4'.out hb5 hi4'.out.lt)
  have HH35 := Lib.hid (HH34.out.now hb5)
  clear hl5 hx0 hb0 hb1 g1 hx1 hb2 g2 hx2 hi2' hb3 HH3 g3 hx3 hb4 b4 g4 hx4 hy4 hi4' HH34 hb5
  go_wp2_with fail
  refine (eqIntSS_v _ HLL.out HH5.out HH35.out).mono ?_
  rintro e w6 ⟨rfl, hb6⟩
  have g6 := bfrom g5 hb6
  have hx6 := hx5.now hb6
  have hy6 := hy5.now hb6
  have hi6 := Lib.hid (Own.below hi5.out hb6 hi5.out.lt)
  have HH36 := Lib.hid (HH35.out.now hb6)
  have HH56 := Lib.hid (HH5.out.now hb6)
  have hz6 := hb6.size
  clear g5 hx5 hy5 hi5 HH35 HH5 hb6
  obtain ⟨c0, c1⟩ := hx6.cells
  obtain ⟨d0, d1⟩ := hy6.cells
  go_wp2_with fail
  go_region_held3 (fun w' => w'.cell? ⟨w.heap.size, 0, none⟩ = some (.int .i64 q) ∧ w'.cell? ⟨w.heap.size, 1, none⟩ = some (.slice A n cap) ∧ w'.cell? ⟨w4.heap.size, 0, none⟩ = some (.int .i64 q) ∧ w'.cell? ⟨w4.heap.size, 1, none⟩ = some (.slice (some ⟨w3.heap.size + 3, 0, none⟩) n n))
    (first | go_keep | exact ⟨c80, c81, d80, d81⟩ | exact ⟨c90, c91, d90, d91⟩)
    (first
      | (go_at_call 33; refine (toCommittee_any q A n cap ws _ hn' (HK.out.now g6.drew)).mono ?_; rintro e w7 ⟨rfl, hi7, hb7⟩; have hi7' := Lib.hid hi7; clear hi7; obtain ⟨c80, c81⟩ := (hx6.drew.now hb7).cells; obtain ⟨d80, d81⟩ := (hy6.drew.now hb7).cells)
      | (go_at_call 36; refine (eqCommittee_same q _ _ n n _ _ n ws _ hm ((Ints.sl hi6.out).drew.now hb7) hi7'.out.sl).mono ?_; rintro e w8 ⟨rfl, hb8⟩; obtain ⟨c90, c91⟩ := ((hx6.drew.now hb7).now hb8).cells; obtain ⟨d90, d91⟩ := ((hy6.drew.now hb7).now hb8).cells))
  have b68 := bfrom hb7 hb8
  have g8 := bfrom g6.drew b68
  have hx8 := hx6.drew.now b68
  have hy8 := hy6.drew.now b68
  have hi8 := Lib.hid (Own.below (Own.drew hi6.out) b68 (Own.drew hi6.out).lt)
  have HH38 := Lib.hid (HH36.out.drew.now b68)
  have HH58 := Lib.hid (HH56.out.drew.now b68)
  have hz8 : w6.heap.size ≤ w8.heap.size := b68.size
  clear c0 c1 d0 d1 c80 c81 d80 d81 c90 c91 d90 d91 hx6 hy6 hi6 HH36 HH56 hb7 hb8 b68 g6 hi7'
  obtain ⟨d0, d1⟩ := hy8.cells
  go_wp2_with fail
  refine (markCommittee_any _ _ n n _ hn' (Or.inr ⟨_, _, rfl, hi8.out⟩)).mono ?_
  rintro e w9 ⟨rfl, ho9⟩
  have t9 : Turn (w3.heap.size + 3) (w3.heap.size + 4) w8 w9 := Turn.of_grown ho9 (fun k hk => by simp at hk; omega)
  have g9 := Turn.below g8 t9 (by omega) (by omega)
  have hx9 := hx8.turn t9 (by omega)
  have HH59 := Lib.hid (HH58.out.turn t9 (by omega))
  have HH39 := Lib.hid (HH38.out.turn t9 (by omega))
  have hz9 := t9.size
  clear ho9 t9 hx8 hy8 hi8 HH38 HH58 g8 d0 d1
  go_wp2_with fail
  refine (eqIntSS_v _ HLL.out HH59.out HH39.out).mono ?_
  rintro e w10 ⟨rfl, hb10⟩
  have g10 := bfrom g9 hb10
  have hx10 := hx9.now hb10
  have HH510 := Lib.hid (HH59.out.now hb10)
  have HH310 := Lib.hid (HH39.out.now hb10)
  have hz10 := hb10.size
  clear hx9 HH59 HH39 hb10 g9
  go_wp2_with fail
  refine (markIntSS_v _ HLL.out HH510.out).mono ?_
  rw [← HN.out]
  rintro e w11 ⟨rfl, t11, hmk⟩
  have hh11 := HH510.out.hi_le
  have hz11 := t11.size
  have HMK := Lib.hid (hmk.lies (by omega))
  have g11 := Turn.below g10 t11 (by omega) (by omega)
  have hx11 := hx10.turn t11 (by omega)
  have HH311 := Lib.hid (HH310.out.turn t11 (by omega))
  clear hmk t11 hx10 HH510 HH310 g10 hh11
  go_wp2_with fail
  refine (heldIntSS_v _ HLL.out HMK.out).mono ?_
  rw [← HN.out]
  rintro e w12 ⟨rfl, hb12⟩
  have g12 := bfrom g11 hb12
  have hx12 := hx11.now hb12
  have HH312 := Lib.hid (HH311.out.now hb12)
  have HMK12 := Lib.hid (HMK.out.now hb12)
  clear g11 hx11 HH311 HMK hb12
  obtain ⟨c0, c1⟩ := hx12.cells
  go_wp2_with fail
  refine (toCommittee_any q A n cap ws _ hn' (HK.out.now g12)).mono ?_
  rintro e w13 ⟨rfl, hi13, hb13⟩
  have hs13 := Lib.hid hi13.sl
  clear hi13 c0 c1
  go_wp2_with fail
  refine (iSamePower_any q _ n n ws _ hm (Known.of hs13.out)).mono ?_
  rintro e w14 ⟨v14, rfl, hl14, hb14⟩
  rw [← HL.out] at hl14
  rw [← HOKB.out]
  have HH14 := Lib.hid hl14
  clear hl14
  have b14 := bfrom hb13 hb14
  have g14 := bfrom g12 b14
  have HH314 := Lib.hid (HH312.out.now b14)
  have HMK14 := Lib.hid (HMK12.out.now b14)
  clear hb13 hb14 b14 g12 hx12 HH312 HMK12
  go_wp2_with fail
  refine (eqIntSS_v _ HLL.out HH14.out HH314.out).mono ?_
  rintro e w15 ⟨rfl, hb15⟩
  have g15 := bfrom g14 hb15
  have HMK15 := Lib.hid (HMK14.out.now hb15)
  go_wp2_with fail
  refine (heldIntSS_v _ HLL.out HMK15.out).mono ?_
  rw [← HN.out]
  rintro e w16 ⟨rfl, hb16⟩
  go_wp2
  go_ret
  exact ⟨rfl, bfrom g15 hb16⟩

end Go.Proofs.Ytibmaofcnibjnaa
