/- The walks of exact laws of functions that answer with integers of their own. -/
import Derived.Test.YtldpdjnedoflcaaM1
import Derived.Test.YtldpdjnedoflcaaP2
namespace Go.Proofs.Ytldpdjnedoflcaa
open Go.RowKit Vo

set_option maxHeartbeats 4000000 in
theorem lawVetoMembers (q : Int) (A : Option Addr) (n cap : Nat) (ws : List Int) (w : World) (hm : n ≤ 9223372036854775807) (hk : Known w A n ws) :
    Calls Try.prog 11 #[.agg #[.int .i64 q, .slice A n cap]] w fun e w' => e = .returned (.bool true) ∧ Below w.heap.size w w' := by
  have HK := Lib.hid hk
  clear hk
  have hx0 := BoxT.new 24 w (.int .i64 q) (.slice A n cap)
  have hb0 := below1 w (.cells #[.int .i64 q, .slice A n cap] 24)
  by_cases hn : 1048576 < n
  · go_enter Try.func11, Try.ntmps11
    go_wp2_with fail
    refine (szCommittee_no _ A n cap _ hm hn).mono ?_
    rintro e w1 ⟨rfl, hb1⟩
    go_wp2
    go_ret
    exact ⟨rfl, bfrom hb0 hb1⟩
  have hn' : n ≤ 1048576 := by omega
  obtain ⟨L, hL⟩ : ∃ L, L = vetoL q ws n := ⟨_, rfl⟩
  have hN9 : L.length ≤ 9 := by rw [hL]; exact vetoL_len q ws n
  have HL := Lib.hid hL
  clear hL
  obtain ⟨N, hN⟩ : ∃ N, N = L.length := ⟨_, rfl⟩
  rw [← hN] at hN9
  have HN := Lib.hid hN
  clear hN
  obtain ⟨ok, hok⟩ : ∃ ok, ok = goodB q ws n := ⟨_, rfl⟩
  have HOKB := Lib.hid hok
  clear hok
  have hNm : N ≤ 1048576 := by omega
  have hNm2 : N ≤ 9223372036854775807 := by omega
  go_enter Try.func11, Try.ntmps11
  go_wp2_with fail
  refine (szCommittee_yes _ A n cap _ hn').mono ?_
  rintro e w1 ⟨rfl, hb1⟩
  have g1 := bfrom hb0 hb1
  have hx1 := hx0.now hb1
  have hz1 : w.heap.size + 1 ≤ w1.heap.size := by have := hb1.size; simpa using this
  obtain ⟨c0, c1⟩ := hx1.cells
  go_wp2_with fail
  refine (toCommittee_any q A n cap ws _ hn' (HK.out.now g1)).mono ?_
  rintro e w2 ⟨rfl, hi2, hb2⟩
  have g2 := bfrom g1 hb2
  have hx2 := hx1.now hb2
  have hi2' := Lib.hid hi2
  have hz2 := hb2.size
  clear hi2 c0 c1
  obtain ⟨c0, c1⟩ := hx2.cells
  go_wp2_with fail
  refine (sVetoMembers_any q _ n n ws _ hm (Known.of hi2'.out.sl)).mono ?_
  rintro e w3 ⟨A3, cp3, rfl, hown3, hb3⟩
  rw [← HL.out, ← HN.out] at hown3
  rw [← HL.out, ← HN.out, ← HOKB.out]
  have HO3 := Lib.hid hown3
  have hlt3 := Lib.hid (fun k hk => owns_lt hown3 (k := k) hk)
  have g3 := bfrom g2 hb3
  have hx3 := hx2.now hb3
  have hz3 := hb3.size
  clear hown3 c0 c1
  obtain ⟨c0, c1⟩ := hx3.cells
  go_wp2_with fail
  refine (toCommittee_any q A n cap ws _ hn' (HK.out.now g3)).mono ?_
  rintro e w4 ⟨rfl, hi4, hb4⟩
  have g4 := bfrom g3 hb4
  have hx4 := hx3.now hb4
  have hz4 : w3.heap.size + 3 < w4.heap.size := hi4.lt
  have hi4' := Lib.hid hi4
  clear hi4 c0 c1
  obtain ⟨c0, c1⟩ := hx4.cells
  have hy4 := Box.new w4 (.int .i64 q) (.slice (some ⟨w3.heap.size + 3, 0, none⟩) n n)
  have b4a := below1 w4 (.cells #[.int .i64 q, .slice (some ⟨w3.heap.size + 3, 0, none⟩) n n] 27)
  have g4a := bfrom g4 b4a
  have hx4a := hx4.now b4a
  have hi4a := Lib.hid (Own.below hi4'.out b4a hi4'.out.lt)
  have HO3a := Lib.hid (owns_now (owns_now HO3.out hb4) b4a)
  go_wp2_with fail
  refine (vetoMembers_any q _ n n ws _ hm (Known.of (Ints.sl hi4a.out))).mono ?_
  rintro e w5 ⟨A5, cp5, rfl, hown5, hb5⟩
  rw [← HL.out, ← HN.out] at hown5
  rw [← HL.out, ← HN.out, ← HOKB.out]
  have hz5 := hb5.size
  simp only [World.size_alloc] at hown5 hz5
  have HO5 := Lib.hid hown5
  have hge5 := Lib.hid (fun k hk => owns_le hown5 (k := k) hk)
  have g5 := bfrom g4a hb5
  have hx5 := hx4a.now hb5
  have hy5 := hy4.now hb5
  have hi5 := Lib.hid (Own.below hi4a.out hb5 hi4a.out.lt)
  have HO35 := Lib.hid (owns_now HO3a.out hb5)
  clear hown5 c0 c1 hx0 hb0 hb1 g1 hx1 hb2 g2 hx2 hi2' hx3 hx4 hi4' hy4 hx4a hi4a HO3 HO3a b4a g4a hb5 hb4 hb3 g3 g4
  go_wp2_with fail
  refine (eqIntS_own A5 A3 N cp5 cp3 _ _ L _ hNm2 HO5.out HO35.out).mono ?_
  rintro e w6 ⟨rfl, hb6⟩
  have g6 := bfrom g5 hb6
  have hx6 := hx5.now hb6
  have hy6 := hy5.now hb6
  have hi6 := Lib.hid (Own.below hi5.out hb6 hi5.out.lt)
  have HO56 := Lib.hid (owns_now HO5.out hb6)
  have HO36 := Lib.hid (owns_now HO35.out hb6)
  have hz6 := hb6.size
  clear hx5 hy5 hi5 HO5 HO35 hb6 g5
  obtain ⟨c0, c1⟩ := hx6.cells
  obtain ⟨d0, d1⟩ := hy6.cells
  go_wp2_with fail
  go_region_held3 (fun w' => w'.cell? ⟨w.heap.size, 0, none⟩ = some (.int .i64 q) ∧ w'.cell? ⟨w.heap.size, 1, none⟩ = some (.slice A n cap) ∧ w'.cell? ⟨w4.heap.size, 0, none⟩ = some (.int .i64 q) ∧ w'.cell? ⟨w4.heap.size, 1, none⟩ = some (.slice (some ⟨w3.heap.size + 3, 0, none⟩) n n))
    (first | go_keep | exact ⟨c80, c81, d80, d81⟩ | exact ⟨c90, c91, d90, d91⟩)
    (first
      | (go_at_call 17; refine (toCommittee_any q A n cap ws _ hn' (HK.out.now g6.drew)).mono ?_; rintro e w7 ⟨rfl, hi7, hb7⟩; have hi7' := Lib.hid hi7; clear hi7; obtain ⟨c80, c81⟩ := (hx6.drew.now hb7).cells; obtain ⟨d80, d81⟩ := (hy6.drew.now hb7).cells)
      | (go_at_call 19; refine (eqCommittee_same q _ _ n n _ _ n ws _ hm ((Ints.sl hi6.out).drew.now hb7) hi7'.out.sl).mono ?_; rintro e w8 ⟨rfl, hb8⟩; obtain ⟨c90, c91⟩ := ((hx6.drew.now hb7).now hb8).cells; obtain ⟨d90, d91⟩ := ((hy6.drew.now hb7).now hb8).cells))
  have b68 := bfrom hb7 hb8
  have g8 := bfrom g6.drew b68
  have hx8 := hx6.drew.now b68
  have hy8 := hy6.drew.now b68
  have hi8 := Lib.hid (Own.below (Own.drew hi6.out) b68 (Own.drew hi6.out).lt)
  have HO58 := Lib.hid (owns_now (World.ownsRow.drew HO56.out) b68)
  have HO38 := Lib.hid (owns_now (World.ownsRow.drew HO36.out) b68)
  have hz8 : w6.heap.size ≤ w8.heap.size := b68.size
  clear c0 c1 d0 d1 c80 c81 d80 d81 c90 c91 d90 d91 hx6 hy6 hi6 HO56 HO36 hb7 hb8 b68 g6 hi7'
  obtain ⟨c0, c1⟩ := hx8.cells
  obtain ⟨d0, d1⟩ := hy8.cells
  go_wp2_with fail
  refine (markCommittee_any _ _ n n _ hn' (Or.inr ⟨_, _, rfl, hi8.out⟩)).mono ?_
  rintro e w9 ⟨rfl, ho9⟩
  have ho9' : w8.grownBy w9 (some (w3.heap.size + 3)) := ho9
  have g9 := g8.grown ho9' (by omega) (fun k hk => by injection hk with hk; omega)
  have hx9 := hx8.grown ho9' (by intro e; injection e with e; omega)
  have HO59 := Lib.hid (owns_apart HO58.out (fun k hk e => by injection e with e; have := hge5.out k hk; omega) ho9')
  have HO39 := Lib.hid (owns_apart HO38.out (fun k hk e => by injection e with e; have := hlt3.out k hk; omega) ho9')
  have hz9 := ho9'.size
  clear ho9 ho9' hx8 hy8 hi8 HO58 HO38 g8 c0 c1 d0 d1
  obtain ⟨c0, c1⟩ := hx9.cells
  go_wp2_with fail
  refine (eqIntS_own A5 A3 N cp5 cp3 _ _ L _ hNm2 HO59.out HO39.out).mono ?_
  rintro e w10 ⟨rfl, hb10⟩
  have g10 := bfrom g9 hb10
  have hx10 := hx9.now hb10
  have HO510 := Lib.hid (owns_now HO59.out hb10)
  have HO310 := Lib.hid (owns_now HO39.out hb10)
  have hz10 := hb10.size
  clear hx9 HO59 HO39 hb10 g9 c0 c1
  go_wp2_with fail
  refine (markIntS_any A5 N cp5 1 _ (by omega) (by omega) hNm (RowAt.of_own HO510.out)).mono ?_
  rintro e w11 ⟨rfl, ho11, hmk⟩
  have HMK := Lib.hid hmk
  have hr : ∀ k, A5.map (·.block) = some k → (Value.slice A5 N cp5).ownBlock = some k := fun k hk => by cases A5 <;> simp_all [Value.ownBlock]
  have g11 := g10.grown ho11 (by omega) (fun k hk => by have := hge5.out k (hr k hk); omega)
  have hx11 := hx10.grown ho11 (by intro e; have := hge5.out _ (hr _ e.symm); omega)
  have HO311 := Lib.hid (owns_apart HO310.out (fun k hk e => by have := hge5.out _ (hr _ e); have := hlt3.out k hk; omega) ho11)
  have hz11 := ho11.size
  clear hmk hr ho11 hx10 HO510 HO310 g10
  obtain ⟨c0, c1⟩ := hx11.cells
  go_wp2_with fail
  refine (heldIntS_any A5 N cp5 1 _ (by omega) (by omega) hNm HMK.out).mono ?_
  rintro e w12 ⟨rfl, rfl⟩
  go_wp2_with fail
  refine (toCommittee_any q A n cap ws _ hn' (HK.out.now g11)).mono ?_
  rintro e w13 ⟨rfl, hi13, hb13⟩
  have hs13 := Lib.hid hi13.sl
  clear hi13 c0 c1
  go_wp2_with fail
  refine (vetoMembers_any q _ n n ws _ hm (Known.of hs13.out)).mono ?_
  rintro e w14 ⟨A14, cp14, rfl, hown14, hb14⟩
  rw [← HL.out, ← HN.out] at hown14
  rw [← HL.out, ← HN.out, ← HOKB.out]
  have HO14 := Lib.hid hown14
  clear hown14
  have HO314 := Lib.hid (owns_now (owns_now HO311.out hb13) hb14)
  go_wp2_with fail
  refine (eqIntS_own A14 A3 N cp14 cp3 _ _ L _ hNm2 HO14.out HO314.out).mono ?_
  rintro e w15 ⟨rfl, hb15⟩
  have HMK15 := Lib.hid (((HMK.out.now hb13).now hb14).now hb15)
  go_wp2_with fail
  refine (heldIntS_any A5 N cp5 1 _ (by omega) (by omega) hNm HMK15.out).mono ?_
  rintro e w16 ⟨rfl, rfl⟩
  go_wp2
  go_ret
  exact ⟨rfl, bfrom (bfrom (bfrom g11 hb13) hb14) hb15⟩

end Go.Proofs.Ytldpdjnedoflcaa
