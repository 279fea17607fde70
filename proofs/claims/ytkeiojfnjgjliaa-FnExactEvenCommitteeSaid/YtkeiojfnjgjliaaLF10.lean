/- The walk of the exact law of EvenCommittee. -/
import Derived.Test.YtkeiojfnjgjliaaM2
import Derived.Test.YtkeiojfnjgjliaaSd
namespace Go.Proofs.Ytkeiojfnjgjliaa
open Go.RowKit Vo

set_option maxHeartbeats 6000000 in
theorem lawEvenCommittee (x q : Int) (w : World) (hx : (Lit.int .i64 x).wf = true) (hq : (Lit.int .i64 q).wf = true) :
    Calls Try.prog 8 #[.int .i64 x, .int .i64 q] w fun e w' => e = .returned (.bool true) ∧ Below w.heap.size w w' := by
  obtain ⟨qq, hqq⟩ : ∃ z, z = evenQ x q := ⟨_, rfl⟩
  have HQ := Lib.hid hqq
  clear hqq
  obtain ⟨m, hmm⟩ : ∃ z, z = evenN x q := ⟨_, rfl⟩
  have hm9 : m ≤ 9 := by rw [hmm]; exact evenN_le x q
  have HM := Lib.hid hmm
  clear hmm
  obtain ⟨ok, hok⟩ : ∃ z, z = evenOk x q := ⟨_, rfl⟩
  have HOKB := Lib.hid hok
  clear hok
  have hNm : m ≤ 1048576 := by omega
  have hNm2 : m ≤ 9223372036854775807 := by omega
  go_enter Try.func8, Try.ntmps8
  go_wp2_with fail
  refine (sEvenCommittee_any x q _ hx hq).mono ?_
  rintro e w3 ⟨A3, cp3, rfl, hh3, hb3⟩
  rw [← HM.out] at hh3
  rw [← HQ.out, ← HM.out, ← HOKB.out]
  have hlt3 := Lib.hid (show ∀ k, A3.map (·.block) = some k → k < w3.heap.size from fun k hk => by
    rcases hh3 with ⟨_, h⟩ | ⟨g, hA, _, h⟩
    · rw [h] at hk; cases hk
    · rw [hA] at hk; simp at hk; subst hk; exact h.lt)
  have b3 := below1 w3 (.cells #[.int .i64 qq, .slice A3 m cp3] 32)
  have HH3 := Lib.hid (hh3.now b3)
  have hw3 := Box.new w3 (.int .i64 qq) (.slice A3 m cp3)
  have g3 := bfrom hb3 b3
  have hz3 := hb3.size
  clear hh3
  go_wp2_with fail
  refine (evenCommittee_any x q _ hx hq).mono ?_
  rintro e w5 ⟨A5, cp5, rfl, hh5, hb5⟩
  rw [← HM.out] at hh5
  rw [← HQ.out, ← HM.out, ← HOKB.out]
  have hz5 := hb5.size
  simp only [World.size_alloc] at hh5 hz5
  have hge5 := Lib.hid (show ∀ k, A5.map (·.block) = some k → (w3.heap.size + 1 ≤ k ∧ k < w5.heap.size) from fun k hk => by
    rcases hh5 with ⟨_, h⟩ | ⟨g, hA, hg, h⟩
    · rw [h] at hk; cases hk
    · rw [hA] at hk; simp at hk; subst hk; exact ⟨hg, h.lt⟩)
  have b5 := below1 w5 (.cells #[.int .i64 qq, .slice A5 m cp5] 32)
  have b35 := bfrom hb5 b5
  have g5 := bfrom g3 b35
  have hw5 := hw3.now b35
  have hv5 := Box.new w5 (.int .i64 qq) (.slice A5 m cp5)
  have HH35 := Lib.hid (HH3.out.now b35)
  have HH55 := Lib.hid (hh5.now b5)
  clear hh5 hb3 b3 HH3 hw3 g3 hb5 b5 b35
  obtain ⟨d0, d1⟩ := hw5.cells
  obtain ⟨v0, v1⟩ := hv5.cells
  go_wp2_with fail
  refine (eqCommittee_held qq A5 A3 m cp5 cp3 _ _ (onesL x) _ hNm2 HH55.out HH35.out).mono ?_
  rintro e w10 ⟨rfl, hb10⟩
  have g10 := bfrom g5 hb10
  have hw10 := hw5.now hb10
  have hv10 := hv5.now hb10
  have HH510 := Lib.hid (HH55.out.now hb10)
  have HH310 := Lib.hid (HH35.out.now hb10)
  have hz10 := hb10.size
  simp only [World.size_alloc] at hz10
  clear hw5 hv5 HH55 HH35 hb10 g5 d0 d1 v0 v1
  obtain ⟨v0, v1⟩ := hv10.cells
  go_wp2_with fail
  refine (markCommittee_marked _ A5 m cp5 _ hNm HH510.out.row).mono ?_
  rintro e w11 ⟨rfl, ho11, hmk⟩
  have HMK := Lib.hid hmk
  have g11 := g10.grown ho11 (by omega) (fun k hk => by have := hge5.out k hk; omega)
  have hw11 := hw10.grown ho11 (by intro e; have := hge5.out _ e.symm; omega)
  have hv11 := hv10.grown ho11 (by intro e; have := hge5.out _ e.symm; omega)
  have HH311 := Lib.hid (HH310.out.apart (fun k hk e => by have := hge5.out k e; have := hlt3.out k hk; omega) ho11)
  clear hmk ho11 hw10 hv10 HH510 HH310 g10 v0 v1
  obtain ⟨v0, v1⟩ := hv11.cells
  go_wp2_with fail
  refine (heldCommittee_any _ A5 m cp5 _ hNm HMK.out).mono ?_
  rintro e w12 ⟨rfl, hb12⟩
  have g12 := bfrom g11 hb12
  have hw12 := hw11.now hb12
  have hv12 := hv11.now hb12
  have HH312 := Lib.hid (HH311.out.now hb12)
  have HMK12 := Lib.hid (HMK.out.now hb12)
  clear g11 hw11 hv11 HH311 HMK hb12 v0 v1
  go_wp2_with fail
  refine (evenCommittee_any x q _ hx hq).mono ?_
  rintro e w14 ⟨A14, cp14, rfl, hh14, hb14⟩
  rw [← HM.out] at hh14
  rw [← HQ.out, ← HM.out, ← HOKB.out]
  have b14 := below1 w14 (.cells #[.int .i64 qq, .slice A14 m cp14] 32)
  have b124 := bfrom hb14 b14
  have g14 := bfrom g12 b124
  have HH14 := Lib.hid (hh14.now b14)
  have HH314 := Lib.hid (HH312.out.now b124)
  have HMK14 := Lib.hid (HMK12.out.now b124)
  have hw14 := hw12.now b124
  have hv14 := hv12.now b124
  have hu14 := Box.new w14 (.int .i64 qq) (.slice A14 m cp14)
  clear hh14 hb14 b14 b124 g12 hw12 hv12 HH312 HMK12
  obtain ⟨d0, d1⟩ := hw14.cells
  obtain ⟨u0, u1⟩ := hu14.cells
  go_wp2_with fail
  refine (eqCommittee_held qq A14 A3 m cp14 cp3 _ _ (onesL x) _ hNm2 HH14.out HH314.out).mono ?_
  rintro e w15 ⟨rfl, hb15⟩
  have g15 := bfrom g14 hb15
  have HMK15 := Lib.hid (HMK14.out.now hb15)
  have hv15 := hv14.now hb15
  clear d0 d1 u0 u1
  obtain ⟨v0, v1⟩ := hv15.cells
  go_wp2_with fail
  refine (heldCommittee_any _ A5 m cp5 _ hNm HMK15.out).mono ?_
  rintro e w16 ⟨rfl, hb16⟩
  go_wp2
  go_ret
  exact ⟨rfl, bfrom g15 hb16⟩

end Go.Proofs.Ytkeiojfnjgjliaa
