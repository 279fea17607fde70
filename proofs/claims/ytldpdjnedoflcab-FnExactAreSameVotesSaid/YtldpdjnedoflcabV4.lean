/- Contract of the program's AreSameVotes. -/
import Derived.Test.YtldpdjnedoflcabV1
import Derived.Test.YtldpdjnedoflcabWv
namespace Go.Proofs.Ytldpdjnedoflcab
open Go.RowKit Vo

set_option maxHeartbeats 4000000 in
theorem areSameVotes_any (q : Int) (A : Option Addr) (n cap : Nat) (ws : List Int) (q2 : Int) (A2 : Option Addr) (n2 cap2 : Nat) (ws2 : List Int) (w : World) (hm : n ≤ 9223372036854775807) (hk : Known w A n ws) (hm2 : n2 ≤ 9223372036854775807) (hk2 : Known w A2 n2 ws2) :
    Calls Try.prog 40 #[.agg #[.int .i64 q, .slice A n cap], .agg #[.int .i64 q2, .slice A2 n2 cap2]] w fun e w' =>
      e = .returned (.tuple #[.bool (votesB q ws n q2 ws2 n2), .bool (bothB q ws n q2 ws2 n2)]) ∧ Below w.heap.size w w' := by
  have HK := Lib.hid hk
  have HK2 := Lib.hid hk2
  clear hk hk2
  have hx := (Box.new w (.int .i64 q) (.slice A n cap)).alloc (.cells #[.int .i64 q2, .slice A2 n2 cap2] 29)
  have hy := Box.new (w.alloc (.cells #[.int .i64 q, .slice A n cap] 29)) (.int .i64 q2) (.slice A2 n2 cap2)
  simp only [World.size_alloc] at hy
  have hb0 : Below w.heap.size w ((w.alloc (.cells #[.int .i64 q, .slice A n cap] 29)).alloc (.cells #[.int .i64 q2, .slice A2 n2 cap2] 29)) := (below1 w _).alloc (by simp) _
  by_cases hg : Vo.Good q ws n
  · have HGB := Lib.hid (goodB_true hg)
    by_cases hg2 : Vo.Good q2 ws2 n2
    · have HGB2 := Lib.hid (goodB_true hg2)
      have HF := Lib.hid (show bothB q ws n q2 ws2 n2 = true from by unfold bothB; rw [HGB.out, HGB2.out]; rfl)
      obtain ⟨b, off, rfl, hsl⟩ := HK.out.get hg.lo
      obtain ⟨b2, off2, rfl, hsl2⟩ := HK2.out.get hg2.lo
      have HSL := Lib.hid hsl
      have HSL2 := Lib.hid hsl2
      have HOK := Lib.hid hg.ok
      have HOK2 := Lib.hid hg2.ok
      have hn9 := hg.hi
      have hn10 : n < 10 := by omega
      have hn29 := hg2.hi
      have HV := Lib.hid (show votesB q ws n q2 ws2 n2 = sameV (winB q ws n) (winB q2 ws2 n2) n n2 from by
        by_cases e : n = n2
        · subst e; rw [votesB_yes HF.out]; unfold sameV; rw [decide_eq_true rfl]; rfl
        · rw [votesB_no2 e]; unfold sameV; rw [decide_eq_false e]; rfl)
      clear hg hg2 hsl hsl2
      go_enter Try.func40, Try.ntmps40
      go_wp2_with fail
      refine (isCommittee_any q _ n cap ws _ hm (HK.out.now hb0)).mono ?_
      rintro e w1 ⟨rfl, hb1⟩
      rw [HGB.out]
      have hx1 := hx.now hb1
      have hy1 := hy.now hb1
      have g1 := bfrom hb0 hb1
      obtain ⟨d0, d1⟩ := hy1.cells
      go_wp2_with fail
      refine (isCommittee_any q2 _ n2 cap2 ws2 _ hm2 (HK2.out.now g1)).mono ?_
      rintro e w2 ⟨rfl, hb2⟩
      rw [HGB2.out]
      have hx2 := hx1.now hb2
      have hy2 := hy1.now hb2
      have g2 := bfrom g1 hb2
      clear d0 d1
      obtain ⟨c0, c1⟩ := hx2.cells
      obtain ⟨d0, d1⟩ := hy2.cells
      go_wp2_with fail
      refine (areSameRules_any (winB q ws n) (winB q2 ws2 n2) n n2 29 29 _ _ _ _ _ _ _ hn10 (by omega) (comRule q b off n cap ws _ hn10 HOK.out (HSL.out.now g2)) (comRule q2 b2 off2 n2 cap2 ws2 _ (by omega) HOK2.out (HSL2.out.now g2))).mono ?_
      rintro e w5 ⟨rfl, hb5⟩
      go_wp2
      go_ret2
      exact ⟨by rw [HF.out, HV.out]; rfl, bfrom g2 hb5⟩
    · have HGB2 := Lib.hid (goodB_false hg2)
      have HF := Lib.hid (show bothB q ws n q2 ws2 n2 = false from by unfold bothB; rw [HGB2.out]; simp)
      clear hg hg2
      go_enter Try.func40, Try.ntmps40
      go_wp2_with fail
      refine (isCommittee_any q _ n cap ws _ hm (HK.out.now hb0)).mono ?_
      rintro e w1 ⟨rfl, hb1⟩
      rw [HGB.out]
      have hy1 := hy.now hb1
      have g1 := bfrom hb0 hb1
      obtain ⟨d0, d1⟩ := hy1.cells
      go_wp2_with fail
      refine (isCommittee_any q2 _ n2 cap2 ws2 _ hm2 (HK2.out.now g1)).mono ?_
      rintro e w2 ⟨rfl, hb2⟩
      rw [HGB2.out]
      go_wp2
      go_ret2
      exact ⟨by rw [votesB_no1 HF.out, HF.out]; rfl, bfrom g1 hb2⟩
  · have HGB := Lib.hid (goodB_false hg)
    have HF := Lib.hid (show bothB q ws n q2 ws2 n2 = false from by unfold bothB; rw [HGB.out]; rfl)
    clear hg
    go_enter Try.func40, Try.ntmps40
    go_wp2_with fail
    refine (isCommittee_any q _ n cap ws _ hm (HK.out.now hb0)).mono ?_
    rintro e w1 ⟨rfl, hb1⟩
    rw [HGB.out]
    go_wp2
    go_ret2
    exact ⟨by rw [votesB_no1 HF.out, HF.out]; rfl, bfrom hb0 hb1⟩
end Go.Proofs.Ytldpdjnedoflcab
