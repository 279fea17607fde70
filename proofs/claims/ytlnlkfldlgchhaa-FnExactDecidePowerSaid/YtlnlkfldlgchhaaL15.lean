/- The walk of the exact law of DecidePower. -/
import Derived.Test.YtlnlkfldlgchhaaN15
import Derived.Test.YtlnlkfldlgchhaaK2
import Derived.Test.YtlnlkfldlgchhaaL1
namespace Go.Proofs.Ytlnlkfldlgchhaa
open Go.RowKit Vo

set_option maxHeartbeats 4000000 in
theorem lawDecidePower (q : Int) (A : Option Addr) (n cap : Nat) (ws : List Int) (w : World) (hm : n ≤ 9223372036854775807) (hk : Known w A n ws) :
    Calls Try.prog 6 #[.agg #[.int .i64 q, .slice A n cap]] w fun e w' => e = .returned (.bool true) ∧ Below w.heap.size w w' := by
  have HK := Lib.hid hk
  clear hk
  have hx0 := BoxT.new 24 w (.int .i64 q) (.slice A n cap)
  have hb0 := below1 w (.cells #[.int .i64 q, .slice A n cap] 24)
  by_cases hn : 1048576 < n
  · go_enter Try.func6, Try.ntmps6
    go_wp2_with fail
    refine (szCommittee_no _ A n cap _ hm hn).mono ?_
    rintro e w1 ⟨rfl, hb1⟩
    go_wp2
    go_ret
    exact ⟨rfl, bfrom hb0 hb1⟩
  have hn' : n ≤ 1048576 := by omega
  obtain ⟨x, hxx⟩ : ∃ x, x = (decX q ws n).1 := ⟨_, rfl⟩
  obtain ⟨y, hyy⟩ : ∃ y, y = (decX q ws n).2 := ⟨_, rfl⟩
  obtain ⟨ok, hok⟩ : ∃ ok, ok = goodB q ws n := ⟨_, rfl⟩
  have HX := Lib.hid hxx
  have HY := Lib.hid hyy
  have HO := Lib.hid hok
  clear hxx hyy hok
  go_enter Try.func6, Try.ntmps6
  go_wp2_with fail
  refine (szCommittee_yes _ A n cap _ hn').mono ?_
  rintro e w1 ⟨rfl, hb1⟩
  have g1 := bfrom hb0 hb1
  have hx1 := hx0.now hb1
  have hz1 : w.heap.size + 1 ≤ w1.heap.size := by have := hb1.size; simpa using this
  obtain ⟨c0, c1⟩ := hx1.cells
  go_wp2_with fail
  refine (toCommittee_any q A n cap ws _ hn' (HK.out.now g1)).mono ?_
  rintro e w2 ⟨rfl, hi2, hb2⟩
  have g2 := bfrom g1 hb2
  have hx2 := hx1.now hb2
  have hi2' := Lib.hid hi2.sl
  clear hi2 c0 c1
  go_wp2_with fail
  refine (sDecidePower_any q _ n n ws _ hm (Known.of hi2'.out)).mono ?_
  rintro e w3 ⟨rfl, hb3⟩
  rw [← HX.out, ← HY.out, ← HO.out]
  have b3 := below1 w3 (.cells #[.int .i64 x, .int .i64 y] 38)
  have hw3 := BoxT.new 38 w3 (.int .i64 x) (.int .i64 y)
  have g3 := bfrom (bfrom g2 hb3) b3
  have hx3 := (hx2.now hb3).now b3
  clear hb3
  obtain ⟨c0, c1⟩ := hx3.cells
  go_wp2_with fail
  refine (toCommittee_any q A n cap ws _ hn' (HK.out.now g3)).mono ?_
  rintro e w4 ⟨rfl, hi4, hb4⟩
  simp only [World.size_alloc] at hi4
  have b4 := below1 w4 (.cells #[.int .i64 q, .slice (some ⟨w3.heap.size + 1 + 3, 0, none⟩) n n] 28)
  have g4 := bfrom (bfrom g3 hb4) b4
  have hx4 := (hx3.now hb4).now b4
  have hw4 := (hw3.now hb4).now b4
  have hy4 := Box.new w4 (.int .i64 q) (.slice (some ⟨w3.heap.size + 1 + 3, 0, none⟩) n n)
  have hi4' := Lib.hid (Own.below hi4 b4 hi4.lt)
  clear hi4 c0 c1
  go_wp2_with fail
  refine (decidePower_any q _ n n ws _ hm (Known.of (Ints.sl hi4'.out))).mono ?_
  rintro e w5 ⟨rfl, hb5⟩
  rw [← HX.out, ← HY.out, ← HO.out]
  have b5 := below1 w5 (.cells #[.int .i64 x, .int .i64 y] 38)
  have b45 := bfrom hb5 b5
  have g5 := bfrom g4 b45
  have hx5 := hx4.now b45
  have hw5 := hw4.now b45
  have hy5 := hy4.now b45
  have hv5 := BoxT.new 38 w5 (.int .i64 x) (.int .i64 y)
  have hi5 := Lib.hid (Own.below hi4'.out b45 hi4'.out.lt)
  clear hx0 hb0 hb1 g1 hx1 hb2 g2 hx2 hi2' b3 hw3 g3 hx3 hb4 b4 g4 hx4 hw4 hy4 hi4' hb5 b5 b45
  obtain ⟨d0, d1⟩ := hw5.cells
  obtain ⟨v0, v1⟩ := hv5.cells
  go_wp2_with fail
  refine (eqShare_same x y _).mono ?_
  rintro e w6 ⟨rfl, hb6⟩
  have g6 := bfrom g5 hb6
  have hx6 := hx5.now hb6
  have hy6 := hy5.now hb6
  have hi6 := Lib.hid (Own.below hi5.out hb6 hi5.out.lt)
  clear g5 hx5 hw5 hy5 hv5 hi5 hb6 d0 d1 v0 v1
  obtain ⟨c0, c1⟩ := hx6.cells
  obtain ⟨d0, d1⟩ := hy6.cells
  go_wp2_with fail
  go_region_held3 (fun w' => w'.cell? ⟨w.heap.size, 0, none⟩ = some (.int .i64 q) ∧ w'.cell? ⟨w.heap.size, 1, none⟩ = some (.slice A n cap) ∧ w'.cell? ⟨w4.heap.size, 0, none⟩ = some (.int .i64 q) ∧ w'.cell? ⟨w4.heap.size, 1, none⟩ = some (.slice (some ⟨w3.heap.size + 1 + 3, 0, none⟩) n n))
    (first | exact ⟨c0, c1, d0, d1⟩ | exact ⟨c80, c81, d80, d81⟩ | exact ⟨c90, c91, d90, d91⟩ | go_keep)
    (first
      | (go_at_call 17; refine (toCommittee_any q A n cap ws _ hn' (HK.out.now g6.drew)).mono ?_; rintro e w7 ⟨rfl, hi7, hb7⟩; have hi7' := Lib.hid hi7; clear hi7; obtain ⟨c80, c81⟩ := (hx6.drew.now hb7).cells; obtain ⟨d80, d81⟩ := (hy6.drew.now hb7).cells)
      | (go_at_call 20; refine (eqCommittee_same q _ _ n n _ _ n ws _ hm ((Ints.sl hi6.out).drew.now hb7) hi7'.out.sl).mono ?_; rintro e w8 ⟨rfl, hb8⟩; obtain ⟨c90, c91⟩ := ((hx6.drew.now hb7).now hb8).cells; obtain ⟨d90, d91⟩ := ((hy6.drew.now hb7).now hb8).cells))
  go_wp2
  go_ret
  exact ⟨rfl, bfrom g6.drew (bfrom hb7 hb8)⟩
end Go.Proofs.Ytlnlkfldlgchhaa
