/- The walks of exact laws of functions that answer with numbers and truths. -/
import Derived.Test.YtlnlkfldlgchhabL1
import Derived.Test.YtlnlkfldlgchhabPy
namespace Go.Proofs.Ytlnlkfldlgchhab
open Go.RowKit Vo

set_option maxHeartbeats 2000000 in
theorem lawGiverGains (q : Int) (A : Option Addr) (n cap : Nat) (ws : List Int) (z1 : Int) (z2 : Int) (z3 : Int) (w : World) (hm : n ≤ 9223372036854775807) (hk : Known w A n ws) (hz1 : (Lit.int .i64 z1).wf = true) (hz2 : (Lit.int .i64 z2).wf = true) (hz3 : (Lit.int .i64 z3).wf = true) :
    Calls Try.prog 12 #[.agg #[.int .i64 q, .slice A n cap], .int .i64 z1, .int .i64 z2, .int .i64 z3] w fun e w' => e = .returned (.bool true) ∧ Below w.heap.size w w' := by
  have HK := Lib.hid hk
  clear hk
  have hx0 := BoxT.new 24 w (.int .i64 q) (.slice A n cap)
  have hb0 := below1 w (.cells #[.int .i64 q, .slice A n cap] 24)
  by_cases hn : 1048576 < n
  · go_enter Try.func12, Try.ntmps12
    go_wp2_with fail
    refine (szCommittee_no _ A n cap _ hm hn).mono ?_
    rintro e w1 ⟨rfl, hb1⟩
    go_wp2
    go_ret
    exact ⟨rfl, bfrom hb0 hb1⟩
  have hn' : n ≤ 1048576 := by omega
  go_enter Try.func12, Try.ntmps12
  go_wp2_with fail
  refine (szCommittee_yes _ A n cap _ hn').mono ?_
  rintro e w1 ⟨rfl, hb1⟩
  have g1 := bfrom hb0 hb1
  have hx1 := hx0.now hb1
  have hk1 := Lib.hid (HK.out.now g1)
  obtain ⟨c0, c1⟩ := hx1.cells
  go_wp2_with fail
  refine (toCommittee_any q A n cap ws _ hn' hk1.out).mono ?_
  rintro e w2 ⟨rfl, hi2, hb2⟩
  have g2 := bfrom g1 hb2
  have hx2 := hx1.now hb2
  have hi2' := Lib.hid hi2
  clear hi2 c0 c1
  obtain ⟨c0, c1⟩ := hx2.cells
  go_wp2_with fail
  refine (sGiverGains_any q _ n n ws z1 z2 z3 _ hm (Known.of hi2'.out.sl) hz1 hz2 hz3).mono ?_
  rintro e w4 ⟨rfl, hb4⟩
  have g4 := bfrom g2 hb4
  have hx4 := hx2.now hb4
  clear c0 c1
  obtain ⟨c0, c1⟩ := hx4.cells
  go_wp2_with fail
  refine (toCommittee_any q A n cap ws _ hn' (HK.out.now g4)).mono ?_
  rintro e w5 ⟨rfl, hi5, hb5⟩
  have g5 := bfrom g4 hb5
  have hx5 := hx4.now hb5
  have hi5' := Lib.hid hi5.sl
  clear hi5 c0 c1
  obtain ⟨c0, c1⟩ := hx5.cells
  have hy5 := Box.new w5 (.int .i64 q) (.slice (some ⟨w4.heap.size + 3, 0, none⟩) n n)
  have g5a := bfrom g5 (below1 w5 (.cells #[.int .i64 q, .slice (some ⟨w4.heap.size + 3, 0, none⟩) n n] 29))
  have hx5a := hx5.alloc (.cells #[.int .i64 q, .slice (some ⟨w4.heap.size + 3, 0, none⟩) n n] 29)
  have hi5a := Lib.hid (hi5'.out.alloc (.cells #[.int .i64 q, .slice (some ⟨w4.heap.size + 3, 0, none⟩) n n] 29))
  go_wp2_with fail
  refine (giverGains_any q _ n n ws z1 z2 z3 _ hm (Known.of hi5a.out) hz1 hz2 hz3).mono ?_
  rintro e w7 ⟨rfl, hb7⟩
  generalize gvG q ws n z1 z2 z3 = r0; generalize giveOk q ws n z1 z2 z3 = r1
  have g7 := bfrom g5a hb7
  have hx7 := hx5a.now hb7
  have hy7 := hy5.now hb7
  have hi7 := Lib.hid (hi5a.out.now hb7)
  clear c0 c1
  obtain ⟨c0, c1⟩ := hx7.cells
  obtain ⟨d0, d1⟩ := hy7.cells
  go_wp2_with fail
  clear hx0 hb0 hb1 g1 hx1 hk1 hb2 g2 hx2 hi2' hb4 g4 hx4 hb5 g5 hx5 hi5' hy5 g5a hx5a hi5a hb7
  go_region_held3 (fun w' => w'.cell? ⟨w.heap.size, 0, none⟩ = some (.int .i64 q) ∧ w'.cell? ⟨w.heap.size, 1, none⟩ = some (.slice A n cap) ∧ w'.cell? ⟨w5.heap.size, 0, none⟩ = some (.int .i64 q) ∧ w'.cell? ⟨w5.heap.size, 1, none⟩ = some (.slice (some ⟨w4.heap.size + 3, 0, none⟩) n n))
    (first | go_keep | exact ⟨c80, c81, d80, d81⟩ | exact ⟨c90, c91, d90, d91⟩)
    (first
      | (go_at_call 17; refine (toCommittee_any q A n cap ws _ hn' (HK.out.now g7.drew)).mono ?_; rintro e w8 ⟨rfl, hi8, hb8⟩; have hi8' := Lib.hid hi8; clear hi8; obtain ⟨c80, c81⟩ := (hx7.drew.now hb8).cells; obtain ⟨d80, d81⟩ := (hy7.drew.now hb8).cells)
      | (go_at_call 20; refine (eqCommittee_same q _ _ n n _ _ n ws _ hm (hi7.out.drew.now hb8) hi8'.out.sl).mono ?_; rintro e w9 ⟨rfl, hb9⟩; obtain ⟨c90, c91⟩ := ((hx7.drew.now hb8).now hb9).cells; obtain ⟨d90, d91⟩ := ((hy7.drew.now hb8).now hb9).cells))
  go_wp2
  go_ret
  exact ⟨rfl, bfrom (bfrom g7.drew hb8) hb9⟩

end Go.Proofs.Ytlnlkfldlgchhab
