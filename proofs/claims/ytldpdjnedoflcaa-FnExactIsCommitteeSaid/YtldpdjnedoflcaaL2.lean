/- The laws of the functions that answer with numbers and truths. -/
import Derived.Test.YtldpdjnedoflcaaL1
import Derived.Test.YtldpdjnedoflcaaS2
namespace Go.Proofs.Ytldpdjnedoflcaa
open Go.RowKit Vo

set_option maxHeartbeats 1000000 in
theorem lawIsCommittee (q : Int) (A : Option Addr) (n cap : Nat) (ws : List Int) (w : World) (hm : n ≤ 9223372036854775807) (hk : Known w A n ws) :
    Calls Try.prog 3 #[.agg #[.int .i64 q, .slice A n cap]] w fun e w' => e = .returned (.bool true) ∧ Below w.heap.size w w' := by
  have HK := Lib.hid hk
  clear hk
  have hx := BoxT.new 24 w (.int .i64 q) (.slice A n cap)
  have hb0 := below1 w (.cells #[.int .i64 q, .slice A n cap] 24)
  by_cases hn : n ≤ 1048576
  · go_enter Try.func3, Try.ntmps3
    go_wp2_with fail
    refine (szCommittee_yes _ A n cap _ hn).mono ?_
    rintro e w1 ⟨rfl, hb1⟩
    have hx1 := hx.now hb1
    have hk1 := Lib.hid ((HK.out.now hb0).now hb1)
    obtain ⟨c10, c11⟩ := hx1.cells
    go_wp2_with fail
    refine (toCommittee_any q A n cap ws _ hn hk1.out).mono ?_
    rintro e w2 ⟨rfl, hi2, hb2⟩
    have hx2 := hx1.now hb2
    have hk2 := Lib.hid (hk1.out.now hb2)
    obtain ⟨c20, c21⟩ := hx2.cells
    have hi2' := Lib.hid hi2
    clear hi2
    go_wp2_with fail
    refine (sIsCommittee_any q _ n n ws _ hm (Known.of hi2'.out.sl)).mono ?_
    rintro e w3 ⟨rfl, hb3⟩
    have hx3 := hx2.now hb3
    have hk3 := Lib.hid (hk2.out.now hb3)
    obtain ⟨c30, c31⟩ := hx3.cells
    go_wp2_with fail
    refine (toCommittee_any q A n cap ws _ hn hk3.out).mono ?_
    rintro e w4 ⟨rfl, hi4, hb4⟩
    have hx4 := hx3.now hb4
    have hk4 := Lib.hid (hk3.out.now hb4)
    obtain ⟨c40, c41⟩ := hx4.cells
    have hs4 := Lib.hid hi4.sl
    clear hi4
    have hy := Box.new w4 (.int .i64 q) (.slice (some ⟨w3.heap.size + 3, 0, none⟩) n n)
    go_wp2_with fail
    refine (isCommittee_any q _ n n ws _ hm (Known.of (hs4.out.alloc _))).mono ?_
    rintro e w5 ⟨rfl, hb5⟩
    have hx5 := (hx4.alloc _).now hb5
    have hy5 := hy.now hb5
    have hk5 := Lib.hid ((hk4.out.now (below1 w4 _)).now hb5)
    have hs5 := Lib.hid ((hs4.out.alloc _).now hb5)
    obtain ⟨c50, c51⟩ := hx5.cells
    obtain ⟨d50, d51⟩ := hy5.cells
    go_wp2_with fail
    go_region_held3 (fun w' => w'.cell? ⟨w.heap.size, 0, none⟩ = some (.int .i64 q) ∧ w'.cell? ⟨w.heap.size, 1, none⟩ = some (.slice A n cap) ∧ w'.cell? ⟨w4.heap.size, 0, none⟩ = some (.int .i64 q) ∧ w'.cell? ⟨w4.heap.size, 1, none⟩ = some (.slice (some ⟨w3.heap.size + 3, 0, none⟩) n n))
      (first | go_keep | exact ⟨c60, c61, d60, d61⟩ | exact ⟨c70, c71, d70, d71⟩)
      (first
        | (go_at_call 17; refine (toCommittee_any q A n cap ws _ hn (hk5.out.now ((Below.refl _ _).drew))).mono ?_; rintro e w6 ⟨rfl, hi6, hb6⟩; have hi6' := Lib.hid hi6; clear hi6; obtain ⟨c60, c61⟩ := (hx5.drew.now hb6).cells; obtain ⟨d60, d61⟩ := (hy5.drew.now hb6).cells)
        | (go_at_call 19; refine (eqCommittee_same q _ _ n n _ _ n ws _ hm (hs5.out.drew.now hb6) hi6'.out.sl).mono ?_; rintro e w7 ⟨rfl, hb7⟩; obtain ⟨c70, c71⟩ := ((hx5.drew.now hb6).now hb7).cells; obtain ⟨d70, d71⟩ := ((hy5.drew.now hb6).now hb7).cells))
    go_wp2
    go_ret
    exact ⟨rfl, bfrom hb0 (bfrom hb1 (bfrom hb2 (bfrom hb3 (bfrom hb4 (bfrom (below1 w4 _) (bfrom hb5.drew (bfrom hb6 hb7)))))))⟩
  · go_enter Try.func3, Try.ntmps3
    go_wp2_with fail
    refine (szCommittee_no _ A n cap _ hm (by omega)).mono ?_
    rintro e w1 ⟨rfl, hb1⟩
    go_wp2
    go_ret
    exact ⟨rfl, bfrom hb0 hb1⟩
end Go.Proofs.Ytldpdjnedoflcaa
