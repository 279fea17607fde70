/- Contracts of CompareShares, the program's and the model's; what the laws do with shares. -/
import Derived.Laws.StructEq
import Derived.Outline
import Derived.Test.YtipplbcjdcdapabDoorQ0
import Derived.Deep.RegionHeld3
namespace Go.Proofs.YtipplbcjdcdapabDoor
open Go.RowKit Vo

set_option maxHeartbeats 1000000 in
theorem isShare_any (x y : Int) (w : World) :
    Calls Tryd.prog 63 #[.agg #[.int .i64 x, .int .i64 y]] w fun e w' => e = .returned (.bool (sgB x y)) ∧ Below w.heap.size w w' := by
  have hb0 := below1 w (.cells #[.int .i64 x, .int .i64 y] 65)
  by_cases h1 : 1 ≤ y
  · by_cases h2 : y ≤ 1000000
    · by_cases h3 : 0 ≤ x
      · by_cases h4 : x ≤ y
        · obtain ⟨a, rfl⟩ : ∃ a : Nat, x = a := ⟨x.toNat, by omega⟩
          obtain ⟨b, rfl⟩ : ∃ b : Nat, y = b := ⟨y.toNat, by omega⟩
          have HV := Lib.hid (show sgB (a : Int) (b : Int) = (((Nat.gcd a b : Nat) : Int) == 1) from by
            by_cases h : Nat.gcd a b = 1
            · rw [sgB_yes (show Sg (a : Int) (b : Int) from ⟨by omega, by omega, by omega, by omega, by simpa using h⟩), h]; rfl
            · rw [sgB_no (fun g : Sg (a : Int) (b : Int) => h (by simpa using g.2.2.2.2))]; symm; simp; omega)
          have HG := Lib.hid (fun W => greatestDivisor_any a b W (by omega) (by omega))
          go_enter Tryd.func63, Tryd.ntmps63
          go_wp2_with (go_at_call 64; refine (HG.out _).mono ?_; rintro e w1 ⟨rfl, hb1⟩)
          go_ret
          exact ⟨by rw [HV.out]; simp, bfrom hb0 hb1⟩
        · have HV := Lib.hid (sgB_no (fun h : Sg x y => h4 h.2.2.2.1))
          go_enter Tryd.func63, Tryd.ntmps63
          go_wp2
          go_ret
          exact ⟨by rw [HV.out]; rfl, hb0⟩
      · have HV := Lib.hid (sgB_no (fun h : Sg x y => h3 h.2.2.1))
        have hd : decide (0 ≤ x) = false := by simpa using h3
        go_enter Tryd.func63, Tryd.ntmps63
        go_wp2
        go_ret
        exact ⟨by rw [HV.out]; simp, hb0⟩
    · have HV := Lib.hid (sgB_no (fun h : Sg x y => h2 h.2.1))
      have hd : decide (y ≤ 1000000) = false := by simpa using h2
      go_enter Tryd.func63, Tryd.ntmps63
      go_wp2
      go_ret
      exact ⟨by rw [HV.out]; simp, hb0⟩
  · have HV := Lib.hid (sgB_no (fun h : Sg x y => h1 h.1))
    have hd : decide (1 ≤ y) = false := by simpa using h1
    go_enter Tryd.func63, Tryd.ntmps63
    go_wp2
    go_ret
    exact ⟨by rw [HV.out]; simp, hb0⟩

end Go.Proofs.YtipplbcjdcdapabDoor

namespace Go.Proofs.YtipplbcjdcdapabDoor
open Go.RowKit Vo

theorem cmpOk_parts {x y u v : Int} (h : cmpOk x y u v = true) : Sg x y ∧ Sg u v := by
  unfold cmpOk sgB at h
  simpa using h

set_option maxHeartbeats 2000000 in
theorem compareShares_any (x y u v : Int) (w : World) :
    Calls Tryd.prog 53 #[.agg #[.int .i64 x, .int .i64 y], .agg #[.int .i64 u, .int .i64 v]] w fun e w' => e = .returned (.tuple #[.int .i64 (cmpR x y u v), .bool (cmpOk x y u v)]) ∧ Below w.heap.size w w' := by
  have hb0 : Below w.heap.size w ((w.alloc (.cells #[.int .i64 x, .int .i64 y] 65)).alloc (.cells #[.int .i64 u, .int .i64 v] 65)) := (below1 w _).alloc (by simp) _
  have ha := (BoxT.new 65 w (.int .i64 x) (.int .i64 y)).alloc (.cells #[.int .i64 u, .int .i64 v] 65)
  have hb := BoxT.new 65 (w.alloc (.cells #[.int .i64 x, .int .i64 y] 65)) (.int .i64 u) (.int .i64 v)
  simp only [World.size_alloc] at hb
  cases h1 : sgB x y with
  | false =>
    have H1 := Lib.hid h1
    have HO := Lib.hid (show cmpOk x y u v = false from by unfold cmpOk; rw [h1]; rfl)
    clear h1
    go_enter Tryd.func53, Tryd.ntmps53
    go_wp2_with fail
    refine (isShare_any x y _).mono ?_
    rintro e w1 ⟨rfl, hb1⟩
    rw [H1.out]
    go_wp2
    go_ret2
    exact ⟨by rw [cmpR_no HO.out, HO.out]; rfl, bfrom hb0 hb1⟩
  | true =>
    cases h2 : sgB u v with
    | false =>
      have H1 := Lib.hid h1
      have H2 := Lib.hid h2
      have HO := Lib.hid (show cmpOk x y u v = false from by unfold cmpOk; rw [h1, h2]; rfl)
      clear h1 h2
      go_enter Tryd.func53, Tryd.ntmps53
      go_wp2_with fail
      refine (isShare_any x y _).mono ?_
      rintro e w1 ⟨rfl, hb1⟩
      rw [H1.out]
      obtain ⟨c0, c1⟩ := (hb.now hb1).cells
      go_wp2_with fail
      refine (isShare_any u v _).mono ?_
      rintro e w2 ⟨rfl, hb2⟩
      rw [H2.out]
      go_wp2
      go_ret2
      exact ⟨by rw [cmpR_no HO.out, HO.out]; rfl, bfrom hb0 (bfrom hb1 hb2)⟩
    | true =>
      have H1 := Lib.hid h1
      have H2 := Lib.hid h2
      have HO := Lib.hid (show cmpOk x y u v = true from by unfold cmpOk; rw [h1, h2]; rfl)
      have HS := Lib.hid (cmpOk_parts HO.out)
      obtain ⟨m1, m2⟩ := HS.out.1.prods HS.out.2
      have HV := Lib.hid (show cmpV x y u v = sgn (x * v - u * y) from rfl)
      have hw1 : wrap64 (x * v) = x * v := IntWalk.wrap64_in _ (by omega)
      have hw2 : wrap64 (u * y) = u * y := IntWalk.wrap64_in _ (by omega)
      clear h1 h2
      by_cases he : x = u ∧ y = v
      · obtain ⟨rfl, rfl⟩ := he
        have HZ := Lib.hid (show cmpV x y x y = 0 from by rw [HV.out, Int.sub_self]; rfl)
        go_enter Tryd.func53, Tryd.ntmps53
        go_wp2_with fail
        refine (isShare_any x y _).mono ?_
        rintro e w1 ⟨rfl, hb1⟩
        rw [H1.out]
        obtain ⟨c0, c1⟩ := (hb.now hb1).cells
        go_wp2_with fail
        refine (isShare_any x y _).mono ?_
        rintro e w2 ⟨rfl, hb2⟩
        rw [H2.out]
        clear c0 c1
        obtain ⟨c0, c1⟩ := ((hb.now hb1).now hb2).cells
        obtain ⟨d0, d1⟩ := ((ha.now hb1).now hb2).cells
        go_wp2
        go_ret2
        exact ⟨by rw [cmpR_yes HO.out, HO.out, HZ.out]; rfl, bfrom hb0 (bfrom hb1 hb2)⟩
      · have hne : x * v ≠ u * y := fun h => he (same_share HS.out.1 HS.out.2 h)
        by_cases hxu : x = u
        · subst hxu
          have hye : (y == v) = false := by simp; exact fun h => he ⟨rfl, h⟩
          clear he
          rcases Int.lt_or_gt_of_ne hne with hlt | hlt
          · have HZ := Lib.hid (show cmpV x y x v = -1 from by rw [HV.out]; exact sgn_neg (by omega))
            go_enter Tryd.func53, Tryd.ntmps53
            go_wp2_with fail
            refine (isShare_any x y _).mono ?_
            rintro e w1 ⟨rfl, hb1⟩
            rw [H1.out]
            obtain ⟨c0, c1⟩ := (hb.now hb1).cells
            go_wp2_with fail
            refine (isShare_any x v _).mono ?_
            rintro e w2 ⟨rfl, hb2⟩
            rw [H2.out]
            clear c0 c1
            obtain ⟨c0, c1⟩ := ((hb.now hb1).now hb2).cells
            obtain ⟨d0, d1⟩ := ((ha.now hb1).now hb2).cells
            go_wp2
            go_ret2
            exact ⟨by rw [cmpR_yes HO.out, HO.out, HZ.out]; rfl, bfrom hb0 (bfrom hb1 hb2)⟩
          · have HZ := Lib.hid (show cmpV x y x v = 1 from by rw [HV.out]; exact sgn_pos (by omega))
            have hd : decide (x * v < x * y) = false := by simp; omega
            go_enter Tryd.func53, Tryd.ntmps53
            go_wp2_with fail
            refine (isShare_any x y _).mono ?_
            rintro e w1 ⟨rfl, hb1⟩
            rw [H1.out]
            obtain ⟨c0, c1⟩ := (hb.now hb1).cells
            go_wp2_with fail
            refine (isShare_any x v _).mono ?_
            rintro e w2 ⟨rfl, hb2⟩
            rw [H2.out]
            clear c0 c1
            obtain ⟨c0, c1⟩ := ((hb.now hb1).now hb2).cells
            obtain ⟨d0, d1⟩ := ((ha.now hb1).now hb2).cells
            go_wp2
            go_ret2
            exact ⟨by rw [cmpR_yes HO.out, HO.out, HZ.out]; rfl, bfrom hb0 (bfrom hb1 hb2)⟩
        · have hxe : (x == u) = false := by simpa using hxu
          clear he
          rcases Int.lt_or_gt_of_ne hne with hlt | hlt
          · have HZ := Lib.hid (show cmpV x y u v = -1 from by rw [HV.out]; exact sgn_neg (by omega))
            go_enter Tryd.func53, Tryd.ntmps53
            go_wp2_with fail
            refine (isShare_any x y _).mono ?_
            rintro e w1 ⟨rfl, hb1⟩
            rw [H1.out]
            obtain ⟨c0, c1⟩ := (hb.now hb1).cells
            go_wp2_with fail
            refine (isShare_any u v _).mono ?_
            rintro e w2 ⟨rfl, hb2⟩
            rw [H2.out]
            clear c0 c1
            obtain ⟨c0, c1⟩ := ((hb.now hb1).now hb2).cells
            obtain ⟨d0, d1⟩ := ((ha.now hb1).now hb2).cells
            go_wp2
            go_ret2
            exact ⟨by rw [cmpR_yes HO.out, HO.out, HZ.out]; rfl, bfrom hb0 (bfrom hb1 hb2)⟩
          · have HZ := Lib.hid (show cmpV x y u v = 1 from by rw [HV.out]; exact sgn_pos (by omega))
            have hd : decide (x * v < u * y) = false := by simp; omega
            go_enter Tryd.func53, Tryd.ntmps53
            go_wp2_with fail
            refine (isShare_any x y _).mono ?_
            rintro e w1 ⟨rfl, hb1⟩
            rw [H1.out]
            obtain ⟨c0, c1⟩ := (hb.now hb1).cells
            go_wp2_with fail
            refine (isShare_any u v _).mono ?_
            rintro e w2 ⟨rfl, hb2⟩
            rw [H2.out]
            clear c0 c1
            obtain ⟨c0, c1⟩ := ((hb.now hb1).now hb2).cells
            obtain ⟨d0, d1⟩ := ((ha.now hb1).now hb2).cells
            go_wp2
            go_ret2
            exact ⟨by rw [cmpR_yes HO.out, HO.out, HZ.out]; rfl, bfrom hb0 (bfrom hb1 hb2)⟩

/- What the laws do with shares. -/
end Go.Proofs.YtipplbcjdcdapabDoor
