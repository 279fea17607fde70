/- Contract of the program's CountWinningOf. -/
import Derived.Test.YtldpdjnedoflcaaC1
import Derived.Deep.RegionWith
namespace Go.Proofs.Ytldpdjnedoflcaa
open Go.RowKit Vo

theorem of_asks (q : Int) (b off n cap g g2 : Nat) (ws : List Int) (z : Int) (w : World) (hn : n < 10) (hok : InK 0 1000 ws n) (hsl : Sl w b off n ws) (hx : Box w g (.int .i64 q) (.slice (some ⟨b, off, none⟩) n cap)) (hi : BoxI w g2 (.int .i64 z)) :
    Asks (sizeP q ws n z) 66 #[] #[.pointer (some ⟨g2, 0, none⟩), .pointer (some ⟨g, 0, none⟩)] n w :=
  ⟨enters_of Try.func66 (by kernel_rfl) rfl, fun W s hs hb => of1_any q b off n cap g g2 ws z s W hn hs hok (hsl.now hb) (hx.now hb) (hi.now hb)⟩

set_option maxRecDepth 20000 in
set_option maxHeartbeats 2000000 in
theorem countWinningOf_any (q : Int) (A : Option Addr) (n cap : Nat) (ws : List Int) (z : Int) (w : World) (hm : n ≤ 9223372036854775807) (hk : Known w A n ws) (_hz : (Lit.int .i64 z).wf = true) :
    Calls Try.prog 33 #[.agg #[.int .i64 q, .slice A n cap], .int .i64 z] w fun e w' =>
      e = .returned (.tuple #[.int .i64 (cntOf q ws n z), .bool (ofOk q ws n z)]) ∧ Below w.heap.size w w' := by
  have HK := Lib.hid hk
  clear hk
  have hb0 : Below w.heap.size w ((w.alloc (.cells #[.int .i64 q, .slice A n cap] 27)).alloc (.cells #[.int .i64 z] 3)) := (below1 w _).alloc (by simp) _
  have hx := (Box.new w (.int .i64 q) (.slice A n cap)).alloc (.cells #[.int .i64 z] 3)
  have hi := BoxI.new (w.alloc (.cells #[.int .i64 q, .slice A n cap] 27)) (.int .i64 z)
  simp only [World.size_alloc] at hi
  by_cases hg : Vo.Good q ws n
  · obtain ⟨b, off, rfl, hsl⟩ := HK.out.get hg.lo
    have HSL := Lib.hid hsl
    have HOK := Lib.hid hg.ok
    have HGB := Lib.hid (goodB_true hg)
    have hn9 := hg.hi
    have hn10 : n < 10 := by omega
    clear hg hsl
    by_cases hz0 : z < 0
    · have HF := Lib.hid (show ofOk q ws n z = false from by unfold ofOk; rw [inB_no (by omega)]; simp)
      go_enter Try.func33, Try.ntmps33
      go_wp2_with fail
      go_region_with (go_at_call 18; refine (isCommittee_any q _ n cap ws _ hm (HK.out.now hb0.drew)).mono ?_; rintro e w2 ⟨rfl, hb2⟩; rw [HGB.out]; obtain ⟨hd0, hd1⟩ := (hx.drew.now hb2).cells; have hd3 := (hi.drew.now hb2).cell)
      all_goals
        go_wp2
        go_ret2
        exact ⟨by rw [cntOf_no HF.out, HF.out]; rfl, bfrom hb0.drew hb2⟩
    · by_cases hzn : (n : Int) < z
      · have HF := Lib.hid (show ofOk q ws n z = false from by unfold ofOk; rw [inB_no (by omega)]; simp)
        have hz1 : decide (z < 0) = false := by simpa using hz0
        go_enter Try.func33, Try.ntmps33
        go_wp2_with fail
        go_region_held3 (fun w' => w'.cell? ⟨w.heap.size, 0, none⟩ = some (.int .i64 q) ∧ w'.cell? ⟨w.heap.size, 1, none⟩ = some (.slice (some ⟨b, off, none⟩) n cap) ∧ w'.cell? ⟨w.heap.size + 1, 0, none⟩ = some (.int .i64 z))
          (first | go_keep | exact ⟨hd.1, hd.2, hd3⟩ | exact ⟨hd4.1, hd4.2, hd5⟩)
          (first
            | (go_at_call 18; refine (isCommittee_any q _ n cap ws _ hm (HK.out.now hb0.drew)).mono ?_; rintro e w2 ⟨rfl, hb2⟩; rw [HGB.out]; have hd := (hx.drew.now hb2).cells; have hd3 := (hi.drew.now hb2).cell)
            | (go_at_call 63; refine (members_any _ _ n cap _).mono ?_; rintro e w3 ⟨rfl, hb3⟩; have hd4 := ((hx.drew.now hb2).now hb3).cells; have hd5 := ((hi.drew.now hb2).now hb3).cell))
        all_goals
          go_wp2
          go_ret2
          exact ⟨by rw [cntOf_no HF.out, HF.out]; rfl, bfrom hb0.drew (bfrom hb2 hb3)⟩
      · have HF := Lib.hid (show ofOk q ws n z = true from by unfold ofOk; rw [HGB.out, inB_yes (by omega) (by omega)]; rfl)
        have hz1 : decide (z < 0) = false := by simpa using hz0
        have hz2 : decide ((n : Int) < z) = false := by simpa using hzn
        go_enter Try.func33, Try.ntmps33
        go_wp2_with fail
        go_region_held3 (fun w' => w'.cell? ⟨w.heap.size, 0, none⟩ = some (.int .i64 q) ∧ w'.cell? ⟨w.heap.size, 1, none⟩ = some (.slice (some ⟨b, off, none⟩) n cap) ∧ w'.cell? ⟨w.heap.size + 1, 0, none⟩ = some (.int .i64 z))
          (first | go_keep | exact ⟨hd.1, hd.2, hd3⟩ | exact ⟨hd4.1, hd4.2, hd5⟩)
          (first
            | (go_at_call 18; refine (isCommittee_any q _ n cap ws _ hm (HK.out.now hb0.drew)).mono ?_; rintro e w2 ⟨rfl, hb2⟩; rw [HGB.out]; have hd := (hx.drew.now hb2).cells; have hd3 := (hi.drew.now hb2).cell)
            | (go_at_call 63; refine (members_any _ _ n cap _).mono ?_; rintro e w3 ⟨rfl, hb3⟩; have hd4 := ((hx.drew.now hb2).now hb3).cells; have hd5 := ((hi.drew.now hb2).now hb3).cell))
        all_goals
          have hx3 := (hx.drew.now hb2).now hb3
          have hi3 := (hi.drew.now hb2).now hb3
          have hs3 := Lib.hid (((HSL.out.now hb0).drew.now hb2).now hb3)
          have g3 := bfrom hb0.drew (bfrom hb2 hb3)
          clear hd hd3 hd4 hd5
          obtain ⟨hc0, hc1⟩ := hx3.cells
          go_wp2_with fail
          refine (members_any _ _ n cap _).mono ?_
          rintro e w4 ⟨rfl, hb4⟩
          go_wp2_with fail
          refine (countSets_any (sizeP q ws n z) _ _ _ n _ hn10 (of_asks q b off n cap w.heap.size (w.heap.size + 1) ws z _ hn10 HOK.out (hs3.out.now hb4) (hx3.now hb4) (hi3.now hb4))).mono ?_
          rintro e w5 ⟨rfl, hb5⟩
          go_wp2
          go_ret2
          exact ⟨by rw [cntOf_yes HF.out, HF.out]; rfl, bfrom g3 (bfrom hb4 hb5)⟩
  · have HGB := Lib.hid (goodB_false hg)
    have HF := Lib.hid (show ofOk q ws n z = false from by unfold ofOk; rw [HGB.out]; rfl)
    clear hg
    go_enter Try.func33, Try.ntmps33
    go_wp2_with fail
    go_region_with (go_at_call 18; refine (isCommittee_any q _ n cap ws _ hm (HK.out.now hb0.drew)).mono ?_; rintro e w2 ⟨rfl, hb2⟩; rw [HGB.out]; obtain ⟨hd0, hd1⟩ := (hx.drew.now hb2).cells; have hd3 := (hi.drew.now hb2).cell)
    all_goals
      go_wp2
      go_ret2
      exact ⟨by rw [cntOf_no HF.out, HF.out]; rfl, bfrom hb0.drew hb2⟩
end Go.Proofs.Ytldpdjnedoflcaa
