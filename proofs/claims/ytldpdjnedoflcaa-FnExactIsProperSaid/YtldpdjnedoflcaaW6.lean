/- Contracts of the program's IsProper and IsStrong, by the rule that any game asks. -/
import Derived.Test.YtldpdjnedoflcaaJ5
import Derived.Test.YtldpdjnedoflcaaW5
namespace Go.Proofs.Ytldpdjnedoflcaa
open Go.RowKit Vo

set_option maxHeartbeats 1000000 in
theorem isProper_any (q : Int) (A : Option Addr) (n cap : Nat) (ws : List Int) (w : World) (hm : n ≤ 9223372036854775807) (hk : Known w A n ws) :
    Calls Try.prog 42 #[.agg #[.int .i64 q, .slice A n cap]] w fun e w' =>
      e = .returned (.tuple #[.bool (isProperB q ws n), .bool (goodB q ws n)]) ∧ Below w.heap.size w w' := by
  have HK := Lib.hid hk
  clear hk
  have hx := Box.new w (.int .i64 q) (.slice A n cap)
  have hb0 := below1 w (.cells #[.int .i64 q, .slice A n cap] 27)
  by_cases hg : Vo.Good q ws n
  · obtain ⟨b, off, rfl, hsl⟩ := HK.out.get hg.lo
    have HSL := Lib.hid hsl
    have HOK := Lib.hid hg.ok
    have HGB := Lib.hid (goodB_true hg)
    have hn9 := hg.hi
    have hn10 : n < 10 := by omega
    clear hg hsl
    go_enter Try.func42, Try.ntmps42
    go_wp2_with fail
    refine (isCommittee_any q _ n cap ws _ hm (HK.out.now hb0)).mono ?_
    rintro e w1 ⟨rfl, hb⟩
    rw [HGB.out]
    have hx1 := hx.now hb
    have hs1 := Lib.hid ((HSL.out.now hb0).now hb)
    obtain ⟨hc0, hc1⟩ := hx1.cells
    go_wp2_with fail
    go_region_held3 (fun w' => w'.cell? ⟨w.heap.size, 0, none⟩ = some (.int .i64 q) ∧ w'.cell? ⟨w.heap.size, 1, none⟩ = some (.slice (some ⟨b, off, none⟩) n cap))
      (first | exact hd | exact hd2 | exact hx1.cells | go_keep)
      (first
        | (go_at_call 63; refine (members_any _ _ n cap _).mono ?_; rintro e w2 ⟨rfl, hb2⟩; have hd := (hx1.drew.now hb2).cells)
        | (go_at_call 71; refine (isProperRule_any (winB q ws n) _ _ _ n _ hn10 (wins_asks q b off n cap ws _ hn10 HOK.out (hs1.out.drew.now hb2))).mono ?_; rintro e w3 ⟨rfl, hb3⟩; have hd2 := ((hx1.drew.now hb2).now hb3).cells))
    all_goals
      go_wp2
      go_ret2
      exact ⟨by rw [isProperB_yes HGB.out, HGB.out]; rfl, bfrom hb0 (bfrom hb.drew (bfrom hb2 hb3))⟩
  · have HGB := Lib.hid (goodB_false hg)
    clear hg
    go_enter Try.func42, Try.ntmps42
    go_wp2_with fail
    refine (isCommittee_any q A n cap ws _ hm (HK.out.now hb0)).mono ?_
    rintro e w1 ⟨rfl, hb⟩
    rw [HGB.out]
    go_wp2
    go_ret2
    exact ⟨by rw [isProperB_no HGB.out, HGB.out]; rfl, bfrom hb0 hb⟩

set_option maxHeartbeats 1000000 in
theorem isStrong_any (q : Int) (A : Option Addr) (n cap : Nat) (ws : List Int) (w : World) (hm : n ≤ 9223372036854775807) (hk : Known w A n ws) :
    Calls Try.prog 44 #[.agg #[.int .i64 q, .slice A n cap]] w fun e w' =>
      e = .returned (.tuple #[.bool (isStrongB q ws n), .bool (goodB q ws n)]) ∧ Below w.heap.size w w' := by
  have HK := Lib.hid hk
  clear hk
  have hx := Box.new w (.int .i64 q) (.slice A n cap)
  have hb0 := below1 w (.cells #[.int .i64 q, .slice A n cap] 27)
  by_cases hg : Vo.Good q ws n
  · obtain ⟨b, off, rfl, hsl⟩ := HK.out.get hg.lo
    have HSL := Lib.hid hsl
    have HOK := Lib.hid hg.ok
    have HGB := Lib.hid (goodB_true hg)
    have hn9 := hg.hi
    have hn10 : n < 10 := by omega
    clear hg hsl
    go_enter Try.func44, Try.ntmps44
    go_wp2_with fail
    refine (isCommittee_any q _ n cap ws _ hm (HK.out.now hb0)).mono ?_
    rintro e w1 ⟨rfl, hb⟩
    rw [HGB.out]
    have hx1 := hx.now hb
    have hs1 := Lib.hid ((HSL.out.now hb0).now hb)
    obtain ⟨hc0, hc1⟩ := hx1.cells
    go_wp2_with fail
    go_region_held3 (fun w' => w'.cell? ⟨w.heap.size, 0, none⟩ = some (.int .i64 q) ∧ w'.cell? ⟨w.heap.size, 1, none⟩ = some (.slice (some ⟨b, off, none⟩) n cap))
      (first | exact hd | exact hd2 | exact hx1.cells | go_keep)
      (first
        | (go_at_call 63; refine (members_any _ _ n cap _).mono ?_; rintro e w2 ⟨rfl, hb2⟩; have hd := (hx1.drew.now hb2).cells)
        | (go_at_call 72; refine (isStrongRule_any (winB q ws n) _ _ _ n _ hn10 (wins_asks q b off n cap ws _ hn10 HOK.out (hs1.out.drew.now hb2))).mono ?_; rintro e w3 ⟨rfl, hb3⟩; have hd2 := ((hx1.drew.now hb2).now hb3).cells))
    all_goals
      go_wp2
      go_ret2
      exact ⟨by rw [isStrongB_yes HGB.out, HGB.out]; rfl, bfrom hb0 (bfrom hb.drew (bfrom hb2 hb3))⟩
  · have HGB := Lib.hid (goodB_false hg)
    clear hg
    go_enter Try.func44, Try.ntmps44
    go_wp2_with fail
    refine (isCommittee_any q A n cap ws _ hm (HK.out.now hb0)).mono ?_
    rintro e w1 ⟨rfl, hb⟩
    rw [HGB.out]
    go_wp2
    go_ret2
    exact ⟨by rw [isStrongB_no HGB.out, HGB.out]; rfl, bfrom hb0 hb⟩
end Go.Proofs.Ytldpdjnedoflcaa
