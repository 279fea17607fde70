/- Contracts of TotalWeight, WeightOfSet, IsWinning, IsBlocking. -/
import Derived.Test.YtibmaofcnibjnaaW2
namespace Go.Proofs.Ytibmaofcnibjnaa
open Go.RowKit Vo

theorem Sl.congr {w : World} {b off n : Nat} {xs ys : List Int} (h : Sl w b off n xs) (e : ∀ j, j < n → xs.getD j 0 = ys.getD j 0) : Sl w b off n ys :=
  ⟨h.lt, fun j hj => by rw [h.cell j hj, e j hj]⟩

theorem sumK_bd2 {B : Int} {ws : List Int} {k : Nat} (h : InK 0 B ws k) : 0 ≤ sumK ws k ∧ sumK ws k ≤ B * k := by
  induction k with
  | zero => simp [sumK]
  | succ k ih =>
    have h1 := ih (h.mono (by omega)); have h2 := h k (by omega)
    simp only [sumK]
    rw [show (B * ((k + 1 : Nat) : Int)) = B * (k : Int) + B from by push_cast; rw [Int.mul_add]; simp]
    omega
end Go.Proofs.Ytibmaofcnibjnaa

namespace Go.Proofs.Ytibmaofcnibjnaa
open Go.RowKit Vo

def totB (q : Int) (ws : List Int) (n : Nat) : Int := if goodB q ws n then sumK ws n else 0
theorem totB_yes {q ws n} (h : goodB q ws n = true) : totB q ws n = sumK ws n := if_pos h
theorem totB_no {q ws n} (h : goodB q ws n = false) : totB q ws n = 0 := if_neg (by rw [h]; simp)
def wtB (q : Int) (ws : List Int) (n : Nat) (xs : List Int) (m : Nat) : Int := if okB q ws n xs m then wtK ws (ofK xs m) n else 0
theorem wtB_yes {q ws n xs m} (h : okB q ws n xs m = true) : wtB q ws n xs m = wtK ws (ofK xs m) n := if_pos h
theorem wtB_no {q ws n xs m} (h : okB q ws n xs m = false) : wtB q ws n xs m = 0 := if_neg (by rw [h]; simp)
theorem okB_parts {q : Int} {ws : List Int} {n : Nat} {xs : List Int} {m : Nat} (h : okB q ws n xs m = true) : Vo.Good q ws n ∧ RiseK n xs m := by
  unfold okB goodB riseB at h
  simpa using h

set_option maxHeartbeats 1000000 in
theorem totalWeight_any (q : Int) (A : Option Addr) (n cap : Nat) (ws : List Int) (w : World) (hm : n ≤ 9223372036854775807) (hk : Known w A n ws) :
    Calls Try.prog 12 #[.agg #[.int .i64 q, .slice A n cap]] w fun e w' =>
      e = .returned (.tuple #[.int .i64 (totB q ws n), .bool (goodB q ws n)]) ∧ Below w.heap.size w w' := by
  have HK := Lib.hid hk
  clear hk
  have hx := Box.new w (.int .i64 q) (.slice A n cap)
  have hb0 := below1 w (.cells #[.int .i64 q, .slice A n cap] 24)
  by_cases hg : Vo.Good q ws n
  · obtain ⟨b, off, rfl, hsl⟩ := HK.out.get hg.lo
    have HSL := Lib.hid hsl
    have HOK := Lib.hid hg.ok
    have HGB := Lib.hid (goodB_true hg)
    have hn9 := hg.hi
    clear hg hsl
    go_enter Try.func12, Try.ntmps12
    go_wp2_with fail
    refine (isCommittee_any q _ n cap ws _ hm (HK.out.now hb0)).mono ?_
    rintro e w1 ⟨rfl, hb⟩
    rw [HGB.out]
    have hx1 := hx.now hb
    obtain ⟨hc0, hc1⟩ := hx1.cells
    go_wp2_with (first
      | (go_at_call 48; refine (total_any _ b off n cap ws _ (by omega) HOK.out ((HSL.out.now hb0).now hb)).mono ?_; rintro e w3 ⟨rfl, hb3⟩)
      | fail)
    go_ret2
    exact ⟨by rw [totB_yes HGB.out, HGB.out]; rfl, bfrom hb0 (bfrom hb hb3)⟩
  · have HGB := Lib.hid (goodB_false hg)
    clear hg
    go_enter Try.func12, Try.ntmps12
    go_wp2_with fail
    refine (isCommittee_any q A n cap ws _ hm (HK.out.now hb0)).mono ?_
    rintro e w1 ⟨rfl, hb⟩
    rw [HGB.out]
    go_wp2
    go_ret2
    exact ⟨by rw [totB_no HGB.out, HGB.out]; rfl, bfrom hb0 hb⟩

set_option maxHeartbeats 1000000 in
theorem weightOfSet_any (q : Int) (A : Option Addr) (n cap : Nat) (ws : List Int) (b2 off2 m cap2 : Nat) (xs : List Int) (w : World) (hm : n ≤ 9223372036854775807) (hk : Known w A n ws) (hm2 : m ≤ 9223372036854775807) (hs : Sl w b2 off2 m xs) :
    Calls Try.prog 10 #[.agg #[.int .i64 q, .slice A n cap], .slice (some ⟨b2, off2, none⟩) m cap2] w fun e w' =>
      e = .returned (.tuple #[.int .i64 (wtB q ws n xs m), .bool (okB q ws n xs m)]) ∧ Below w.heap.size w w' := by
  have HK := Lib.hid hk
  have HSL := Lib.hid hs
  clear hk hs
  have hx := Box.new w (.int .i64 q) (.slice A n cap)
  have hb0 := below1 w (.cells #[.int .i64 q, .slice A n cap] 24)
  cases hok : okB q ws n xs m with
  | true =>
    have HE := Lib.hid hok
    obtain ⟨hg, hr⟩ := okB_parts hok
    obtain ⟨b, off, rfl, hsl⟩ := HK.out.get hg.lo
    have HW := Lib.hid hsl
    have HOK := Lib.hid hg.ok
    have hn10 : n < 10 := by have := hg.hi; omega
    have hs2 := ofK_lt hr
    have hs512 : ofK xs m < 512 := by have := pow_lt hg.hi; omega
    clear hg hr hok hsl
    go_enter Try.func10, Try.ntmps10
    go_wp2_with fail
    refine (committeeSet_any q _ n cap ws b2 off2 m cap2 xs _ hm (HK.out.now hb0) hm2 (HSL.out.now hb0)).mono ?_
    rintro e w1 ⟨rfl, hb⟩
    rw [HE.out, okS_yes HE.out]
    obtain ⟨hc0, hc1⟩ := (hx.now hb).cells
    go_wp2_with fail
    refine (weightOf_any _ b off n cap ws (ofK xs m) _ hn10 hs512 HOK.out ((HW.out.now hb0).now hb)).mono ?_
    rintro e w2 ⟨rfl, hb2⟩
    go_wp2
    go_ret2
    exact ⟨by rw [wtB_yes HE.out]; rfl, bfrom hb0 (bfrom hb hb2)⟩
  | false =>
    have HE := Lib.hid hok
    clear hok
    go_enter Try.func10, Try.ntmps10
    go_wp2_with fail
    refine (committeeSet_any q _ n cap ws b2 off2 m cap2 xs _ hm (HK.out.now hb0) hm2 (HSL.out.now hb0)).mono ?_
    rintro e w1 ⟨rfl, hb⟩
    rw [HE.out]
    go_wp2
    go_ret2
    exact ⟨by rw [wtB_no HE.out]; rfl, bfrom hb0 hb⟩

set_option maxHeartbeats 1000000 in
theorem isWinning_any (q : Int) (A : Option Addr) (n cap : Nat) (ws : List Int) (b2 off2 m cap2 : Nat) (xs : List Int) (w : World) (hm : n ≤ 9223372036854775807) (hk : Known w A n ws) (hm2 : m ≤ 9223372036854775807) (hs : Sl w b2 off2 m xs) :
    Calls Try.prog 6 #[.agg #[.int .i64 q, .slice A n cap], .slice (some ⟨b2, off2, none⟩) m cap2] w fun e w' =>
      e = .returned (.tuple #[.bool (okB q ws n xs m && decide (q ≤ wtK ws (ofK xs m) n)), .bool (okB q ws n xs m)]) ∧ Below w.heap.size w w' := by
  have HK := Lib.hid hk
  have HSL := Lib.hid hs
  clear hk hs
  have hx := Box.new w (.int .i64 q) (.slice A n cap)
  have hb0 := below1 w (.cells #[.int .i64 q, .slice A n cap] 24)
  cases hok : okB q ws n xs m with
  | true =>
    have HE := Lib.hid hok
    obtain ⟨hg, hr⟩ := okB_parts hok
    obtain ⟨b, off, rfl, hsl⟩ := HK.out.get hg.lo
    have HW := Lib.hid hsl
    have HOK := Lib.hid hg.ok
    have hn10 : n < 10 := by have := hg.hi; omega
    have hs2 := ofK_lt hr
    have hs512 : ofK xs m < 512 := by have := pow_lt hg.hi; omega
    clear hg hr hok hsl
    go_enter Try.func6, Try.ntmps6
    go_wp2_with fail
    refine (committeeSet_any q _ n cap ws b2 off2 m cap2 xs _ hm (HK.out.now hb0) hm2 (HSL.out.now hb0)).mono ?_
    rintro e w1 ⟨rfl, hb⟩
    rw [HE.out, okS_yes HE.out]
    obtain ⟨hc0, hc1⟩ := (hx.now hb).cells
    go_wp2_with fail
    refine (wins_any q b off n cap ws (ofK xs m) _ hn10 hs512 HOK.out ((HW.out.now hb0).now hb)).mono ?_
    rintro e w2 ⟨rfl, hb2⟩
    go_wp2
    go_ret2
    exact ⟨by first | rfl | simp, bfrom hb0 (bfrom hb hb2)⟩
  | false =>
    have HE := Lib.hid hok
    clear hok
    go_enter Try.func6, Try.ntmps6
    go_wp2_with fail
    refine (committeeSet_any q _ n cap ws b2 off2 m cap2 xs _ hm (HK.out.now hb0) hm2 (HSL.out.now hb0)).mono ?_
    rintro e w1 ⟨rfl, hb⟩
    rw [HE.out]
    go_wp2
    go_ret2
    exact ⟨by first | rfl | simp, bfrom hb0 hb⟩

set_option maxHeartbeats 1000000 in
theorem isBlocking_any (q : Int) (A : Option Addr) (n cap : Nat) (ws : List Int) (b2 off2 m cap2 : Nat) (xs : List Int) (w : World) (hm : n ≤ 9223372036854775807) (hk : Known w A n ws) (hm2 : m ≤ 9223372036854775807) (hs : Sl w b2 off2 m xs) :
    Calls Try.prog 8 #[.agg #[.int .i64 q, .slice A n cap], .slice (some ⟨b2, off2, none⟩) m cap2] w fun e w' =>
      e = .returned (.tuple #[.bool (okB q ws n xs m && !decide (q ≤ wtK ws (co n (ofK xs m)) n)), .bool (okB q ws n xs m)]) ∧ Below w.heap.size w w' := by
  have HK := Lib.hid hk
  have HSL := Lib.hid hs
  clear hk hs
  have hx := Box.new w (.int .i64 q) (.slice A n cap)
  have hb0 := below1 w (.cells #[.int .i64 q, .slice A n cap] 24)
  cases hok : okB q ws n xs m with
  | true =>
    have HE := Lib.hid hok
    obtain ⟨hg, hr⟩ := okB_parts hok
    obtain ⟨b, off, rfl, hsl⟩ := HK.out.get hg.lo
    have HW := Lib.hid hsl
    have HOK := Lib.hid hg.ok
    have hn10 : n < 10 := by have := hg.hi; omega
    have hs2 := ofK_lt hr
    have hs512 : ofK xs m < 512 := by have := pow_lt hg.hi; omega
    clear hg hr hok hsl
    go_enter Try.func8, Try.ntmps8
    go_wp2_with fail
    refine (committeeSet_any q _ n cap ws b2 off2 m cap2 xs _ hm (HK.out.now hb0) hm2 (HSL.out.now hb0)).mono ?_
    rintro e w1 ⟨rfl, hb⟩
    rw [HE.out, okS_yes HE.out]
    obtain ⟨hc0, hc1⟩ := (hx.now hb).cells
    go_wp2_with fail
    refine (blocks_any q b off n cap ws (ofK xs m) _ hn10 hs2 HOK.out ((HW.out.now hb0).now hb)).mono ?_
    rintro e w2 ⟨rfl, hb2⟩
    go_wp2
    go_ret2
    exact ⟨by first | rfl | simp, bfrom hb0 (bfrom hb hb2)⟩
  | false =>
    have HE := Lib.hid hok
    clear hok
    go_enter Try.func8, Try.ntmps8
    go_wp2_with fail
    refine (committeeSet_any q _ n cap ws b2 off2 m cap2 xs _ hm (HK.out.now hb0) hm2 (HSL.out.now hb0)).mono ?_
    rintro e w1 ⟨rfl, hb⟩
    rw [HE.out]
    go_wp2
    go_ret2
    exact ⟨by first | rfl | simp, bfrom hb0 hb⟩
end Go.Proofs.Ytibmaofcnibjnaa
