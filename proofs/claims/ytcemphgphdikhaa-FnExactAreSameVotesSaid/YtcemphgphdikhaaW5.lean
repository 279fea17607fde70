/- Contracts of CountWinning, IsProper, IsStrong, AreSameVotes. -/
import Derived.Test.YtcemphgphdikhaaW4
namespace Go.Proofs.Ytcemphgphdikhaa
open Go.RowKit Vo

/-- Who wins, of whatever numbers. -/
def winB (q : Int) (ws : List Int) (n : Nat) (s : Nat) : Bool := decide (q ≤ wtK ws s n)

theorem wins_asks (q : Int) (b off n cap : Nat) (ws : List Int) (w : World) (hn : n < 10) (hok : InK 0 1000 ws n) (hsl : Sl w b off n ws) :
    Asks (winB q ws n) 49 #[.agg #[.int .i64 q, .slice (some ⟨b, off, none⟩) n cap]] #[] n w :=
  ⟨enters_of Try.func49 (by kernel_rfl) rfl, fun W s hs hb => wins_any q b off n cap ws s W hn (by have := pow_lt (n := n) (by omega); omega) hok (hsl.now hb)⟩

def cntB (q : Int) (ws : List Int) (n : Nat) : Int := if goodB q ws n then (cnt (winB q ws n) (2^n) : Nat) else 0
theorem cntB_yes {q ws n} (h : goodB q ws n = true) : cntB q ws n = (cnt (winB q ws n) (2^n) : Nat) := if_pos h
theorem cntB_no {q ws n} (h : goodB q ws n = false) : cntB q ws n = 0 := if_neg (by rw [h]; simp)

set_option maxHeartbeats 1000000 in
theorem countWinning_any (q : Int) (A : Option Addr) (n cap : Nat) (ws : List Int) (w : World) (hm : n ≤ 9223372036854775807) (hk : Known w A n ws) :
    Calls Try.prog 31 #[.agg #[.int .i64 q, .slice A n cap]] w fun e w' =>
      e = .returned (.tuple #[.int .i64 (cntB q ws n), .bool (goodB q ws n)]) ∧ Below w.heap.size w w' := by
  have HK := Lib.hid hk
  clear hk
  have hx := Box.new w (.int .i64 q) (.slice A n cap)
  have hb0 := below1 w (.cells #[.int .i64 q, .slice A n cap] 27)
  by_cases hg : Vo.Good q ws n
  · obtain ⟨b, off, rfl, hsl⟩ := HK.out.get hg.lo
    have HSL := Lib.hid hsl
    have HOK := Lib.hid hg.ok
    have HGB := Lib.hid (goodB_true hg)
    have hn9 := hg.hi
    have hn10 : n < 10 := by omega
    clear hg hsl
    go_enter Try.func31, Try.ntmps31
    go_wp2_with fail
    refine (isCommittee_any q _ n cap ws _ hm (HK.out.now hb0)).mono ?_
    rintro e w1 ⟨rfl, hb⟩
    rw [HGB.out]
    have hx1 := hx.now hb
    have hs1 := Lib.hid ((HSL.out.now hb0).now hb)
    obtain ⟨hc0, hc1⟩ := hx1.cells
    go_wp2_with fail
    go_region_held3 (fun w' => w'.cell? ⟨w.heap.size, 0, none⟩ = some (.int .i64 q) ∧ w'.cell? ⟨w.heap.size, 1, none⟩ = some (.slice (some ⟨b, off, none⟩) n cap))
      (first | go_keep | exact hd | exact hd2)
      (first
        | (go_at_call 60; refine (members_any _ _ n cap _).mono ?_; rintro e w2 ⟨rfl, hb2⟩; have hd := (hx1.drew.now hb2).cells)
        | (go_at_call 59; refine (countSets_any (winB q ws n) _ _ _ n _ hn10 (wins_asks q b off n cap ws _ hn10 HOK.out (hs1.out.drew.now hb2))).mono ?_; rintro e w3 ⟨rfl, hb3⟩; have hd2 := ((hx1.drew.now hb2).now hb3).cells))
    all_goals
      go_wp2
      go_ret2
      exact ⟨by rw [cntB_yes HGB.out, HGB.out]; rfl, bfrom hb0 (bfrom (hb.drew) (bfrom hb2 hb3))⟩
  · have HGB := Lib.hid (goodB_false hg)
    clear hg
    go_enter Try.func31, Try.ntmps31
    go_wp2_with fail
    refine (isCommittee_any q A n cap ws _ hm (HK.out.now hb0)).mono ?_
    rintro e w1 ⟨rfl, hb⟩
    rw [HGB.out]
    go_wp2
    go_ret2
    exact ⟨by rw [cntB_no HGB.out, HGB.out]; rfl, bfrom hb0 hb⟩

def properP (q : Int) (ws : List Int) (n : Nat) (s : Nat) : Bool := !winB q ws n s || !winB q ws n (co n s)
def strongP (q : Int) (ws : List Int) (n : Nat) (s : Nat) : Bool := winB q ws n s || winB q ws n (co n s)

set_option maxHeartbeats 1000000 in
theorem isProper1_any (q : Int) (b off n cap g : Nat) (ws : List Int) (s : Nat) (w : World) (hn : n < 10) (hs : s < 2^n) (hok : InK 0 1000 ws n) (hsl : Sl w b off n ws) (hx : Box w g (.int .i64 q) (.slice (some ⟨b, off, none⟩) n cap)) :
    Calls Try.prog 66 #[.int .u64 s, .pointer (some ⟨g, 0, none⟩)] w fun e w' => e = .returned (.bool (properP q ws n s)) ∧ Below w.heap.size w w' := by
  have HOK := Lib.hid hok
  have HSL := Lib.hid hsl
  have h512 : s < 512 := by have := pow_lt (n := n) (by omega); omega
  have HP := Lib.hid (show properP q ws n s = (!decide (q ≤ wtK ws s n) || !decide (q ≤ wtK ws (co n s) n)) from rfl)
  clear hok hsl
  have hglt := hx.lt
  obtain ⟨hc0, hc1⟩ := hx.cells
  cases hd : decide (q ≤ wtK ws s n)
  all_goals
    have HD := Lib.hid hd
    clear hd
    go_enter Try.func66, Try.ntmps66
    go_wp2_with fail
    refine (loses_any q b off n cap ws s _ hn h512 HOK.out HSL.out).mono ?_
    rintro e w1 ⟨rfl, hb⟩
    rw [HD.out]
    obtain ⟨hd0, hd1⟩ := (hx.now hb).cells
    go_wp2_with (go_at_call 57; refine (blocks_any q b off n cap ws s _ hn hs HOK.out (HSL.out.now hb)).mono ?_; rintro e w2 ⟨rfl, hb2⟩)
    go_ret
    exact ⟨by rw [HP.out, HD.out]; simp, by first | exact bfrom hb hb2 | exact hb⟩

theorem isProper_asks (q : Int) (b off n cap g : Nat) (ws : List Int) (w : World) (hn : n < 10) (hok : InK 0 1000 ws n) (hsl : Sl w b off n ws) (hx : Box w g (.int .i64 q) (.slice (some ⟨b, off, none⟩) n cap)) :
    Asks (properP q ws n) 66 #[] #[.pointer (some ⟨g, 0, none⟩)] n w :=
  ⟨enters_of Try.func66 (by kernel_rfl) rfl, fun W s hs hb => isProper1_any q b off n cap g ws s W hn hs hok (hsl.now hb) (hx.now hb)⟩

def isProperB (q : Int) (ws : List Int) (n : Nat) : Bool := goodB q ws n && allK (properP q ws n) (2^n)
theorem isProperB_yes {q ws n} (h : goodB q ws n = true) : isProperB q ws n = allK (properP q ws n) (2^n) := by unfold isProperB; rw [h]; rfl
theorem isProperB_no {q ws n} (h : goodB q ws n = false) : isProperB q ws n = false := by unfold isProperB; rw [h]; rfl

set_option maxHeartbeats 1000000 in
theorem isProper_any (q : Int) (A : Option Addr) (n cap : Nat) (ws : List Int) (w : World) (hm : n ≤ 9223372036854775807) (hk : Known w A n ws) :
    Calls Try.prog 35 #[.agg #[.int .i64 q, .slice A n cap]] w fun e w' =>
      e = .returned (.tuple #[.bool (isProperB q ws n), .bool (goodB q ws n)]) ∧ Below w.heap.size w w' := by
  have HK := Lib.hid hk
  clear hk
  have hx := Box.new w (.int .i64 q) (.slice A n cap)
  have hb0 := below1 w (.cells #[.int .i64 q, .slice A n cap] 27)
  by_cases hg : Vo.Good q ws n
  · obtain ⟨b, off, rfl, hsl⟩ := HK.out.get hg.lo
    have HSL := Lib.hid hsl
    have HOK := Lib.hid hg.ok
    have HGB := Lib.hid (goodB_true hg)
    have hn9 := hg.hi
    have hn10 : n < 10 := by omega
    clear hg hsl
    go_enter Try.func35, Try.ntmps35
    go_wp2_with fail
    refine (isCommittee_any q _ n cap ws _ hm (HK.out.now hb0)).mono ?_
    rintro e w1 ⟨rfl, hb⟩
    rw [HGB.out]
    have hx1 := hx.now hb
    have hs1 := Lib.hid ((HSL.out.now hb0).now hb)
    obtain ⟨hc0, hc1⟩ := hx1.cells
    go_wp2_with fail
    refine (members_any _ _ n cap _).mono ?_
    rintro e w2 ⟨rfl, hb2⟩
    go_wp2_with fail
    refine (areAllSets_any (properP q ws n) _ _ _ n _ hn10 (isProper_asks q b off n cap w.heap.size ws _ hn10 HOK.out (hs1.out.now hb2) (hx1.now hb2))).mono ?_
    rintro e w3 ⟨rfl, hb3⟩
    go_wp2
    go_ret2
    exact ⟨by rw [isProperB_yes HGB.out, HGB.out]; rfl, bfrom hb0 (bfrom hb (bfrom hb2 hb3))⟩
  · have HGB := Lib.hid (goodB_false hg)
    clear hg
    go_enter Try.func35, Try.ntmps35
    go_wp2_with fail
    refine (isCommittee_any q A n cap ws _ hm (HK.out.now hb0)).mono ?_
    rintro e w1 ⟨rfl, hb⟩
    rw [HGB.out]
    go_wp2
    go_ret2
    exact ⟨by rw [isProperB_no HGB.out, HGB.out]; rfl, bfrom hb0 hb⟩

set_option maxHeartbeats 1000000 in
theorem isStrong1_any (q : Int) (b off n cap g : Nat) (ws : List Int) (s : Nat) (w : World) (hn : n < 10) (hs : s < 2^n) (hok : InK 0 1000 ws n) (hsl : Sl w b off n ws) (hx : Box w g (.int .i64 q) (.slice (some ⟨b, off, none⟩) n cap)) :
    Calls Try.prog 69 #[.int .u64 s, .pointer (some ⟨g, 0, none⟩)] w fun e w' => e = .returned (.bool (strongP q ws n s)) ∧ Below w.heap.size w w' := by
  have HOK := Lib.hid hok
  have HSL := Lib.hid hsl
  have h512 : s < 512 := by have := pow_lt (n := n) (by omega); omega
  have HP := Lib.hid (show strongP q ws n s = (decide (q ≤ wtK ws s n) || decide (q ≤ wtK ws (co n s) n)) from rfl)
  clear hok hsl
  have hglt := hx.lt
  obtain ⟨hc0, hc1⟩ := hx.cells
  cases hd : decide (q ≤ wtK ws s n)
  all_goals
    have HD := Lib.hid hd
    clear hd
    go_enter Try.func69, Try.ntmps69
    go_wp2_with fail
    refine (wins_any q b off n cap ws s _ hn h512 HOK.out HSL.out).mono ?_
    rintro e w1 ⟨rfl, hb⟩
    rw [HD.out]
    obtain ⟨hd0, hd1⟩ := (hx.now hb).cells
    go_wp2_with (go_at_call 57; refine (blocks_any q b off n cap ws s _ hn hs HOK.out (HSL.out.now hb)).mono ?_; rintro e w2 ⟨rfl, hb2⟩)
    go_ret
    exact ⟨by rw [HP.out, HD.out]; simp, by first | exact bfrom hb hb2 | exact hb⟩

theorem isStrong_asks (q : Int) (b off n cap g : Nat) (ws : List Int) (w : World) (hn : n < 10) (hok : InK 0 1000 ws n) (hsl : Sl w b off n ws) (hx : Box w g (.int .i64 q) (.slice (some ⟨b, off, none⟩) n cap)) :
    Asks (strongP q ws n) 69 #[] #[.pointer (some ⟨g, 0, none⟩)] n w :=
  ⟨enters_of Try.func69 (by kernel_rfl) rfl, fun W s hs hb => isStrong1_any q b off n cap g ws s W hn hs hok (hsl.now hb) (hx.now hb)⟩

def isStrongB (q : Int) (ws : List Int) (n : Nat) : Bool := goodB q ws n && allK (strongP q ws n) (2^n)
theorem isStrongB_yes {q ws n} (h : goodB q ws n = true) : isStrongB q ws n = allK (strongP q ws n) (2^n) := by unfold isStrongB; rw [h]; rfl
theorem isStrongB_no {q ws n} (h : goodB q ws n = false) : isStrongB q ws n = false := by unfold isStrongB; rw [h]; rfl

set_option maxHeartbeats 1000000 in
theorem isStrong_any (q : Int) (A : Option Addr) (n cap : Nat) (ws : List Int) (w : World) (hm : n ≤ 9223372036854775807) (hk : Known w A n ws) :
    Calls Try.prog 37 #[.agg #[.int .i64 q, .slice A n cap]] w fun e w' =>
      e = .returned (.tuple #[.bool (isStrongB q ws n), .bool (goodB q ws n)]) ∧ Below w.heap.size w w' := by
  have HK := Lib.hid hk
  clear hk
  have hx := Box.new w (.int .i64 q) (.slice A n cap)
  have hb0 := below1 w (.cells #[.int .i64 q, .slice A n cap] 27)
  by_cases hg : Vo.Good q ws n
  · obtain ⟨b, off, rfl, hsl⟩ := HK.out.get hg.lo
    have HSL := Lib.hid hsl
    have HOK := Lib.hid hg.ok
    have HGB := Lib.hid (goodB_true hg)
    have hn9 := hg.hi
    have hn10 : n < 10 := by omega
    clear hg hsl
    go_enter Try.func37, Try.ntmps37
    go_wp2_with fail
    refine (isCommittee_any q _ n cap ws _ hm (HK.out.now hb0)).mono ?_
    rintro e w1 ⟨rfl, hb⟩
    rw [HGB.out]
    have hx1 := hx.now hb
    have hs1 := Lib.hid ((HSL.out.now hb0).now hb)
    obtain ⟨hc0, hc1⟩ := hx1.cells
    go_wp2_with fail
    refine (members_any _ _ n cap _).mono ?_
    rintro e w2 ⟨rfl, hb2⟩
    go_wp2_with fail
    refine (areAllSets_any (strongP q ws n) _ _ _ n _ hn10 (isStrong_asks q b off n cap w.heap.size ws _ hn10 HOK.out (hs1.out.now hb2) (hx1.now hb2))).mono ?_
    rintro e w3 ⟨rfl, hb3⟩
    go_wp2
    go_ret2
    exact ⟨by rw [isStrongB_yes HGB.out, HGB.out]; rfl, bfrom hb0 (bfrom hb (bfrom hb2 hb3))⟩
  · have HGB := Lib.hid (goodB_false hg)
    clear hg
    go_enter Try.func37, Try.ntmps37
    go_wp2_with fail
    refine (isCommittee_any q A n cap ws _ hm (HK.out.now hb0)).mono ?_
    rintro e w1 ⟨rfl, hb⟩
    rw [HGB.out]
    go_wp2
    go_ret2
    exact ⟨by rw [isStrongB_no HGB.out, HGB.out]; rfl, bfrom hb0 hb⟩
end Go.Proofs.Ytcemphgphdikhaa
