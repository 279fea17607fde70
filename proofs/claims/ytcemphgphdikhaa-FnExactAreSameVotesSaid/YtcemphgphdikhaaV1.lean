/- Contracts of AreSameVotes, the program's and the model's. -/
import Derived.Test.YtcemphgphdikhaaS3
import Derived.Deep.RegionWith
namespace Go.Proofs.Ytcemphgphdikhaa
open Go.RowKit Vo

def sameP (q : Int) (ws : List Int) (q2 : Int) (ws2 : List Int) (n : Nat) (s : Nat) : Bool := winB q ws n s == winB q2 ws2 n s
def bothB (q : Int) (ws : List Int) (n : Nat) (q2 : Int) (ws2 : List Int) (n2 : Nat) : Bool := goodB q ws n && goodB q2 ws2 n2
def votesB (q : Int) (ws : List Int) (n : Nat) (q2 : Int) (ws2 : List Int) (n2 : Nat) : Bool := bothB q ws n q2 ws2 n2 && (decide (n = n2) && allK (sameP q ws q2 ws2 n) (2^n))

set_option maxHeartbeats 2000000 in
theorem votes1_any (q : Int) (b off n cap g : Nat) (ws : List Int) (q2 : Int) (b2 off2 cap2 g2 : Nat) (ws2 : List Int) (s : Nat) (w : World) (hn : n < 10) (hs : s < 2^n) (hok : InK 0 1000 ws n) (hsl : Sl w b off n ws) (hx : Box w g (.int .i64 q) (.slice (some ⟨b, off, none⟩) n cap))
    (hok2 : InK 0 1000 ws2 n) (hsl2 : Sl w b2 off2 n ws2) (hx2 : Box w g2 (.int .i64 q2) (.slice (some ⟨b2, off2, none⟩) n cap2)) :
    Calls Try.prog 70 #[.int .u64 s, .pointer (some ⟨g, 0, none⟩), .pointer (some ⟨g2, 0, none⟩)] w fun e w' => e = .returned (.bool (sameP q ws q2 ws2 n s)) ∧ Below w.heap.size w w' := by
  have HOK := Lib.hid hok
  have HSL := Lib.hid hsl
  have HOK2 := Lib.hid hok2
  have HSL2 := Lib.hid hsl2
  have h512 : s < 512 := by have := pow_lt (n := n) (by omega); omega
  clear hok hsl hok2 hsl2
  have hglt := hx.lt
  have hglt2 := hx2.lt
  obtain ⟨hc0, hc1⟩ := hx.cells
  obtain ⟨hd0, hd1⟩ := hx2.cells
  have HP := Lib.hid (show sameP q ws q2 ws2 n s = (decide (q ≤ wtK ws s n) == decide (q2 ≤ wtK ws2 s n)) from rfl)
  have K := Lib.hid (show ∀ W, Below w.heap.size w W → (W.cell? ⟨g, 0, none⟩ = some (.int .i64 q) ∧ W.cell? ⟨g, 1, none⟩ = some (.slice (some ⟨b, off, none⟩) n cap) ∧ W.cell? ⟨g2, 0, none⟩ = some (.int .i64 q2) ∧ W.cell? ⟨g2, 1, none⟩ = some (.slice (some ⟨b2, off2, none⟩) n cap2)) from fun W hb => ⟨(hx.now hb).cells.1, (hx.now hb).cells.2, (hx2.now hb).cells.1, (hx2.now hb).cells.2⟩)
  go_enter Try.func70, Try.ntmps70
  go_wp2_with fail
  go_region_held3 (fun w' => w'.cell? ⟨g, 0, none⟩ = some (.int .i64 q) ∧ w'.cell? ⟨g, 1, none⟩ = some (.slice (some ⟨b, off, none⟩) n cap) ∧ w'.cell? ⟨g2, 0, none⟩ = some (.int .i64 q2) ∧ w'.cell? ⟨g2, 1, none⟩ = some (.slice (some ⟨b2, off2, none⟩) n cap2))
    (first | go_keep | exact K.out _ gA | exact K.out _ gB)
    (first
      | (go_at_call 49; ((with_reducible refine (wins_any q b off n cap ws s _ hn h512 HOK.out ?_).mono ?_)); (first | exact HSL.out.now gB | exact HSL.out.drew); rintro e wA ⟨rfl, hbA⟩; (first | have gA := bfrom gB hbA | have gA := bfrom (Below.refl _ _).drew hbA))
      | (go_at_call 49; ((with_reducible refine (wins_any q2 b2 off2 n cap2 ws2 s _ hn h512 HOK2.out ?_).mono ?_)); (first | exact HSL2.out.now gA | exact HSL2.out.drew); rintro e wB ⟨rfl, hbB⟩; (first | have gB := bfrom gA hbB | have gB := bfrom (Below.refl _ _).drew hbB)))
  all_goals
    go_wp2
    go_ret
    exact ⟨by rw [HP.out]; simp, by first | exact gA | exact gB⟩

theorem votes_asks (q : Int) (b off n cap g : Nat) (ws : List Int) (q2 : Int) (b2 off2 cap2 g2 : Nat) (ws2 : List Int) (w : World) (hn : n < 10) (hok : InK 0 1000 ws n) (hsl : Sl w b off n ws) (hx : Box w g (.int .i64 q) (.slice (some ⟨b, off, none⟩) n cap))
    (hok2 : InK 0 1000 ws2 n) (hsl2 : Sl w b2 off2 n ws2) (hx2 : Box w g2 (.int .i64 q2) (.slice (some ⟨b2, off2, none⟩) n cap2)) :
    Asks (sameP q ws q2 ws2 n) 70 #[] #[.pointer (some ⟨g, 0, none⟩), .pointer (some ⟨g2, 0, none⟩)] n w :=
  ⟨enters_of Try.func70 (by kernel_rfl) rfl, fun W s hs hb => votes1_any q b off n cap g ws q2 b2 off2 cap2 g2 ws2 s W hn hs hok (hsl.now hb) (hx.now hb) hok2 (hsl2.now hb) (hx2.now hb)⟩

theorem votesB_no1 {q ws n q2 ws2 n2} (h : bothB q ws n q2 ws2 n2 = false) : votesB q ws n q2 ws2 n2 = false := by unfold votesB; rw [h]; rfl
theorem votesB_no2 {q ws n q2 ws2 n2} (h : n ≠ n2) : votesB q ws n q2 ws2 n2 = false := by unfold votesB; rw [decide_eq_false h]; simp
theorem votesB_yes {q ws n q2 ws2} (h : bothB q ws n q2 ws2 n = true) : votesB q ws n q2 ws2 n = allK (sameP q ws q2 ws2 n) (2^n) := by unfold votesB; rw [h]; simp

set_option maxHeartbeats 4000000 in
theorem areSameVotes_any (q : Int) (A : Option Addr) (n cap : Nat) (ws : List Int) (q2 : Int) (A2 : Option Addr) (n2 cap2 : Nat) (ws2 : List Int) (w : World) (hm : n ≤ 9223372036854775807) (hk : Known w A n ws) (hm2 : n2 ≤ 9223372036854775807) (hk2 : Known w A2 n2 ws2) :
    Calls Try.prog 39 #[.agg #[.int .i64 q, .slice A n cap], .agg #[.int .i64 q2, .slice A2 n2 cap2]] w fun e w' =>
      e = .returned (.tuple #[.bool (votesB q ws n q2 ws2 n2), .bool (bothB q ws n q2 ws2 n2)]) ∧ Below w.heap.size w w' := by
  have HK := Lib.hid hk
  have HK2 := Lib.hid hk2
  clear hk hk2
  have hx := (Box.new w (.int .i64 q) (.slice A n cap)).alloc (.cells #[.int .i64 q2, .slice A2 n2 cap2] 27)
  have hy := Box.new (w.alloc (.cells #[.int .i64 q, .slice A n cap] 27)) (.int .i64 q2) (.slice A2 n2 cap2)
  simp only [World.size_alloc] at hy
  have hb0 : Below w.heap.size w ((w.alloc (.cells #[.int .i64 q, .slice A n cap] 27)).alloc (.cells #[.int .i64 q2, .slice A2 n2 cap2] 27)) := (below1 w _).alloc (by simp) _
  by_cases hg : Vo.Good q ws n
  · have HGB := Lib.hid (goodB_true hg)
    by_cases hg2 : Vo.Good q2 ws2 n2
    · have HGB2 := Lib.hid (goodB_true hg2)
      have HF := Lib.hid (show bothB q ws n q2 ws2 n2 = true from by unfold bothB; rw [HGB.out, HGB2.out]; rfl)
      obtain ⟨b, off, rfl, hsl⟩ := HK.out.get hg.lo
      obtain ⟨b2, off2, rfl, hsl2⟩ := HK2.out.get hg2.lo
      have HSL := Lib.hid hsl
      have HSL2 := Lib.hid hsl2
      have HOK := Lib.hid hg.ok
      have HOK2 := Lib.hid hg2.ok
      have hn9 := hg.hi
      have hn10 : n < 10 := by omega
      have hn29 := hg2.hi
      clear hg hg2 hsl hsl2
      go_enter Try.func39, Try.ntmps39
      go_wp2_with fail
      refine (isCommittee_any q _ n cap ws _ hm (HK.out.now hb0)).mono ?_
      rintro e w1 ⟨rfl, hb1⟩
      rw [HGB.out]
      have hx1 := hx.now hb1
      have hy1 := hy.now hb1
      have g1 := bfrom hb0 hb1
      obtain ⟨c0, c1⟩ := hx1.cells
      obtain ⟨d0, d1⟩ := hy1.cells
      go_wp2_with fail
      refine (isCommittee_any q2 _ n2 cap2 ws2 _ hm2 (HK2.out.now g1)).mono ?_
      rintro e w2 ⟨rfl, hb2⟩
      rw [HGB2.out]
      have hx2 := hx1.now hb2
      have hy2 := hy1.now hb2
      have g2 := bfrom g1 hb2
      clear c0 c1 d0 d1 hx hy hx1 hy1 hb0 hb1 hb2 g1
      have K := Lib.hid (show ∀ W, Below w2.heap.size w2 W → (W.cell? ⟨w.heap.size, 0, none⟩ = some (.int .i64 q) ∧ W.cell? ⟨w.heap.size, 1, none⟩ = some (.slice (some ⟨b, off, none⟩) n cap) ∧ W.cell? ⟨w.heap.size + 1, 0, none⟩ = some (.int .i64 q2) ∧ W.cell? ⟨w.heap.size + 1, 1, none⟩ = some (.slice (some ⟨b2, off2, none⟩) n2 cap2)) from fun W hb => ⟨(hx2.now hb).cells.1, (hx2.now hb).cells.2, (hy2.now hb).cells.1, (hy2.now hb).cells.2⟩)
      obtain ⟨c0, c1⟩ := hx2.cells
      obtain ⟨d0, d1⟩ := hy2.cells
      by_cases hnn : n = n2
      · subst hnn
        have HV := Lib.hid (votesB_yes HF.out)
        go_wp2_with fail
        go_region_held3 (fun w' => w'.cell? ⟨w.heap.size, 0, none⟩ = some (.int .i64 q) ∧ w'.cell? ⟨w.heap.size, 1, none⟩ = some (.slice (some ⟨b, off, none⟩) n cap) ∧ w'.cell? ⟨w.heap.size + 1, 0, none⟩ = some (.int .i64 q2) ∧ w'.cell? ⟨w.heap.size + 1, 1, none⟩ = some (.slice (some ⟨b2, off2, none⟩) n cap2))
          (first | go_keep | exact K.out _ gA | exact K.out _ gB)
          (first
            | (go_at_call 60; ((with_reducible refine (members_any _ _ n cap _).mono ?_)); rintro e wA ⟨rfl, hbA⟩; (first | have gA := bfrom gB hbA | have gA := bfrom (Below.refl _ _).drew hbA))
            | (go_at_call 60; ((with_reducible refine (members_any _ _ n cap2 _).mono ?_)); rintro e wB ⟨rfl, hbB⟩; (first | have gB := bfrom gA hbB | have gB := bfrom (Below.refl _ _).drew hbB)))
        all_goals
          obtain ⟨a0, a1, a2, a3⟩ := K.out _ gA
          obtain ⟨e0, e1, e2, e3⟩ := K.out _ gB
          go_wp2_with fail
          refine (members_any _ _ n cap _).mono ?_
          rintro e w4 ⟨rfl, hb4⟩
          have g4 : Below w2.heap.size w2 w4 := by first | exact bfrom gB hb4 | exact bfrom gA hb4
          have g24 := bfrom g2 g4
          go_wp2_with fail
          refine (areAllSets_any (sameP q ws q2 ws2 n) _ _ _ n _ hn10 (votes_asks q b off n cap w.heap.size ws q2 b2 off2 cap2 (w.heap.size + 1) ws2 _ hn10 HOK.out (HSL.out.now g24) (hx2.now g4) HOK2.out (HSL2.out.now g24) (hy2.now g4))).mono ?_
          rintro e w5 ⟨rfl, hb5⟩
          go_wp2
          go_ret2
          exact ⟨by rw [HF.out, HV.out]; rfl, bfrom g24 hb5⟩
      · have hne : ((n : Int) == n2) = false := by simp; omega
        have hne2 : ((n : Int) != n2) = true := by simp; omega
        have HV := Lib.hid (votesB_no2 (q := q) (ws := ws) (q2 := q2) (ws2 := ws2) hnn)
        clear hnn
        go_wp2_with fail
        go_region_held3 (fun w' => w'.cell? ⟨w.heap.size, 0, none⟩ = some (.int .i64 q) ∧ w'.cell? ⟨w.heap.size, 1, none⟩ = some (.slice (some ⟨b, off, none⟩) n cap) ∧ w'.cell? ⟨w.heap.size + 1, 0, none⟩ = some (.int .i64 q2) ∧ w'.cell? ⟨w.heap.size + 1, 1, none⟩ = some (.slice (some ⟨b2, off2, none⟩) n2 cap2))
          (first | go_keep | exact K.out _ gA | exact K.out _ gB)
          (first
            | (go_at_call 60; ((with_reducible refine (members_any _ _ n cap _).mono ?_)); rintro e wA ⟨rfl, hbA⟩; (first | have gA := bfrom gB hbA | have gA := bfrom (Below.refl _ _).drew hbA))
            | (go_at_call 60; ((with_reducible refine (members_any _ _ n2 cap2 _).mono ?_)); rintro e wB ⟨rfl, hbB⟩; (first | have gB := bfrom gA hbB | have gB := bfrom (Below.refl _ _).drew hbB)))
        all_goals
          go_wp2
          go_ret2
          exact ⟨by rw [HF.out, HV.out]; rfl, by first | exact bfrom g2 gB | exact bfrom g2 gA⟩
    · have HGB2 := Lib.hid (goodB_false hg2)
      have HF := Lib.hid (show bothB q ws n q2 ws2 n2 = false from by unfold bothB; rw [HGB2.out]; simp)
      clear hg hg2
      go_enter Try.func39, Try.ntmps39
      go_wp2_with fail
      refine (isCommittee_any q _ n cap ws _ hm (HK.out.now hb0)).mono ?_
      rintro e w1 ⟨rfl, hb1⟩
      rw [HGB.out]
      have hy1 := hy.now hb1
      have g1 := bfrom hb0 hb1
      obtain ⟨d0, d1⟩ := hy1.cells
      go_wp2_with fail
      refine (isCommittee_any q2 _ n2 cap2 ws2 _ hm2 (HK2.out.now g1)).mono ?_
      rintro e w2 ⟨rfl, hb2⟩
      rw [HGB2.out]
      go_wp2
      go_ret2
      exact ⟨by rw [votesB_no1 HF.out, HF.out]; rfl, bfrom g1 hb2⟩
  · have HGB := Lib.hid (goodB_false hg)
    have HF := Lib.hid (show bothB q ws n q2 ws2 n2 = false from by unfold bothB; rw [HGB.out]; rfl)
    clear hg
    go_enter Try.func39, Try.ntmps39
    go_wp2_with fail
    refine (isCommittee_any q _ n cap ws _ hm (HK.out.now hb0)).mono ?_
    rintro e w1 ⟨rfl, hb1⟩
    rw [HGB.out]
    go_wp2
    go_ret2
    exact ⟨by rw [votesB_no1 HF.out, HF.out]; rfl, bfrom hb0 hb1⟩
end Go.Proofs.Ytcemphgphdikhaa
