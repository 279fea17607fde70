/- What is counted for some members together; the party of one member; gains of the program by swings. -/
import Derived.Test.YtbecagfokcadnaaN9
import Derived.Test.YtbecagfokcadnaaPa
import Derived.Test.YtbecagfokcadnaaPh
namespace Go.Proofs.Ytbecagfokcadnaa
open Go.RowKit Vo

/-- What some members have together. -/
def partN (f : Nat → Nat) (s n : Nat) : Nat := sumN (fun j => if s.testBit j then f j else 0) n
theorem sumK_per (f : Nat → Nat) {n k : Nat} (h : k ≤ n) : sumK (perL f n) k = ((sumN f k : Nat) : Int) := by
  induction k with
  | zero => rfl
  | succ k ih => simp only [sumK, sumN]; rw [ih (by omega), perL_get (by omega)]; simp
theorem wtK_per (f : Nat → Nat) (s : Nat) {n k : Nat} (h : k ≤ n) : wtK (perL f n) s k = ((partN f s k : Nat) : Int) := by
  induction k with
  | zero => rfl
  | succ k ih =>
    have e : partN f s (k+1) = partN f s k + if s.testBit k then f k else 0 := rfl
    simp only [wtK]
    rw [ih (by omega), perL_get (by omega), e]
    cases s.testBit k <;> simp
theorem partN_le (f : Nat → Nat) (s n : Nat) : partN f s n ≤ sumN f n := by
  induction n with
  | zero => exact Nat.le_refl _
  | succ n ih =>
    have e : partN f s (n+1) = partN f s n + if s.testBit n then f n else 0 := rfl
    rw [e]
    simp only [sumN]
    cases s.testBit n <;> simp <;> omega
theorem partN_one (f : Nat → Nat) {k n : Nat} (h : k < n) : partN f (2^k) n = f k := by
  unfold partN
  rw [sumN_single h fun j _ hj => by rw [Nat.testBit_two_pow, decide_eq_false (fun e => hj e.symm)]; rfl]
  rw [Nat.testBit_two_pow_self]; rfl
theorem partN_two (f : Nat → Nat) {i j n : Nat} (hi : i < n) (hj : j < n) (hij : i ≠ j) : partN f (2^i ||| 2^j) n = f i + f j := by
  have e : partN f (2^i ||| 2^j) n = sumN (fun k => (if i = k then f k else 0) + (if j = k then f k else 0)) n := sumN_congr fun k _ => by
    rw [Nat.testBit_or, Nat.testBit_two_pow, Nat.testBit_two_pow]
    by_cases h1 : i = k
    · have h2 : ¬ j = k := fun h => hij (h1.trans h.symm)
      simp [h1, h2]
    · by_cases h2 : j = k
      · simp [h1, h2]
      · simp [h1, h2]
  rw [e, sumN_add, sumN_one f hi, sumN_one f hj]
/-- All swings together. -/
def swS (q : Int) (ws : List Int) (n : Nat) : Nat := sumN (swingN q ws n) n
theorem swingN_le (q : Int) (ws : List Int) (n : Nat) (k : Nat) (hn : n ≤ 9) : swingN q ws n k ≤ 512 := Nat.le_trans (cnt_le _ _) (pow_lt hn)
theorem swS_le {q : Int} {ws : List Int} {n : Nat} (hn : n ≤ 9) : swS q ws n ≤ 4608 := by
  have h := sumN_le (f := swingN q ws n) (B := 512) (k := n) fun k _ => swingN_le q ws n k hn
  unfold swS
  have : 512 * n ≤ 4608 := by omega
  omega
theorem perL_in (f : Nat → Nat) {B n : Nat} (h : ∀ k, f k ≤ B) : InK 0 B (perL f n) n := fun j hj => by
  rw [perL_get hj]
  have := h j
  omega
theorem InK.up {a b c : Int} {ws : List Int} {n : Nat} (h : InK a b ws n) (hc : b ≤ c) : InK a c ws n := fun j hj => ⟨(h j hj).1, Int.le_trans (h j hj).2 hc⟩
theorem part_swings {q : Int} {ws : List Int} {n s : Nat} (hg : Vo.Good q ws n) (hs : s < 512) : Part (perL (swingN q ws n) n) s (partN (swingN q ws n) s n) (swS q ws n) where
  len := by rw [perL_len]; have := hg.hi; omega
  set := hs
  ok := by rw [perL_len]; exact InK.up (perL_in _ (fun k => swingN_le q ws n k hg.hi)) (by omega)
  own := by rw [perL_len]; exact wtK_per _ _ (Nat.le_refl _)
  all := by rw [perL_len]; exact sumK_per _ (Nat.le_refl _)
  le := partN_le _ _ _
  one := swings_pos hg
  few := by have := swS_le (q := q) (ws := ws) hg.hi; omega

/-- Whether a part of the second committee's swings is greater than one of the first's. -/
def gainV (q : Int) (ws : List Int) (n s : Nat) (q' : Int) (ws' : List Int) (n' s' : Nat) : Int := sgn ((partN (swingN q' ws' n') s' n' : Int) * swS q ws n - (partN (swingN q ws n) s n : Int) * swS q' ws' n')

set_option maxRecDepth 20000 in
set_option maxHeartbeats 1000000 in
theorem gainSwings_any (q q' : Int) (A A' : Option Addr) (n cap n' cap' s s' : Nat) (ws ws' : List Int) (w : World) (hg : Vo.Good q ws n) (hg' : Vo.Good q' ws' n') (hs : s < 512) (hs' : s' < 512) (hk : Known w A n ws) (hk' : Known w A' n' ws') :
    Calls Try.prog 42 #[.agg #[.int .i64 q, .slice A n cap, .int .u64 s], .agg #[.int .i64 q', .slice A' n' cap', .int .u64 s'], .func (.func 44) #[] #[]] w fun e w' => e = .returned (.int .i64 (gainV q ws n s q' ws' n' s')) ∧ Below w.heap.size w w' :=
  gain_any _ _ _ q q' A A' n cap n' cap' s s' _ _ _ _ w (part_swings hg hs) (part_swings hg' hs')
    ((swings_lists q A n cap ws w hk hg).reads (by rw [perL_len]; exact hg.lo)) ((swings_lists q' A' n' cap' ws' w hk' hg').reads (by rw [perL_len]; exact hg'.lo))

set_option maxRecDepth 20000 in
set_option maxHeartbeats 1000000 in
theorem member_any (q : Int) (A : Option Addr) (n cap k : Nat) (w : World) (hk : k < 9) :
    Calls Try.prog 43 #[.agg #[.int .i64 q, .slice A n cap], .int .i64 k] w fun e w' => e = .returned (.agg #[.int .i64 q, .slice A n cap, .int .u64 ((2^k : Nat) : Int)]) ∧ Below w.heap.size w w' := by
  have hb0 : Below w.heap.size w ((w.alloc (.cells #[.int .i64 q, .slice A n cap] 26)).alloc (.cells #[.int .i64 0, .slice none 0 0, .int .u64 0] 50)) := (below1 w _).alloc (by simp) _
  have hx := (Box.new w (.int .i64 q) (.slice A n cap)).alloc (.cells #[.int .i64 0, .slice none 0 0, .int .u64 0] 50)
  have hr := Box3.new 50 (w.alloc (.cells #[.int .i64 q, .slice A n cap] 26)) (.int .i64 0) (.slice none 0 0) (.int .u64 0)
  simp only [World.size_alloc] at hr
  obtain ⟨w1, hw1⟩ : ∃ w1, w1 = ((w.alloc (.cells #[.int .i64 q, .slice A n cap] 26)).alloc (.cells #[.int .i64 0, .slice none 0 0, .int .u64 0] 50)) := ⟨_, rfl⟩
  rw [← hw1] at hb0 hx hr
  have HW := Lib.hid (fun W => with0_any k W (by omega))
  have HWW := Lib.hid hw1
  clear hw1
  generalize 2^k = s at *
  have hk9 := kept3a hx hr
  have hkE := kept3 (a := .int .i64 q) (b := .slice A n cap) (c := .int .u64 s) hx hr (Nat.ne_of_lt (Nat.lt_succ_self _))
  obtain ⟨d0, d1, d2⟩ := hr.cells
  obtain ⟨f0, f1, f2⟩ := frozen_box3 hr
  go_enter Try.func43, Try.ntmps43
  go_wp2_with fail
  rw [← HWW.out]
  obtain ⟨c0, c1⟩ := hx.cells
  go_region_with (first
    | (go_at_call 67; with_reducible refine (HW.out _).mono ?_; rintro e wB ⟨rfl, rfl⟩)
    | fail)
  all_goals
    have hrF := (hr.put (.int .i64 q) (.slice A n cap) (.int .u64 s)).drew
    obtain ⟨e0, e1, e2⟩ := hrF.cells
    have gF := (((hb0.setCell (p := ⟨w.heap.size + 1, 0, none⟩) (Nat.le_succ _) (.int .i64 q)).setCell (p := ⟨w.heap.size + 1, 1, none⟩) (Nat.le_succ _) (.slice A n cap)).setCell (p := ⟨w.heap.size + 1, 2, none⟩) (Nat.le_succ _) (.int .u64 s)).drew
    go_wp2
    refine bodyPost_ret (v := .agg #[.int .i64 q, .slice A n cap, .int .u64 s]) (by simp [results, Try.results43, go_sem, e0, e1, e2]) rfl ⟨rfl, ?_⟩
    exact gF
end Go.Proofs.Ytbecagfokcadnaa
