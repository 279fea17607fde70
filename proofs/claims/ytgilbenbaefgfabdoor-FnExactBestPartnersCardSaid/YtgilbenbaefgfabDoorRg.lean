/- The merged weights have the same sum: plain facts. For the seats of tied cards. -/
import Derived.Test.YtgilbenbaefgfabDoorWc
import Derived.Test.YtgilbenbaefgfabDoorRa
namespace Go.Proofs.YtgilbenbaefgfabDoor.Vo

/-- The first j weights, those of s as one, W, in the place of the member f. -/
def mrgL (ws : List Int) (s f : Nat) (W : Int) : Nat → List Int
  | 0 => []
  | j+1 => mrgL ws s f W j ++ if j = f then [W] else if s.testBit j then [] else [ws.getD j 0]
theorem mrgL_le (ws : List Int) (s f : Nat) (W : Int) (j : Nat) : (mrgL ws s f W j).length ≤ j := by
  induction j with
  | zero => exact Nat.le_refl _
  | succ j ih =>
    simp only [mrgL]
    split
    · simp; omega
    · split <;> simp <;> omega
theorem mrgL_more (ws : List Int) (s f : Nat) (W : Int) (i d : Nat) (h : ∀ j, i ≤ j → j < i + d → j ≠ f ∧ s.testBit j = false) :
    mrgL ws s f W (i + d) = mrgL ws s f W i ++ (List.range d).map fun j => ws.getD (i + j) 0 := by
  induction d with
  | zero => simp
  | succ d ih =>
    have h1 := ih fun j h1 h2 => h j h1 (by omega)
    obtain ⟨h2, h3⟩ := h (i + d) (by omega) (by omega)
    rw [show i + (d + 1) = (i + d) + 1 from rfl]
    simp only [mrgL]
    rw [if_neg h2, h3, h1, List.range_succ]
    simp
theorem mrgL_skip {ws : List Int} {s f : Nat} {W : Int} {j : Nat} (h : j ≠ f) (hb : s.testBit j = true) : mrgL ws s f W (j + 1) = mrgL ws s f W j := by
  simp only [mrgL]; rw [if_neg h, hb]; simp
theorem mrgL_at (ws : List Int) (s f : Nat) (W : Int) : mrgL ws s f W (f + 1) = mrgL ws s f W f ++ [W] := by
  simp [mrgL]
/-- Ahead of the first member the weights stay. -/
theorem mrgL_head {ws : List Int} {s : Nat} {W : Int} (h0 : 0 < s) (hs : s < 512) {j : Nat} (hj : j ≤ firstN s) : mrgL ws s (firstN s) W j = (List.range j).map fun i => ws.getD i 0 := by
  have h := mrgL_more ws s (firstN s) W 0 j fun i _ hi => ⟨by omega, (first_in h0 hs).2.2 i (by omega)⟩
  rw [Nat.zero_add] at h
  rw [h]
  simp [mrgL]
/-- What is left of s from i on: its bits there. -/
def FromI (s i left : Nat) : Prop := ∀ j, left.testBit j = (decide (i ≤ j) && s.testBit j)
theorem FromI.gap {s i left : Nat} (h : FromI s i left) (h0 : 0 < left) (hl : left < 512) {j : Nat} (h1 : i ≤ j) (h2 : j < firstN left) : s.testBit j = false := by
  have e := (first_in h0 hl).2.2 j h2
  rw [h j, decide_eq_true h1, Bool.true_and] at e
  exact e
theorem FromI.hit {s i left : Nat} (h : FromI s i left) (h0 : 0 < left) (hl : left < 512) : i ≤ firstN left ∧ s.testBit (firstN left) = true := by
  have e := (first_in h0 hl).2.1
  rw [h, Bool.and_eq_true] at e
  exact ⟨of_decide_eq_true e.1, e.2⟩
theorem FromI.none {s i : Nat} (h : FromI s i 0) {j : Nat} (h1 : i ≤ j) : s.testBit j = false := by
  have e := h j
  rw [Nat.zero_testBit, decide_eq_true h1, Bool.true_and] at e
  exact e.symm
end Go.Proofs.YtgilbenbaefgfabDoor.Vo

namespace Go.Proofs.YtgilbenbaefgfabDoor.Vo

theorem sumK_snoc (L : List Int) (x : Int) : sumK (L ++ [x]) (L.length + 1) = sumK L L.length + x := by
  have h : ∀ k, k ≤ L.length → sumK (L ++ [x]) k = sumK L k := fun k => by
    induction k with
    | zero => intro _; rfl
    | succ k ih =>
      intro hk
      simp only [sumK]
      rw [ih (by omega), List.getD_eq_getElem?_getD, List.getD_eq_getElem?_getD, List.getElem?_append_left (by omega)]
  simp only [sumK]
  rw [h _ (Nat.le_refl _), List.getD_eq_getElem?_getD, List.getElem?_append_right (Nat.le_refl _)]
  simp
theorem sumK_mrg {ws : List Int} {s f : Nat} {W : Int} (hf : s.testBit f = true) (j : Nat) :
    sumK (mrgL ws s f W j) (mrgL ws s f W j).length = sumK ws j - wtK ws s j + if f < j then W else 0 := by
  induction j with
  | zero => simp [mrgL, sumK, wtK]
  | succ j ih =>
    by_cases h : j = f
    · subst h
      rw [mrgL_at, List.length_append, List.length_singleton, sumK_snoc, ih]
      simp only [sumK, wtK]
      rw [if_pos hf, if_neg (Nat.lt_irrefl _), if_pos (Nat.lt_succ_self _)]
      omega
    · have e : (f < j + 1) = (f < j) := by apply propext; omega
      cases hb : s.testBit j with
      | true =>
        rw [mrgL_skip h hb, ih]
        simp only [sumK, wtK, e]
        rw [if_pos hb]
        omega
      | false =>
        have em : mrgL ws s f W (j + 1) = mrgL ws s f W j ++ [ws.getD j 0] := by simp only [mrgL]; rw [if_neg h, hb]; rfl
        rw [em, List.length_append, List.length_singleton, sumK_snoc, ih]
        simp only [sumK, wtK, e]
        rw [hb]
        simp only [Bool.false_eq_true, if_false]
        omega
/-- All together have what they had. -/
theorem sumK_mrg_all {ws : List Int} {s f n : Nat} (hf : s.testBit f = true) (hn : f < n) : sumK (mrgL ws s f (wtK ws s n) n) (mrgL ws s f (wtK ws s n) n).length = sumK ws n := by
  rw [sumK_mrg hf, if_pos hn]
  omega
/-- Each weight is one of before, or that of the union. -/
theorem mrgL_mem {ws : List Int} {s f : Nat} {W : Int} {j : Nat} {x : Int} (h : x ∈ mrgL ws s f W j) : x = W ∨ ∃ i, i < j ∧ x = ws.getD i 0 := by
  induction j with
  | zero => simp [mrgL] at h
  | succ j ih =>
    simp only [mrgL, List.mem_append] at h
    rcases h with h | h
    · rcases ih h with h | ⟨i, hi, h⟩
      · exact Or.inl h
      · exact Or.inr ⟨i, by omega, h⟩
    · split at h
      · exact Or.inl (by simpa using h)
      · split at h
        · simp at h
        · exact Or.inr ⟨j, Nat.lt_succ_self _, by simpa using h⟩
theorem mrgL_has (ws : List Int) (s : Nat) {f : Nat} (W : Int) {j : Nat} (h : f < j) : W ∈ mrgL ws s f W j := by
  induction j with
  | zero => omega
  | succ j ih =>
    simp only [mrgL, List.mem_append]
    by_cases hj : j = f
    · exact Or.inr (by rw [if_pos hj]; simp)
    · exact Or.inl (ih (by omega))
/-- The union is a committee exactly if its own weight is allowed. -/
theorem mrg_good {q : Int} {ws : List Int} {s n : Nat} (hg : Good q ws n) (h0 : 0 < s) (hs : s < 512) (hn : firstN s < n) :
    goodB q (mrgL ws s (firstN s) (wtK ws s n) n) (mrgL ws s (firstN s) (wtK ws s n) n).length = decide (wtK ws s n ≤ 1000) := by
  have hsum := sumK_mrg_all (ws := ws) (first_in h0 hs).2.1 hn
  have hW0 : 0 ≤ wtK ws s n := by
    have : ∀ k, k ≤ n → 0 ≤ wtK ws s k := fun k => by
      induction k with
      | zero => intro _; simp [wtK]
      | succ k ih =>
        intro hk
        have h1 := ih (by omega)
        have h2 := hg.ok k (by omega)
        simp only [wtK]
        split <;> omega
    exact this n (Nat.le_refl _)
  have hhas := mrgL_has ws s (wtK ws s n) hn
  have hle := mrgL_le ws s (firstN s) (wtK ws s n) n
  have hmem : ∀ x ∈ mrgL ws s (firstN s) (wtK ws s n) n, x = wtK ws s n ∨ ∃ i, i < n ∧ x = ws.getD i 0 := fun x h => mrgL_mem h
  generalize mrgL ws s (firstN s) (wtK ws s n) n = L at *
  generalize wtK ws s n = W at *
  have hn9 := hg.hi
  unfold goodB
  apply decide_eq_decide.2
  constructor
  · intro h
    obtain ⟨i, hi, e⟩ := List.getElem_of_mem hhas
    have h2 := (h.ok i hi).2
    rw [List.getD_eq_getElem?_getD, List.getElem?_eq_getElem hi, Option.getD_some, e] at h2
    exact h2
  · intro h
    refine ⟨List.length_pos_of_mem hhas, by omega, fun i hi => ?_, hg.q1, by rw [hsum]; exact hg.q2⟩
    rw [List.getD_eq_getElem?_getD, List.getElem?_eq_getElem hi, Option.getD_some]
    rcases hmem _ (List.getElem_mem hi) with e | ⟨k, hk, e⟩
    · rw [e]; exact ⟨hW0, h⟩
    · rw [e]; exact hg.ok k hk
end Go.Proofs.YtgilbenbaefgfabDoor.Vo
