/- Sums of sets, each once, increasing: plain facts. -/
import Derived.Test.YtlnlkfldlgchhabW3
import Derived.Test.YtlnlkfldlgchhabLS
namespace Go.Proofs.Ytlnlkfldlgchhab
open Go.RowKit Vo

/-- Two lists that rise strictly, with the same numbers, are the same. -/
theorem strict_unique {l m : List Int} (hl : l.Pairwise (· < ·)) (hm : m.Pairwise (· < ·)) (h : ∀ x, x ∈ l ↔ x ∈ m) : l = m := by
  induction l generalizing m with
  | nil =>
    cases m with
    | nil => rfl
    | cons b m => have := (h b).2 (by simp); cases this
  | cons a l ih =>
    cases m with
    | nil => have := (h a).1 (by simp); cases this
    | cons b m =>
      obtain ⟨ha, hl'⟩ := List.pairwise_cons.1 hl
      obtain ⟨hb, hm'⟩ := List.pairwise_cons.1 hm
      have e : a = b := by
        rcases List.mem_cons.1 ((h a).1 (by simp)) with e | h1
        · exact e
        rcases List.mem_cons.1 ((h b).2 (by simp)) with e | h2
        · exact e.symm
        have := hb a h1; have := ha b h2; omega
      subst e
      congr 1
      refine ih hl' hm' fun x => ?_
      constructor
      · intro hx
        rcases List.mem_cons.1 ((h x).1 (by simp [hx])) with e | h1
        · subst e; have := ha x hx; omega
        · exact h1
      · intro hx
        rcases List.mem_cons.1 ((h x).2 (by simp [hx])) with e | h1
        · subst e; have := hb x hx; omega
        · exact h1
theorem compact_upTo {d : Array Int} {n : Nat} (h : ∀ i j, i ≤ j → j < n → d[i]! ≤ d[j]!) : ∀ m, m ≤ n → (Lib.compactUpTo d m).Pairwise (· < ·) ∧ (∀ x, x ∈ Lib.compactUpTo d m ↔ ∃ j, j < m ∧ d[j]! = x)
  | 0, _ => ⟨by simp [Lib.compactUpTo], fun x => by simp [Lib.compactUpTo]⟩
  | m+1, hm => by
    obtain ⟨h1, h2⟩ := compact_upTo h m (by omega)
    rw [Lib.compactUpTo_succ]
    by_cases hk : Lib.keeps d m = true
    · rw [if_pos hk]
      refine ⟨?_, fun x => ?_⟩
      · rw [List.pairwise_append]
        refine ⟨h1, List.pairwise_singleton _ _, fun a ha b hb => ?_⟩
        rw [List.mem_singleton] at hb
        subst hb
        obtain ⟨j, hj, rfl⟩ := (h2 a).1 ha
        unfold Lib.keeps at hk
        simp only [decide_eq_true_eq] at hk
        have a1 := h j (m-1) (by omega) (by omega)
        have a2 := h (m-1) m (by omega) (by omega)
        rcases hk with hk | hk
        · omega
        · omega
      · rw [List.mem_append, List.mem_singleton, h2]
        constructor
        · rintro (⟨j, hj, e⟩ | e)
          · exact ⟨j, by omega, e⟩
          · exact ⟨m, by omega, e.symm⟩
        · rintro ⟨j, hj, e⟩
          by_cases e2 : j = m
          · subst e2; exact Or.inr e.symm
          · exact Or.inl ⟨j, by omega, e⟩
    · rw [if_neg hk, List.append_nil]
      refine ⟨h1, fun x => ?_⟩
      rw [h2]
      constructor
      · rintro ⟨j, hj, e⟩; exact ⟨j, by omega, e⟩
      · rintro ⟨j, hj, e⟩
        by_cases e2 : j = m
        · subst e2
          unfold Lib.keeps at hk
          simp only [decide_eq_true_eq, not_or, Decidable.not_not] at hk
          exact ⟨j - 1, by omega, hk.2.symm.trans e⟩
        · exact ⟨j, by omega, e⟩
theorem compact_facts {zs : List Int} (h : zs.Pairwise (· ≤ ·)) : (Lib.compact zs).Pairwise (· < ·) ∧ ∀ x, x ∈ Lib.compact zs ↔ x ∈ zs := by
  have hg : ∀ i, i < zs.length → zs.toArray[i]! = zs.getD i 0 := fun i hi => by
    simp [List.getD_eq_getElem?_getD, hi]
  have hs : ∀ i j, i ≤ j → j < zs.length → zs.toArray[i]! ≤ zs.toArray[j]! := fun i j hij hj => by
    rw [hg i (by omega), hg j hj]
    by_cases e : i = j
    · subst e; exact Int.le_refl _
    · rw [List.pairwise_iff_getElem] at h
      have := h i j (by omega) hj (by omega)
      rw [List.getD_eq_getElem?_getD, List.getElem?_eq_getElem (by omega), List.getD_eq_getElem?_getD, List.getElem?_eq_getElem hj]
      exact this
  obtain ⟨h1, h2⟩ := compact_upTo hs zs.length (Nat.le_refl _)
  refine ⟨h1, fun x => ?_⟩
  unfold Lib.compact
  rw [h2]
  constructor
  · rintro ⟨j, hj, e⟩
    rw [hg j hj] at e
    rw [← e, List.getD_eq_getElem?_getD, List.getElem?_eq_getElem hj]
    exact List.getElem_mem hj
  · intro hx
    obtain ⟨j, hj, e⟩ := List.mem_iff_getElem.1 hx
    exact ⟨j, hj, by rw [hg j hj, List.getD_eq_getElem?_getD, List.getElem?_eq_getElem hj]; exact e⟩

/-- The sums of the first k sets; of all sets, each once, increasing; those above nought. -/
def sumsK (ws : List Int) (n k : Nat) : List Int := (List.range k).map fun s => wtK ws s n
def dstL (ws : List Int) (n : Nat) : List Int := Lib.compact ((sumsK ws n (2^n)).mergeSort fun x y => decide (x ≤ y))
def posL (ws : List Int) (n : Nat) : List Int := (dstL ws n).filter fun x => decide (0 < x)
theorem sumsK_len (ws : List Int) (n k : Nat) : (sumsK ws n k).length = k := by simp [sumsK]
theorem sumsK_succ (ws : List Int) (n k : Nat) : sumsK ws n (k+1) = sumsK ws n k ++ [wtK ws k n] := by simp [sumsK, List.range_succ]
theorem dst_facts (ws : List Int) (n : Nat) : (dstL ws n).Pairwise (· < ·) ∧ ∀ x, x ∈ dstL ws n ↔ ∃ s, s < 2^n ∧ wtK ws s n = x := by
  have hs : ((sumsK ws n (2^n)).mergeSort fun x y => decide (x ≤ y)).Pairwise (· ≤ ·) := by
    have := List.pairwise_mergeSort (le := fun x y : Int => decide (x ≤ y)) (fun a b c h1 h2 => by simp at *; omega) (fun a b => by simp; omega) (sumsK ws n (2^n))
    exact this.imp fun h => by simpa using h
  obtain ⟨h1, h2⟩ := compact_facts hs
  refine ⟨h1, fun x => ?_⟩
  unfold dstL
  rw [h2, List.mem_mergeSort]
  unfold sumsK
  rw [List.mem_map]
  constructor
  · rintro ⟨s, hs, e⟩; exact ⟨s, List.mem_range.1 hs, e⟩
  · rintro ⟨s, hs, e⟩; exact ⟨s, List.mem_range.2 hs, e⟩
theorem pos_facts (ws : List Int) (n : Nat) : (posL ws n).Pairwise (· < ·) ∧ ∀ x, x ∈ posL ws n ↔ 0 < x ∧ ∃ s, s < 2^n ∧ wtK ws s n = x := by
  obtain ⟨h1, h2⟩ := dst_facts ws n
  refine ⟨h1.filter _, fun x => ?_⟩
  unfold posL
  rw [List.mem_filter, h2, decide_eq_true_iff]
  exact And.comm
theorem wtK_nought (ws : List Int) : ∀ k, wtK ws 0 k = 0
  | 0 => rfl
  | k+1 => by simp only [wtK, wtK_nought ws k]; simp
theorem dst_pos {ws : List Int} {n : Nat} (hok : InK 0 1000 ws n) : dstL ws n = 0 :: posL ws n := by
  obtain ⟨h1, h2⟩ := dst_facts ws n
  obtain ⟨h3, h4⟩ := pos_facts ws n
  refine strict_unique h1 (List.pairwise_cons.2 ⟨fun a ha => ((h4 a).1 ha).1, h3⟩) fun x => ?_
  rw [h2, List.mem_cons, h4]
  constructor
  · rintro ⟨s, hs, e⟩
    have := wtK_bd (s := s) hok
    by_cases h : x = 0
    · exact Or.inl h
    · exact Or.inr ⟨by omega, s, hs, e⟩
  · rintro (e | ⟨_, s, hs, e⟩)
    · exact ⟨0, Nat.two_pow_pos n, by rw [wtK_nought, e]⟩
    · exact ⟨s, hs, e⟩
theorem dst_len {ws : List Int} {n : Nat} : (dstL ws n).length ≤ 2^n := by
  unfold dstL Lib.compact Lib.compactUpTo
  rw [List.length_map]
  refine Nat.le_trans (List.length_filter_le _ _) ?_
  rw [List.length_range, List.length_mergeSort, sumsK_len]
  exact Nat.le_refl _
end Go.Proofs.Ytlnlkfldlgchhab
