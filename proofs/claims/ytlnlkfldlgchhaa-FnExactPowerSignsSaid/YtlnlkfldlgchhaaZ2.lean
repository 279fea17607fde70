/- Plain facts on the sizes of winning sets, least ones and losing ones. -/
import Derived.Test.YtlnlkfldlgchhaaT4
import Derived.Test.YtlnlkfldlgchhaaZ1
import Derived.Test.YtlnlkfldlgchhaaR3
namespace Go.Proofs.Ytlnlkfldlgchhaa.Vo
open Go.Proofs.Ytlnlkfldlgchhaa

theorem cnt_mono {p q : Nat → Bool} {k : Nat} (h : ∀ j, j < k → p j = true → q j = true) : cnt p k ≤ cnt q k := by
  induction k with
  | zero => exact Nat.le_refl _
  | succ k ih =>
    simp only [cnt]
    have h1 := ih fun j hj => h j (by omega)
    cases hp : p k
    · simp; omega
    · rw [h k (by omega) hp]; simp; omega
theorem sz_out {n s k : Nat} (hn : n ≤ 9) (hs : s < 2^n) (hk : k < n) : sz (out s k) ≤ sz s := by
  rw [sz_cnt hn hs, sz_cnt hn (Nat.lt_of_le_of_lt (out_le s k) hs)]
  refine cnt_mono fun j hj h => ?_
  rw [testBit_out (by omega) (by omega)] at h
  simp at h
  exact h.1
theorem least_under {p : Nat → Bool} {n : Nat} (hn : n ≤ 9) : ∀ s, s < 2^n → p s = true → ∃ t, t < 2^n ∧ leastP p n t = true ∧ sz t ≤ sz s := by
  intro s
  induction s using Nat.strongRecOn with
  | _ s ih =>
    intro hs hp
    cases hq : noneOut p s n with
    | true => exact ⟨s, hs, by unfold leastP; rw [hp, hq]; rfl, Nat.le_refl _⟩
    | false =>
      have hex : ∃ j, j < n ∧ s.testBit j = true ∧ p (out s j) = true := by
        apply Classical.byContradiction
        intro hno
        have : noneOut p s n = true := allK_iff.2 fun j hj => by
          cases hb : s.testBit j with
          | false => simp
          | true =>
            cases hpj : p (out s j) with
            | false => simp
            | true => exact absurd ⟨j, hj, hb, hpj⟩ hno
        rw [this] at hq; cases hq
      obtain ⟨j, hj, hb, hpj⟩ := hex
      have e := out_add hs hn hj hb
      have h2 := Nat.two_pow_pos j
      obtain ⟨t, h1, h2, h3⟩ := ih (out s j) (by omega) (by omega) hpj
      exact ⟨t, h1, h2, Nat.le_trans h3 (sz_out hn hs hj)⟩

/-- The least of a number and the sizes of the first j sets. -/
def minT (L : List Nat) (b j : Nat) : Nat := (L.take j).foldl (fun m s => min m (sz s)) b
theorem minT_zero (L b) : minT L b 0 = b := rfl
theorem minT_succ {L : List Nat} {b j : Nat} (h : j < L.length) : minT L b (j+1) = min (minT L b j) (sz (L.getD j 0)) := by
  unfold minT; rw [take_snoc h, List.foldl_append]; rfl
theorem foldl_min_le {L : List Nat} {b : Nat} : L.foldl (fun m s => min m (sz s)) b ≤ b ∧ ∀ s ∈ L, L.foldl (fun m s => min m (sz s)) b ≤ sz s := by
  induction L generalizing b with
  | nil => simp
  | cons a L ih =>
    have h := ih (b := min b (sz a))
    refine ⟨Nat.le_trans h.1 (Nat.min_le_left _ _), fun s hs => ?_⟩
    rcases List.mem_cons.1 hs with e | e
    · subst e; exact Nat.le_trans h.1 (Nat.min_le_right _ _)
    · exact h.2 s e
theorem foldl_min_ge {L : List Nat} {b m : Nat} (hb : m ≤ b) (h : ∀ s ∈ L, m ≤ sz s) : m ≤ L.foldl (fun m s => min m (sz s)) b := by
  induction L generalizing b with
  | nil => exact hb
  | cons a L ih => exact ih (show m ≤ min b (sz a) by have := h a (by simp); omega) fun s hs => h s (by simp [hs])
theorem minT_le (L b j) : minT L b j ≤ b := foldl_min_le.1
/-- The least of the sizes of winning sets is that of the least winning ones. -/
theorem min_least {p : Nat → Bool} {n : Nat} (hn : n ≤ 9) : minT ((inOrder n).filter (leastP p n)) n ((inOrder n).filter (leastP p n)).length = minK p n (2^n) := by
  unfold minT
  rw [List.take_length]
  apply Nat.le_antisymm
  · refine minK_ge foldl_min_le.1 fun s hs hp => ?_
    obtain ⟨t, h1, h2, h3⟩ := least_under hn s hs hp
    exact Nat.le_trans (foldl_min_le.2 t (List.mem_filter.2 ⟨mem_inOrder.2 h1, h2⟩)) h3
  · refine foldl_min_ge (minK_le _ _ _) fun s hs => ?_
    obtain ⟨h1, h2⟩ := List.mem_filter.1 hs
    exact minK_at (mem_inOrder.1 h1) (by unfold leastP at h2; simp at h2; exact h2.1)

/-- The sizes of the sets of a kind below N. -/
def kindS (P : Nat → Bool) (N : Nat) : List Nat := ((List.range N).filter P).map sz
theorem kindS_yes {P : Nat → Bool} {j : Nat} (h : P j = true) : kindS P (j+1) = kindS P j ++ [sz j] := by simp [kindS, List.range_succ, List.filter_append, h]
theorem kindS_no {P : Nat → Bool} {j : Nat} (h : P j = false) : kindS P (j+1) = kindS P j := by simp [kindS, List.range_succ, List.filter_append, h]
theorem kindS_len (P : Nat → Bool) (j : Nat) : (kindS P j).length ≤ j := by
  unfold kindS; rw [List.length_map]; exact Nat.le_trans (List.length_filter_le _ _) (by simp)
theorem mem_kindS {P : Nat → Bool} {N x : Nat} : x ∈ kindS P N ↔ ∃ s, s < N ∧ P s = true ∧ sz s = x := by
  unfold kindS
  simp only [List.mem_map, List.mem_filter, List.mem_range]
  constructor
  · rintro ⟨s, ⟨h1, h2⟩, h3⟩; exact ⟨s, h1, h2, h3⟩
  · rintro ⟨s, h1, h2, h3⟩; exact ⟨s, ⟨h1, h2⟩, h3⟩
/-- The least of the first k, k at least 1. -/
def minF (f : Nat → Nat) : Nat → Nat
  | 0 => f 0
  | k+1 => min (minF f k) (f k)
theorem minF_at {f : Nat → Nat} {k j : Nat} (h : j < k) : minF f k ≤ f j := by
  induction k with
  | zero => omega
  | succ k ih =>
    simp only [minF]
    by_cases e : j = k
    · subst e; omega
    · have := ih (by omega); omega
theorem minF_ge {f : Nat → Nat} {k m : Nat} (h1 : 1 ≤ k) (h : ∀ j, j < k → m ≤ f j) : m ≤ minF f k := by
  have h0 := h 0 (by omega)
  induction k with
  | zero => exact h0
  | succ k ih =>
    simp only [minF]
    have := h k (by omega)
    rcases Nat.eq_zero_or_pos k with e | e
    · subst e; simp only [minF]; omega
    · have := ih e (fun j hj => h j (by omega)); omega
theorem minF_le {f : Nat → Nat} {B k : Nat} (h : ∀ j, f j ≤ B) : minF f k ≤ B := by
  induction k with
  | zero => exact h 0
  | succ k ih => simp only [minF]; omega
theorem kindS_at {P : Nat → Bool} {N s : Nat} (hs : s < N) (hp : P s = true) : ∃ j, j < (kindS P N).length ∧ (kindS P N).getD j 0 = sz s := by
  obtain ⟨j, hj, e⟩ := List.getElem_of_mem (mem_kindS.2 ⟨s, hs, hp, rfl⟩)
  exact ⟨j, hj, by rw [List.getD_eq_getElem?_getD, List.getElem?_eq_getElem hj, e]; rfl⟩
theorem kindS_of {P : Nat → Bool} {N j : Nat} (h : j < (kindS P N).length) : ∃ s, s < N ∧ P s = true ∧ (kindS P N).getD j 0 = sz s := by
  obtain ⟨s, h1, h2, h3⟩ := mem_kindS.1 (List.getElem_mem h)
  exact ⟨s, h1, h2, by rw [List.getD_eq_getElem?_getD, List.getElem?_eq_getElem h, h3]; rfl⟩
theorem kindS_le9 (P : Nat → Bool) (N j : Nat) : (kindS P N).getD j 0 ≤ 9 := by
  rcases Nat.lt_or_ge j (kindS P N).length with h | h
  · obtain ⟨s, _, _, e⟩ := kindS_of h; rw [e]; exact sz_le9 s
  · rw [List.getD_eq_getElem?_getD, List.getElem?_eq_none h]; simp
theorem minF_kind {P : Nat → Bool} {N b t : Nat} (ht : t < N) (hp : P t = true) (hb : sz t ≤ b) : minF (fun j => (kindS P N).getD j 0) (kindS P N).length = minK P b N := by
  obtain ⟨j0, hj0, e0⟩ := kindS_at ht hp
  apply Nat.le_antisymm
  · refine minK_ge (Nat.le_trans (minF_at hj0) (by simp only [e0]; exact hb)) fun s hs hps => ?_
    obtain ⟨j, hj, e⟩ := kindS_at hs hps
    rw [← e]; exact minF_at (f := fun j => (kindS P N).getD j 0) hj
  · refine minF_ge (by omega) fun j hj => ?_
    obtain ⟨s, h1, h2, e⟩ := kindS_of hj
    simp only [e]
    exact minK_at h1 h2
theorem sz_full {n : Nat} (hn : n ≤ 9) : sz (2^n - 1) = n := by
  have : n = 0 ∨ n = 1 ∨ n = 2 ∨ n = 3 ∨ n = 4 ∨ n = 5 ∨ n = 6 ∨ n = 7 ∨ n = 8 ∨ n = 9 := by omega
  rcases this with h | h | h | h | h | h | h | h | h | h <;> subst h <;> decide
/-- The greatest of the first k. -/
def maxF (f : Nat → Nat) : Nat → Nat
  | 0 => 0
  | k+1 => max (maxF f k) (f k)
theorem maxF_le {f : Nat → Nat} {B k : Nat} (h : ∀ j, f j ≤ B) : maxF f k ≤ B := by
  induction k with
  | zero => simp [maxF]
  | succ k ih => have := h k; simp only [maxF]; omega
theorem maxF_at {f : Nat → Nat} {k j : Nat} (h : j < k) : f j ≤ maxF f k := by
  induction k with
  | zero => omega
  | succ k ih =>
    simp only [maxF]
    by_cases e : j = k
    · subst e; omega
    · have := ih (by omega); omega
theorem maxF_ge {f : Nat → Nat} {k m : Nat} (h : ∀ j, j < k → f j ≤ m) : maxF f k ≤ m := by
  induction k with
  | zero => simp [maxF]
  | succ k ih => simp only [maxF]; have := h k (by omega); have := ih fun j hj => h j (by omega); omega
theorem maxK_at {P : Nat → Bool} {N s : Nat} (hs : s < N) (h : P s = true) : sz s ≤ maxK P N := by
  induction N with
  | zero => omega
  | succ j ih =>
    simp only [maxK]
    by_cases e : s = j
    · subst e; rw [if_pos h]; omega
    · have := ih (by omega); split <;> omega
theorem maxK_ge {P : Nat → Bool} {N m : Nat} (h : ∀ s, s < N → P s = true → sz s ≤ m) : maxK P N ≤ m := by
  induction N with
  | zero => simp [maxK]
  | succ j ih =>
    simp only [maxK]
    have h1 := ih fun s hs => h s (by omega)
    split
    · have := h j (by omega) (by assumption); omega
    · exact h1
theorem maxF_kind (P : Nat → Bool) (N : Nat) : maxF (fun j => (kindS P N).getD j 0) (kindS P N).length = maxK P N := by
  apply Nat.le_antisymm
  · refine maxF_ge fun j hj => ?_
    obtain ⟨s, h1, h2, e⟩ := kindS_of hj
    simp only [e]
    exact maxK_at h1 h2
  · refine maxK_ge fun s hs hps => ?_
    obtain ⟨j, hj, e⟩ := kindS_at hs hps
    rw [← e]; exact maxF_at (f := fun j => (kindS P N).getD j 0) hj
end Go.Proofs.Ytlnlkfldlgchhaa.Vo
