/- Plain facts: the least sum of a set that wins, the greatest of one that loses, and where these are met. -/
import Derived.Test.YtipplbcjdcdapabGreatR7
namespace Go.Proofs.YtipplbcjdcdapabGreat
open Go.RowKit Vo

theorem wtK_sub {ws : List Int} {s t k : Nat} (h : InK 0 1000 ws k) (hst : ∀ j, j < k → t.testBit j = true → s.testBit j = true) : wtK ws t k ≤ wtK ws s k := by
  induction k with
  | zero => simp [wtK]
  | succ k ih =>
    have i := ih (h.mono (by omega)) fun j hj => hst j (by omega)
    have hk := h k (by omega)
    have hb := hst k (by omega)
    simp only [wtK]
    cases ht : t.testBit k with
    | false => rw [if_neg (by decide : ¬ false = true)]; split <;> omega
    | true => rw [hb ht, if_pos rfl]; omega

theorem out_lt {s k : Nat} (_hs : s < 512) (hk : k < 9) (h : s.testBit k = true) : out s k < s := by
  have hle := out_le s k
  rcases Nat.lt_or_ge (out s k) s with h' | h'
  · exact h'
  · exfalso
    have e : out s k = s := by omega
    have := testBit_out (s := s) (k := k) (j := k) (by omega) (by omega)
    rw [e, h] at this; simp at this

/-- Under a set of a kind there is a least one. -/
theorem least_under {p : Nat → Bool} {n : Nat} (hn : n ≤ 9) : ∀ (s : Nat), s < 2^n → p s = true → ∃ t, t < 2^n ∧ leastP p n t = true ∧ ∀ j, j < n → t.testBit j = true → s.testBit j = true := by
  have h512 := pow_lt hn
  intro s
  induction s using Nat.strongRecOn with
  | _ s ih =>
    intro hs hp
    cases hm : noneOut p s n with
    | true => exact ⟨s, hs, by simp [leastP, hp, hm], fun j _ h => h⟩
    | false =>
      have : ¬ ∀ j, j < n → (!(s.testBit j && p (out s j))) = true := fun h => by rw [noneOut, allK_iff.2 h] at hm; cases hm
      have ⟨j, hj, hjb⟩ : ∃ j, j < n ∧ (s.testBit j && p (out s j)) = true := by
        refine Classical.byContradiction fun hc => this fun j hj => ?_
        cases hx : (s.testBit j && p (out s j)) with
        | false => rfl
        | true => exact absurd ⟨j, hj, hx⟩ hc
      rw [Bool.and_eq_true] at hjb
      have hlt := out_lt (s := s) (k := j) (by omega) (by omega) hjb.1
      obtain ⟨t, ht, hl, hsub⟩ := ih _ hlt (by omega) hjb.2
      refine ⟨t, ht, hl, fun i hi hb => ?_⟩
      have := hsub i hi hb
      rw [testBit_out (by omega) (by omega)] at this
      simp at this; exact this.1

/-- Over a set of a kind there is a greatest one. -/
theorem great_over {p : Nat → Bool} {n : Nat} : ∀ (d s : Nat), 2^n - s = d → s < 2^n → p s = true → ∃ t, t < 2^n ∧ greatP p n t = true ∧ ∀ j, j < n → s.testBit j = true → t.testBit j = true := by
  intro d
  induction d using Nat.strongRecOn with
  | _ d ih =>
    intro s hd hs hp
    cases hm : noneMore p s n with
    | true => exact ⟨s, hs, by simp [greatP, hp, hm], fun j _ h => h⟩
    | false =>
      have : ¬ ∀ j, j < n → (!(!s.testBit j && p (s ||| 2^j))) = true := fun h => by rw [noneMore, allK_iff.2 h] at hm; cases hm
      have ⟨j, hj, hjb⟩ : ∃ j, j < n ∧ (!s.testBit j && p (s ||| 2^j)) = true := by
        refine Classical.byContradiction fun hc => this fun j hj => ?_
        cases hx : (!s.testBit j && p (s ||| 2^j)) with
        | false => rfl
        | true => exact absurd ⟨j, hj, hx⟩ hc
      rw [Bool.and_eq_true] at hjb
      have hb : s.testBit j = false := by have := hjb.1; simpa using this
      have hor : s ||| 2^j < 2^n := Nat.or_lt_two_pow hs (Nat.pow_lt_pow_right (by omega) hj)
      have hge : s ≤ s ||| 2^j := Nat.left_le_or
      have hne : s ≠ s ||| 2^j := fun e => by
        have h1 := Nat.testBit_or s (2^j) j
        rw [← e, hb, Nat.testBit_two_pow_self] at h1; simp at h1
      obtain ⟨t, ht, hl, hsub⟩ := ih (2^n - (s ||| 2^j)) (by omega) _ rfl hor hjb.2
      refine ⟨t, ht, hl, fun i hi hbi => hsub i hi ?_⟩
      rw [Nat.testBit_or, hbi]; rfl

/-- The least sum of the first k + 1 of these sets. -/
def lowK (ws : List Int) (n : Nat) (L : List Nat) : Nat → Int
  | 0 => wtK ws (L.getD 0 0) n
  | k+1 => min (lowK ws n L k) (wtK ws (L.getD (k+1) 0) n)
/-- The greatest sum of the first k of these sets, or 0. -/
def highK (ws : List Int) (n : Nat) (L : List Nat) : Nat → Int
  | 0 => 0
  | k+1 => max (highK ws n L k) (wtK ws (L.getD k 0) n)

theorem lowK_le {ws : List Int} {n : Nat} {L : List Nat} {k : Nat} : ∀ j, j ≤ k → lowK ws n L k ≤ wtK ws (L.getD j 0) n := by
  induction k with
  | zero => intro j hj; obtain rfl : j = 0 := by omega
            exact Int.le_refl _
  | succ k ih =>
    intro j hj
    simp only [lowK]
    by_cases e : j = k + 1
    · subst e; omega
    · have := ih j (by omega); omega
theorem lowK_met {ws : List Int} {n : Nat} {L : List Nat} {k : Nat} : ∃ j, j ≤ k ∧ lowK ws n L k = wtK ws (L.getD j 0) n := by
  induction k with
  | zero => exact ⟨0, by omega, rfl⟩
  | succ k ih =>
    obtain ⟨j, hj, e⟩ := ih
    simp only [lowK]
    rcases Int.le_total (lowK ws n L k) (wtK ws (L.getD (k+1) 0) n) with h | h
    · exact ⟨j, by omega, by omega⟩
    · exact ⟨k + 1, by omega, by omega⟩
theorem highK_ge {ws : List Int} {n : Nat} {L : List Nat} {k : Nat} : 0 ≤ highK ws n L k ∧ ∀ j, j < k → wtK ws (L.getD j 0) n ≤ highK ws n L k := by
  induction k with
  | zero => exact ⟨Int.le_refl _, fun j hj => by omega⟩
  | succ k ih =>
    obtain ⟨h0, h1⟩ := ih
    simp only [highK]
    refine ⟨by omega, fun j hj => ?_⟩
    by_cases e : j = k
    · subst e; omega
    · have := h1 j (by omega); omega
theorem highK_met {ws : List Int} {n : Nat} {L : List Nat} {k : Nat} : highK ws n L k = 0 ∨ ∃ j, j < k ∧ highK ws n L k = wtK ws (L.getD j 0) n := by
  induction k with
  | zero => exact Or.inl rfl
  | succ k ih =>
    simp only [highK]
    rcases Int.le_total (highK ws n L k) (wtK ws (L.getD k 0) n) with h | h
    · exact Or.inr ⟨k, by omega, by omega⟩
    · rcases ih with e | ⟨j, hj, e⟩
      · exact Or.inl (by omega)
      · exact Or.inr ⟨j, by omega, by omega⟩
theorem lowK_bd {ws : List Int} {n : Nat} (h : InK 0 1000 ws n) (hn : n ≤ 9) (L : List Nat) (k : Nat) : 0 ≤ lowK ws n L k ∧ lowK ws n L k ≤ 9000 := by
  obtain ⟨j, _, e⟩ := lowK_met (ws := ws) (n := n) (L := L) (k := k)
  have := wtK_bd (s := L.getD j 0) h; have := sumK_bd h; omega
theorem highK_bd {ws : List Int} {n : Nat} (h : InK 0 1000 ws n) (hn : n ≤ 9) (L : List Nat) (k : Nat) : 0 ≤ highK ws n L k ∧ highK ws n L k ≤ 9000 := by
  refine ⟨highK_ge.1, ?_⟩
  rcases highK_met (ws := ws) (n := n) (L := L) (k := k) with e | ⟨j, _, e⟩
  · omega
  · have := wtK_bd (s := L.getD j 0) h; have := sumK_bd h; omega

/-- The least winning sets, the greatest losing ones of a rule. -/
def winL (p : Nat → Bool) (n : Nat) : List Nat := (inOrder n).filter (leastP p n)
def loseL (p : Nat → Bool) (n : Nat) : List Nat := (inOrder n).filter (greatP (fun s => !p s) n)
def lowS (p : Nat → Bool) (ws : List Int) (n : Nat) : Int := lowK ws n (winL p n) ((winL p n).length - 1)
def highS (p : Nat → Bool) (ws : List Int) (n : Nat) : Int := highK ws n (loseL p n) (loseL p n).length

theorem getD_of_mem {L : List Nat} {t : Nat} (h : t ∈ L) : ∃ j, j < L.length ∧ L.getD j 0 = t := by
  obtain ⟨j, hj, e⟩ := List.getElem_of_mem h
  exact ⟨j, hj, by rw [List.getD_eq_getElem?_getD, List.getElem?_eq_getElem hj]; exact e⟩
theorem mem_of_getD {L : List Nat} {j : Nat} (h : j < L.length) : L.getD j 0 ∈ L := by
  rw [List.getD_eq_getElem?_getD, List.getElem?_eq_getElem h]; exact List.getElem_mem h

theorem winL_pos {p : Nat → Bool} {n : Nat} (hn : n ≤ 9) {s : Nat} (hs : s < 2^n) (hp : p s = true) : 1 ≤ (winL p n).length := by
  obtain ⟨t, ht, hl, _⟩ := least_under hn s hs hp
  exact List.length_pos_of_mem (List.mem_filter.2 ⟨mem_inOrder.2 ht, hl⟩)
theorem winL_in {p : Nat → Bool} {n : Nat} : ∀ t ∈ winL p n, t < 2^n ∧ p t = true := fun t ht => by
  have h := List.mem_filter.1 ht
  refine ⟨mem_inOrder.1 h.1, ?_⟩
  have := h.2; simp [leastP] at this; exact this.1
theorem loseL_in {p : Nat → Bool} {n : Nat} : ∀ t ∈ loseL p n, t < 2^n ∧ p t = false := fun t ht => by
  have h := List.mem_filter.1 ht
  refine ⟨mem_inOrder.1 h.1, ?_⟩
  have := h.2; simp [greatP] at this; exact this.1

theorem low_le {p : Nat → Bool} {ws : List Int} {n : Nat} (hn : n ≤ 9) (h : InK 0 1000 ws n) {s : Nat} (hs : s < 2^n) (hp : p s = true) : lowS p ws n ≤ wtK ws s n := by
  obtain ⟨t, ht, hl, hsub⟩ := least_under hn s hs hp
  obtain ⟨j, hj, e⟩ := getD_of_mem (List.mem_filter.2 ⟨mem_inOrder.2 ht, hl⟩)
  have h1 := lowK_le (ws := ws) (n := n) (L := winL p n) (k := (winL p n).length - 1) j (by unfold winL; omega)
  have h2 := wtK_sub h hsub
  rw [show (winL p n).getD j 0 = t from e] at h1
  unfold lowS; omega
theorem low_met {p : Nat → Bool} {ws : List Int} {n : Nat} (hn : n ≤ 9) {s : Nat} (hs : s < 2^n) (hp : p s = true) : ∃ t, t < 2^n ∧ p t = true ∧ lowS p ws n = wtK ws t n := by
  have hpos := winL_pos hn hs hp
  obtain ⟨j, hj, e⟩ := lowK_met (ws := ws) (n := n) (L := winL p n) (k := (winL p n).length - 1)
  have := winL_in _ (mem_of_getD (L := winL p n) (j := j) (by omega))
  exact ⟨_, this.1, this.2, e⟩
theorem high_ge {p : Nat → Bool} {ws : List Int} {n : Nat} (h : InK 0 1000 ws n) {s : Nat} (hs : s < 2^n) (hp : p s = false) : wtK ws s n ≤ highS p ws n := by
  obtain ⟨t, ht, hl, hsub⟩ := great_over (p := fun s => !p s) (n := n) _ s rfl hs (by simp [hp])
  obtain ⟨j, hj, e⟩ := getD_of_mem (List.mem_filter.2 ⟨mem_inOrder.2 ht, hl⟩)
  have h1 := (highK_ge (ws := ws) (n := n) (L := loseL p n) (k := (loseL p n).length)).2 j hj
  have h2 := wtK_sub h hsub
  rw [show (loseL p n).getD j 0 = t from e] at h1
  unfold highS; omega
theorem wtK_nil (ws : List Int) : ∀ k, wtK ws 0 k = 0
  | 0 => rfl
  | k+1 => by simp [wtK, wtK_nil ws k]
theorem high_met {p : Nat → Bool} {ws : List Int} {n : Nat} (h0 : p 0 = false) : ∃ t, t < 2^n ∧ p t = false ∧ highS p ws n = wtK ws t n := by
  rcases highK_met (ws := ws) (n := n) (L := loseL p n) (k := (loseL p n).length) with e | ⟨j, hj, e⟩
  · exact ⟨0, Nat.two_pow_pos n, h0, by rw [wtK_nil]; exact e⟩
  · have := loseL_in _ (mem_of_getD (L := loseL p n) (j := j) hj)
    exact ⟨_, this.1, this.2, e⟩

/-- As the model goes: the greatest losing sum so far, the least winning one, -1 where none. -/
def mostK (p : Nat → Bool) (ws : List Int) (n : Nat) : Nat → Int
  | 0 => -1
  | j+1 => if p j = false ∧ mostK p ws n j < wtK ws j n then wtK ws j n else mostK p ws n j
def fewK (p : Nat → Bool) (ws : List Int) (n : Nat) : Nat → Int
  | 0 => -1
  | j+1 => if p j = true ∧ (fewK p ws n j < 0 ∨ wtK ws j n < fewK p ws n j) then wtK ws j n else fewK p ws n j

theorem mostK_spec {p : Nat → Bool} {ws : List Int} {n : Nat} (h : InK 0 1000 ws n) : ∀ k, (mostK p ws n k = -1 ∧ ∀ j, j < k → p j = true) ∨ ((∃ j, j < k ∧ p j = false ∧ mostK p ws n k = wtK ws j n) ∧ ∀ j, j < k → p j = false → wtK ws j n ≤ mostK p ws n k) := by
  intro k
  induction k with
  | zero => exact Or.inl ⟨rfl, fun j hj => by omega⟩
  | succ k ih =>
    have hw := wtK_bd (s := k) h
    simp only [mostK]
    rcases ih with ⟨e, ha⟩ | ⟨⟨j, hj, hpj, e⟩, ha⟩
    · cases hk : p k with
      | true => left; refine ⟨by simpa using e, fun j hj => ?_⟩
                by_cases ej : j = k
                · subst ej; exact hk
                · exact ha j (by omega)
      | false =>
        right
        rw [if_pos ⟨rfl, by omega⟩]
        refine ⟨⟨k, by omega, hk, rfl⟩, fun j hj hpj => ?_⟩
        by_cases ej : j = k
        · subst ej; exact Int.le_refl _
        · rw [ha j (by omega)] at hpj; cases hpj
    · right
      by_cases hc : p k = false ∧ mostK p ws n k < wtK ws k n
      · rw [if_pos hc]
        refine ⟨⟨k, by omega, hc.1, rfl⟩, fun i hi hpi => ?_⟩
        by_cases ei : i = k
        · subst ei; exact Int.le_refl _
        · have := ha i (by omega) hpi; omega
      · rw [if_neg hc]
        refine ⟨⟨j, by omega, hpj, e⟩, fun i hi hpi => ?_⟩
        by_cases ei : i = k
        · subst ei
          rcases Int.lt_or_le (mostK p ws n i) (wtK ws i n) with h' | h'
          · exact absurd ⟨hpi, h'⟩ hc
          · exact h'
        · exact ha i (by omega) hpi

theorem fewK_spec {p : Nat → Bool} {ws : List Int} {n : Nat} (h : InK 0 1000 ws n) : ∀ k, (fewK p ws n k = -1 ∧ ∀ j, j < k → p j = false) ∨ ((∃ j, j < k ∧ p j = true ∧ fewK p ws n k = wtK ws j n) ∧ ∀ j, j < k → p j = true → fewK p ws n k ≤ wtK ws j n) := by
  intro k
  induction k with
  | zero => exact Or.inl ⟨rfl, fun j hj => by omega⟩
  | succ k ih =>
    have hw := wtK_bd (s := k) h
    simp only [fewK]
    rcases ih with ⟨e, ha⟩ | ⟨⟨j, hj, hpj, e⟩, ha⟩
    · cases hk : p k with
      | false => left; refine ⟨by simpa using e, fun j hj => ?_⟩
                 by_cases ej : j = k
                 · subst ej; exact hk
                 · exact ha j (by omega)
      | true =>
        right
        rw [if_pos ⟨rfl, by omega⟩]
        refine ⟨⟨k, by omega, hk, rfl⟩, fun j hj hpj => ?_⟩
        by_cases ej : j = k
        · subst ej; exact Int.le_refl _
        · rw [ha j (by omega)] at hpj; cases hpj
    · right
      have hw2 := wtK_bd (s := j) h
      by_cases hc : p k = true ∧ (fewK p ws n k < 0 ∨ wtK ws k n < fewK p ws n k)
      · rw [if_pos hc]
        refine ⟨⟨k, by omega, hc.1, rfl⟩, fun i hi hpi => ?_⟩
        by_cases ei : i = k
        · subst ei; exact Int.le_refl _
        · have := ha i (by omega) hpi
          rcases hc.2 with h' | h' <;> omega
      · rw [if_neg hc]
        refine ⟨⟨j, by omega, hpj, e⟩, fun i hi hpi => ?_⟩
        by_cases ei : i = k
        · subst ei
          rcases Int.lt_or_le (wtK ws i n) (fewK p ws n i) with h' | h'
          · exact absurd ⟨hpi, Or.inr h'⟩ hc
          · exact h'
        · exact ha i (by omega) hpi

theorem most_is {p : Nat → Bool} {ws : List Int} {n : Nat} (h : InK 0 1000 ws n) (h0 : p 0 = false) : mostK p ws n (2^n) = highS p ws n := by
  obtain ⟨t, ht, hpt, e⟩ := high_met (p := p) (ws := ws) (n := n) h0
  rcases mostK_spec (p := p) h (2^n) with ⟨_, ha⟩ | ⟨⟨j, hj, hpj, e2⟩, ha⟩
  · rw [ha 0 (Nat.two_pow_pos n)] at h0; cases h0
  · have h1 := ha t ht hpt
    have h2 := high_ge (p := p) h hj hpj
    omega
theorem few_is {p : Nat → Bool} {ws : List Int} {n : Nat} (hn : n ≤ 9) (h : InK 0 1000 ws n) {s : Nat} (hs : s < 2^n) (hp : p s = true) : fewK p ws n (2^n) = lowS p ws n := by
  obtain ⟨t, ht, hpt, e⟩ := low_met (p := p) (ws := ws) hn hs hp
  rcases fewK_spec (p := p) h (2^n) with ⟨_, ha⟩ | ⟨⟨j, hj, hpj, e2⟩, ha⟩
  · rw [ha s hs] at hp; cases hp
  · have h1 := ha t ht hpt
    have h2 := low_le (p := p) hn h hj hpj
    omega
theorem mostK_bd {p : Nat → Bool} {ws : List Int} {n : Nat} (h : InK 0 1000 ws n) (hn : n ≤ 9) (k : Nat) : -1 ≤ mostK p ws n k ∧ mostK p ws n k ≤ 9000 := by
  rcases mostK_spec (p := p) h k with ⟨e, _⟩ | ⟨⟨j, hj, hpj, e⟩, _⟩
  · omega
  · have := wtK_bd (s := j) h; have := sumK_bd h; omega
theorem fewK_bd {p : Nat → Bool} {ws : List Int} {n : Nat} (h : InK 0 1000 ws n) (hn : n ≤ 9) (k : Nat) : -1 ≤ fewK p ws n k ∧ fewK p ws n k ≤ 9000 := by
  rcases fewK_spec (p := p) h k with ⟨e, _⟩ | ⟨⟨j, hj, hpj, e⟩, _⟩
  · omega
  · have := wtK_bd (s := j) h; have := sumK_bd h; omega
end Go.Proofs.YtipplbcjdcdapabGreat
