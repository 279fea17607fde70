/- Plain facts on weights made as small as they can be; contract of the program's spareOf. -/
import Derived.Test.YtkeiojfnjgjliaaWi
import Derived.Deep.RegionHeld3
namespace Go.Proofs.Ytkeiojfnjgjliaa
open Go.RowKit Vo

theorem wtK_more {ws : List Int} {s t z k : Nat} (h : InK 0 1000 ws k) (hst : ∀ j, j < k → t.testBit j = true → s.testBit j = true) (hz : z < k) (hs : s.testBit z = true) (ht : t.testBit z = false) : wtK ws t k + ws.getD z 0 ≤ wtK ws s k := by
  induction k with
  | zero => omega
  | succ k ih =>
    have hk := h k (by omega)
    have hb := hst k (by omega)
    simp only [wtK]
    by_cases e : z = k
    · subst e
      rw [hs, ht, if_pos rfl, if_neg (by decide)]
      have := wtK_sub (h.mono (by omega)) (s := s) (t := t) (k := z) fun j hj => hst j (by omega)
      omega
    · have i := ih (h.mono (by omega)) (fun j hj => hst j (by omega)) (by omega)
      cases ht : t.testBit k with
      | false => rw [if_neg (by decide : ¬ false = true)]; split <;> omega
      | true => rw [hb ht, if_pos rfl]; omega

theorem getD_set {V : List Int} {k j : Nat} {y : Int} (hk : k < V.length) : (V.set k y).getD j 0 = if j = k then y else V.getD j 0 := by
  rw [List.getD_eq_getElem?_getD, List.getD_eq_getElem?_getD, List.getElem?_set]
  by_cases e : j = k
  · subst e; simp [hk]
  · rw [if_neg (fun h => e h.symm), if_neg e]
theorem wtK_set {V : List Int} {z : Nat} {y : Int} (hz : z < V.length) (s : Nat) : ∀ k, wtK (V.set z y) s k = wtK V s k + if s.testBit z ∧ z < k then y - V.getD z 0 else 0
  | 0 => by simp [wtK]
  | k+1 => by
    simp only [wtK]
    rw [wtK_set hz s k, getD_set hz]
    by_cases e : k = z
    · subst e
      cases hb : s.testBit k with
      | false => simp
      | true => simp; omega
    · rw [if_neg e]
      by_cases h : s.testBit z = true ∧ z < k
      · rw [if_pos h, if_pos (show s.testBit z = true ∧ z < k + 1 from ⟨h.1, by omega⟩)]; omega
      · rw [if_neg h, if_neg (show ¬ (s.testBit z = true ∧ z < k + 1) from fun g => h ⟨g.1, by omega⟩)]; omega

/-- How much less member k can weigh: as the program goes, over some sets; as the model goes, over all that win. -/
def spK (V : List Int) (q : Int) (n k : Nat) (L : List Nat) : Nat → Int
  | 0 => V.getD k 0
  | j+1 => if (L.getD j 0).testBit k then min (spK V q n k L j) (wtK V (L.getD j 0) n - q) else spK V q n k L j
def smK (V : List Int) (q : Int) (n k : Nat) (p : Nat → Bool) : Nat → Int
  | 0 => V.getD k 0
  | j+1 => if p j = true ∧ j.testBit k = true then min (smK V q n k p j) (wtK V j n - q) else smK V q n k p j

theorem spK_spec (V : List Int) (q : Int) (n k : Nat) (L : List Nat) : ∀ m, spK V q n k L m ≤ V.getD k 0 ∧ (∀ j, j < m → (L.getD j 0).testBit k = true → spK V q n k L m ≤ wtK V (L.getD j 0) n - q) ∧ (spK V q n k L m = V.getD k 0 ∨ ∃ j, j < m ∧ (L.getD j 0).testBit k = true ∧ spK V q n k L m = wtK V (L.getD j 0) n - q) := by
  intro m
  induction m with
  | zero => exact ⟨Int.le_refl _, fun j hj => by omega, Or.inl rfl⟩
  | succ m ih =>
    obtain ⟨h0, h1, h2⟩ := ih
    simp only [spK]
    cases hb : (L.getD m 0).testBit k with
    | false =>
      rw [if_neg (by decide)]
      refine ⟨h0, fun j hj hjb => ?_, ?_⟩
      · by_cases e : j = m
        · subst e; rw [hb] at hjb; cases hjb
        · exact h1 j (by omega) hjb
      · rcases h2 with h2 | ⟨j, hj, hjb, e⟩
        · exact Or.inl h2
        · exact Or.inr ⟨j, by omega, hjb, e⟩
    | true =>
      rw [if_pos rfl]
      refine ⟨by omega, fun j hj hjb => ?_, ?_⟩
      · by_cases e : j = m
        · subst e; omega
        · have := h1 j (by omega) hjb; omega
      · rcases Int.le_total (spK V q n k L m) (wtK V (L.getD m 0) n - q) with h | h
        · rcases h2 with h2 | ⟨j, hj, hjb, e⟩
          · exact Or.inl (by omega)
          · exact Or.inr ⟨j, by omega, hjb, by omega⟩
        · exact Or.inr ⟨m, by omega, hb, by omega⟩
theorem smK_spec (V : List Int) (q : Int) (n k : Nat) (p : Nat → Bool) : ∀ m, smK V q n k p m ≤ V.getD k 0 ∧ (∀ j, j < m → p j = true → j.testBit k = true → smK V q n k p m ≤ wtK V j n - q) ∧ (smK V q n k p m = V.getD k 0 ∨ ∃ j, j < m ∧ p j = true ∧ j.testBit k = true ∧ smK V q n k p m = wtK V j n - q) := by
  intro m
  induction m with
  | zero => exact ⟨Int.le_refl _, fun j hj => by omega, Or.inl rfl⟩
  | succ m ih =>
    obtain ⟨h0, h1, h2⟩ := ih
    simp only [smK]
    by_cases hb : p m = true ∧ m.testBit k = true
    · rw [if_pos hb]
      refine ⟨by omega, fun j hj hpj hjb => ?_, ?_⟩
      · by_cases e : j = m
        · subst e; omega
        · have := h1 j (by omega) hpj hjb; omega
      · rcases Int.le_total (smK V q n k p m) (wtK V m n - q) with h | h
        · rcases h2 with h2 | ⟨j, hj, hpj, hjb, e⟩
          · exact Or.inl (by omega)
          · exact Or.inr ⟨j, by omega, hpj, hjb, by omega⟩
        · exact Or.inr ⟨m, by omega, hb.1, hb.2, by omega⟩
    · rw [if_neg hb]
      refine ⟨h0, fun j hj hpj hjb => ?_, ?_⟩
      · by_cases e : j = m
        · subst e; exact absurd ⟨hpj, hjb⟩ hb
        · exact h1 j (by omega) hpj hjb
      · rcases h2 with h2 | ⟨j, hj, hpj, hjb, e⟩
        · exact Or.inl h2
        · exact Or.inr ⟨j, by omega, hpj, hjb, e⟩

/-- What holds while weights are made small. -/
structure Inv (p : Nat → Bool) (q : Int) (n : Nat) (V : List Int) : Prop where
  len : V.length = n
  ok : InK 0 1000 V n
  wins : ∀ s, s < 2^n → p s = true → q ≤ wtK V s n

theorem spare_same {p : Nat → Bool} {q : Int} {n : Nat} {V : List Int} (hn : n ≤ 9) (h : Inv p q n V) {k : Nat} (hk : k < n) : smK V q n k p (2^n) = spK V q n k (winL p n) (winL p n).length := by
  obtain ⟨a0, a1, a2⟩ := smK_spec V q n k p (2^n)
  obtain ⟨b0, b1, b2⟩ := spK_spec V q n k (winL p n) (winL p n).length
  have le1 : smK V q n k p (2^n) ≤ spK V q n k (winL p n) (winL p n).length := by
    rcases b2 with b2 | ⟨j, hj, hjb, e⟩
    · omega
    · have hin := winL_in _ (mem_of_getD (L := winL p n) hj)
      have := a1 _ hin.1 hin.2 hjb
      omega
  have le2 : spK V q n k (winL p n) (winL p n).length ≤ smK V q n k p (2^n) := by
    rcases a2 with a2 | ⟨j, hj, hpj, hjb, e⟩
    · omega
    · obtain ⟨t, ht, hl, hsub⟩ := least_under hn j hj hpj
      obtain ⟨i, hi, ei⟩ := getD_of_mem (List.mem_filter.2 ⟨mem_inOrder.2 ht, hl⟩)
      have ei' : (winL p n).getD i 0 = t := ei
      cases hb : t.testBit k with
      | true =>
        have h1 := b1 i hi (by rw [ei']; exact hb)
        rw [ei'] at h1
        have := wtK_sub h.ok hsub
        omega
      | false =>
        have h1 := wtK_more h.ok hsub hk hjb hb
        have hpt : p t = true := by have := hl; simp [leastP] at this; exact this.1
        have h2 := h.wins t ht hpt
        omega
  omega
theorem spare_bd {p : Nat → Bool} {q : Int} {n : Nat} {V : List Int} (h : Inv p q n V) {k : Nat} (hk : k < n) (m : Nat) (hm : m ≤ 2^n) : 0 ≤ smK V q n k p m ∧ smK V q n k p m ≤ 1000 := by
  obtain ⟨a0, _, a2⟩ := smK_spec V q n k p m
  have := h.ok k hk
  rcases a2 with a2 | ⟨j, hj, hpj, _, e⟩
  · omega
  · have := h.wins j (by omega) hpj; omega
theorem spareP_bd {p : Nat → Bool} {q : Int} {n : Nat} {V : List Int} (h : Inv p q n V) {k : Nat} (hk : k < n) (m : Nat) (hm : m ≤ (winL p n).length) : 0 ≤ spK V q n k (winL p n) m ∧ spK V q n k (winL p n) m ≤ 1000 := by
  obtain ⟨a0, _, a2⟩ := spK_spec V q n k (winL p n) m
  have := h.ok k hk
  rcases a2 with a2 | ⟨j, hj, _, e⟩
  · omega
  · have hin := winL_in _ (mem_of_getD (L := winL p n) (j := j) (by omega))
    have := h.wins _ hin.1 hin.2; omega

/-- The weights, the first k of them made small. -/
def lowW (p : Nat → Bool) (q : Int) (ws : List Int) (n : Nat) : Nat → List Int
  | 0 => (List.range n).map fun j => ws.getD j 0
  | k+1 => (lowW p q ws n k).set k ((lowW p q ws n k).getD k 0 - spK (lowW p q ws n k) q n k (winL p n) (winL p n).length)
theorem range_getD {ws : List Int} {n j : Nat} (h : j < n) : ((List.range n).map fun j => ws.getD j 0).getD j 0 = ws.getD j 0 := by
  rw [List.getD_eq_getElem?_getD (l := List.map _ _), List.getElem?_map, List.getElem?_range h]; rfl
theorem wtK_range (ws : List Int) (n s : Nat) : ∀ k, k ≤ n → wtK ((List.range n).map fun j => ws.getD j 0) s k = wtK ws s k
  | 0, _ => rfl
  | k+1, h => by simp only [wtK]; rw [wtK_range ws n s k (by omega), range_getD (by omega)]
theorem lowW_inv {q : Int} {ws : List Int} {n : Nat} (hg : Vo.Good q ws n) : ∀ k, k ≤ n → Inv (winB q ws n) q n (lowW (winB q ws n) q ws n k)
  | 0, _ => ⟨by simp [lowW], fun j hj => by simp only [lowW]; rw [range_getD hj]; exact hg.ok j hj, fun s hs hp => by simp only [lowW]; rw [wtK_range ws n s n (Nat.le_refl _)]; unfold winB at hp; exact of_decide_eq_true hp⟩
  | k+1, hk => by
    have h := lowW_inv hg k (by omega)
    have hb := spareP_bd h (k := k) (by omega) _ (Nat.le_refl _)
    have hs := spare_same hg.hi h (k := k) (by omega)
    obtain ⟨s0, _, _⟩ := spK_spec (lowW (winB q ws n) q ws n k) q n k (winL (winB q ws n) n) (winL (winB q ws n) n).length
    obtain ⟨_, m1, _⟩ := smK_spec (lowW (winB q ws n) q ws n k) q n k (winB q ws n) (2^n)
    rw [hs] at m1
    have hkl : k < (lowW (winB q ws n) q ws n k).length := by rw [h.len]; omega
    refine ⟨by simp only [lowW]; rw [List.length_set, h.len], fun j hj => ?_, fun s hs hp => ?_⟩
    · simp only [lowW]
      rw [getD_set hkl]
      have := h.ok j hj
      by_cases e : j = k
      · subst e; rw [if_pos rfl]; omega
      · rw [if_neg e]; exact this
    · simp only [lowW]
      rw [wtK_set hkl]
      have h1 := h.wins s hs hp
      by_cases hc : s.testBit k = true ∧ k < n
      · rw [if_pos hc]
        have := m1 s hs hp hc.1
        omega
      · rw [if_neg hc]; omega
end Go.Proofs.Ytkeiojfnjgjliaa
