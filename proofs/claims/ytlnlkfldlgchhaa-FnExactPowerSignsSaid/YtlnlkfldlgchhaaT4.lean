/- Contract of the model's voLeast. -/
import Derived.Test.YtlnlkfldlgchhaaT2
import Derived.Test.YtlnlkfldlgchhaaO2
import Derived.Test.YtlnlkfldlgchhaaS3
import Derived.Outline
namespace Go.Proofs.Ytlnlkfldlgchhaa
open Go.RowKit Vo

theorem out_add {s k n : Nat} (hs : s < 2^n) (hn : n ≤ 9) (hk : k < n) (hb : s.testBit k = true) : out s k + 2^k = s := by
  have h1 : out s k < 2^n := Nat.lt_of_le_of_lt (out_le s k) hs
  have h2 : (out s k).testBit k = false := by rw [testBit_out (by omega) (by omega)]; simp
  rw [add_pow h1 hk h2]
  apply Nat.eq_of_testBit_eq
  intro i
  rw [Nat.testBit_or, Nat.testBit_two_pow]
  by_cases hi : i < 64
  · rw [testBit_out (by omega) hi]
    by_cases e : k = i
    · subst e; simp [hb]
    · have : i ≠ k := fun h => e h.symm
      simp [e, this]
  · have big : ∀ u : Nat, u < 2^n → u.testBit i = false := fun u hu => Nat.testBit_lt_two_pow (Nat.lt_of_lt_of_le hu (Nat.pow_le_pow_right (by omega) (by omega)))
    rw [big _ h1, big _ hs]
    simp; omega
/-- Of no member's loss among these is the set of the kind. -/
def lossL (p : Nat → Bool) (s : Nat) (l : List Int) : Bool := l.all fun z => !p (out s z.toNat)
theorem noneOut_list (p : Nat → Bool) (s k : Nat) : noneOut p s k = lossL p s (mem s k) := by
  unfold noneOut lossL
  induction k with
  | zero => rfl
  | succ k ih =>
    simp only [allK, mem, List.all_append, ih]
    congr 1
    cases s.testBit k <;> simp
theorem lossL_take (p : Nat → Bool) (s : Nat) (l : List Int) (t : Nat) (z : Nat) (h : l[t]? = some (z : Int)) : lossL p s (l.take (t+1)) = (lossL p s (l.take t) && !p (out s z)) := by
  unfold lossL
  rw [List.take_add_one, h, List.all_append]
  simp
theorem mem_at {s t : Nat} (ht : t < (mem s 9).length) : ∃ z : Nat, (mem s 9)[t]? = some (z : Int) ∧ z < 9 ∧ s.testBit z = true := by
  have h : (mem s 9)[t] ∈ mem s 9 := List.getElem_mem ht
  obtain ⟨z, h1, h2, h3⟩ := mem_iff.1 h
  exact ⟨z, by rw [List.getElem?_eq_getElem ht, h2], h1, h3⟩

/-- The lists of the sets of a kind among the first j. -/
def kindL (P : Nat → Bool) (j : Nat) : List (List Int) := setsL ((List.range j).filter P)
theorem kindL_yes {P : Nat → Bool} {j : Nat} (h : P j = true) : kindL P (j+1) = kindL P j ++ [mem j 9] := by simp [kindL, setsL, List.range_succ, List.filter_append, h]
theorem kindL_no {P : Nat → Bool} {j : Nat} (h : P j = false) : kindL P (j+1) = kindL P j := by simp [kindL, setsL, List.range_succ, List.filter_append, h]
theorem kindL_len (P : Nat → Bool) (j : Nat) : (kindL P j).length ≤ j := by
  rw [kindL, setsL_len]
  exact Nat.le_trans (List.length_filter_le _ _) (by simp)
theorem setsL_small {S : List Nat} : ∀ i, i < (setsL S).length → ((setsL S).getD i []).length ≤ 1048576 := by
  intro i hi
  rw [List.getD_eq_getElem?_getD, List.getElem?_eq_getElem hi]
  simp only [setsL, List.getElem_map, Option.getD_some]
  exact Nat.le_trans (mem_len _ _) (by omega)
theorem kindL_sort (P : Nat → Bool) {n : Nat} (hn : n ≤ 9) : sortL (kindL P (2^n)) = setsL ((inOrder n).filter P) := by
  have e : ∀ S : List Nat, (∀ t ∈ S, t < 2^n) → setsL S = S.map fun t => mem t n := fun S h => List.map_congr_left fun t ht => mem_stop (h t ht) hn
  rw [kindL, e _ (fun t ht => by have := (List.mem_filter.1 ht).1; simpa using this), e _ (fun t ht => mem_inOrder.1 (List.mem_filter.1 ht).1), order_is_sort]

theorem SSb.pairs {base : Nat} {L : List (List Int)} {B : Option Addr} {c cp : Nat} {w : World} (h : SSb base L (.slice B c cp) w) (hc : c = L.length) (hb : ∀ i, i < L.length → (L.getD i []).length ≤ 1048576) :
    ∃ P0, Pairs base P0 c L w ∧ (c = 0 ∨ ∃ g, B = some ⟨g, 0, none⟩ ∧ g < w.heap.size ∧ Own w g 22 c (fun i => (P0.map (·.1)).getD i default)) := by
  obtain ⟨xs, G, ho, h⟩ := h
  subst hc
  have hl : xs.length = L.length := by have := ho.1; simpa using this
  have e1 : (xs.zip L).map (·.1) = xs := List.map_fst_zip (by omega)
  have e2 : (xs.zip L).map (·.2) = L := List.map_snd_zip (by omega)
  refine ⟨xs.zip L, ⟨by simp [hl], e2, fun p hp => ?_⟩, ?_⟩
  · obtain ⟨i, hi, rfl⟩ := List.getElem_of_mem hp
    have hiL : i < L.length := by simp at hi; omega
    have hix : i < xs.length := by omega
    obtain ⟨x, hx, hr, hg⟩ := h i hiL
    have hb2 := hb i hiL
    rw [List.getD_eq_getElem?_getD, List.getElem?_eq_getElem hiL] at hr hg hb2
    rw [List.getElem?_eq_getElem hix] at hx
    injection hx with hx
    simp only [List.getElem_zip, Option.getD_some] at hr hg hb2 ⊢
    rw [hx]
    refine ⟨hr.wide ?_, hb2⟩
    rcases hg with hg | hg
    · exact Or.inl hg
    · exact Or.inr ⟨hg.1, hg.2.1⟩
  · by_cases hn : L.length = 0
    · exact Or.inl hn
    · obtain ⟨g, cap', hv, hg, _, _⟩ := owns_head ho (by omega)
      injection hv with hA _ hcc
      subst hA
      refine Or.inr ⟨g, rfl, owns_lt ho rfl, ?_⟩
      rw [e1]
      exact Own.of_own ho fun i hi => by
        rw [List.getD_eq_getElem?_getD, List.getElem?_eq_getElem (by omega)]; rfl
end Go.Proofs.Ytlnlkfldlgchhaa

namespace Go.Proofs.Ytlnlkfldlgchhaa
open Go.RowKit Vo

theorem shl_pow2 (k : Nat) (hk : k < 10) : wrap64 ((2 : Int) ^ k) = ((2 ^ k : Nat) : Int) := by
  have h1 : (2:Nat)^k ≤ 2^10 := Nat.pow_le_pow_right (by omega) (by omega)
  rw [show ((2 : Int) ^ k) = ((2 ^ k : Nat) : Int) from by simp]
  generalize 2 ^ k = x at *
  exact IntWalk.wrap64_in _ (by omega)
theorem bfromB {B : Nat} {w w1 w2 : World} (h : Below B w w1) (k : Below w1.heap.size w1 w2) (hB : B ≤ w1.heap.size) : Below B w w2 := h.trans (k.mono hB)

end Go.Proofs.Ytlnlkfldlgchhaa
