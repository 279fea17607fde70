/- Contracts of the model's gmGood and IsGame. -/
import Derived.Outline
import Derived.Test.YtldpdjnedoflcabI3
import Derived.Test.YtldpdjnedoflcabT2
import Derived.Test.YtldpdjnedoflcabS2
namespace Go.Proofs.Ytldpdjnedoflcab
open Go.RowKit Vo

/-- What the model needs of a game's lists. -/
def ListsR (w : World) (A : Option Addr) (n : Nat) (L : List (List Int)) : Prop :=
  L.length = n ∧ ∀ i, i < n → ∃ g v, A = some ⟨g, 0, none⟩ ∧ g < w.heap.size ∧ w.cell? ⟨g, i, none⟩ = some v ∧ (L.getD i []).length ≤ 1048576 ∧ RI (L.getD i []) 0 w.heap.size v w
theorem ListsR.now {w w' : World} {A : Option Addr} {n : Nat} {L : List (List Int)} (h : ListsR w A n L) (hb : Below w.heap.size w w') : ListsR w' A n L := by
  refine ⟨h.1, fun i hi => ?_⟩
  obtain ⟨g, v, hA, hg, hc, hm, hk⟩ := h.2 i hi
  exact ⟨g, v, hA, Nat.lt_of_lt_of_le hg hb.size, (hb.cell (p := ⟨g, i, none⟩) hg).trans hc, hm, hk.up hb⟩
theorem ListsR.lists {w : World} {A : Option Addr} {n : Nat} {L : List (List Int)} (h : ListsR w A n L) : Lists w A n L := by
  refine ⟨h.1, fun i hi => ?_⟩
  obtain ⟨g, v, hA, hg, hc, hm, hk⟩ := h.2 i hi
  obtain ⟨A', cap, rfl, hk'⟩ := RI.known hk
  exact ⟨g, A', cap, hA, hg, hc, hm, hk'⟩
theorem RSS0.listsR {L : List (List Int)} {lo hi : Nat} {A : Option Addr} {n cap : Nat} {w : World} (hn : L.length = n) (ht : tot L + L.length ≤ 1048576) (hh : hi ≤ w.heap.size) (h : RSS0 L lo hi (.slice A n cap) w) : ListsR w A n L := by
  refine ⟨hn, fun i hi => ?_⟩
  obtain ⟨A1, c1, hv, h⟩ := h
  obtain ⟨rfl, _, _⟩ : A = A1 ∧ n = L.length ∧ cap = c1 := by simpa using hv
  rcases h with h | ⟨g, f, hA, _, _, ho, h⟩
  · omega
  · exact ⟨g, f i, hA, ho.lt, by rw [ho.cell (by omega)], by have := tot_row (L := L) rfl (show i < L.length by omega); omega, (h i (by omega)).wide (Or.inr ⟨Nat.zero_le _, hh⟩)⟩

/-- What the model asks of some sets. -/
def setsB (m : Int) (L : List (List Int)) (most : Int) : Bool := inB m 1 9 && (inB (L.length : Int) 1 most && rowsB m.toNat L)
theorem setsB_small {m : Int} {L : List (List Int)} {most : Int} (h : ¬ (1 ≤ m ∧ m ≤ 9)) : setsB m L most = false := by unfold setsB; rw [inB_no h]; rfl
theorem setsB_long {m : Int} {L : List (List Int)} {most : Int} (h : ¬ (1 ≤ (L.length : Int) ∧ (L.length : Int) ≤ most)) : setsB m L most = false := by unfold setsB; rw [inB_no h]; simp
theorem setsB_rows {q : Nat} {L : List (List Int)} {most : Int} (h1 : 1 ≤ (q : Int)) (h9 : (q : Int) ≤ 9) (h2 : 1 ≤ (L.length : Int)) (h3 : (L.length : Int) ≤ most) : setsB (q : Int) L most = rowsB q L := by
  unfold setsB; rw [inB_yes h1 h9, inB_yes h2 h3]; simp

theorem goodG_split {m : Int} {L : List (List Int)} : goodG m L = true ↔ setsB m L 126 = true ∧ ordK L (setsN L) L.length := by
  constructor
  · intro h
    unfold goodG at h
    simp only [Bool.and_eq_true, decide_eq_true_eq] at h
    obtain ⟨⟨h1, h9, hL⟩, hr, hs⟩ := h
    have hn : m.toNat ≤ 9 := by omega
    refine ⟨?_, (ordK_sets hn hr).2 hs⟩
    have h126 := game_126 hn hr hs
    have h0 : 1 ≤ L.length := by cases L with
      | nil => exact absurd rfl hL
      | cons a l => simp
    unfold setsB
    rw [inB_yes h1 h9, inB_yes (by omega) (by omega), hr]; rfl
  · rintro ⟨h1, h2⟩
    unfold setsB at h1
    simp only [Bool.and_eq_true] at h1
    obtain ⟨ha, hb, hr⟩ := h1
    have hm : 1 ≤ m ∧ m ≤ 9 := by
      by_cases h : 1 ≤ m ∧ m ≤ 9
      · exact h
      · rw [inB_no h] at ha; cases ha
    have hl : 1 ≤ (L.length : Int) := by
      by_cases h : 1 ≤ (L.length : Int) ∧ (L.length : Int) ≤ 126
      · exact h.1
      · rw [inB_no h] at hb; cases hb
    have hs := (ordK_sets (by omega : m.toNat ≤ 9) hr).1 h2
    unfold goodG
    rw [hr, decide_eq_true hs, decide_eq_true (show 1 ≤ m ∧ m ≤ 9 ∧ L ≠ [] from ⟨hm.1, hm.2, fun e => by rw [e] at hl; simp at hl⟩)]; rfl
theorem goodG_no {m : Int} {L : List (List Int)} (h : ¬ (setsB m L 126 = true ∧ ordK L (setsN L) L.length)) : goodG m L = false := by
  cases hg : goodG m L
  · rfl
  · exact absurd (goodG_split.1 hg) h
theorem setsB_parts {m : Int} {L : List (List Int)} {most : Int} (h : setsB m L most = true) : ∃ q : Nat, m = q ∧ 1 ≤ q ∧ q ≤ 9 ∧ 1 ≤ L.length ∧ (L.length : Int) ≤ most ∧ rowsB q L = true := by
  unfold setsB at h
  simp only [Bool.and_eq_true] at h
  obtain ⟨ha, hb, hr⟩ := h
  have hm : 1 ≤ m ∧ m ≤ 9 := by
    by_cases h : 1 ≤ m ∧ m ≤ 9
    · exact h
    · rw [inB_no h] at ha; cases ha
  have hl : 1 ≤ (L.length : Int) ∧ (L.length : Int) ≤ most := by
    by_cases h : 1 ≤ (L.length : Int) ∧ (L.length : Int) ≤ most
    · exact h
    · rw [inB_no h] at hb; cases hb
  exact ⟨m.toNat, by omega, by omega, by omega, by omega, hl.2, hr⟩
theorem setsN_at {L : List (List Int)} {i : Nat} (h : i < L.length) : (setsN L).getD i 0 = ofK (L.getD i []) (L.getD i []).length := by
  unfold setsN
  rw [List.getD_eq_getElem?_getD, List.getElem?_map, List.getElem?_eq_getElem h, List.getD_eq_getElem?_getD, List.getElem?_eq_getElem h]; rfl
end Go.Proofs.Ytldpdjnedoflcab

namespace Go.Proofs.Ytldpdjnedoflcab
open Go.RowKit Vo

theorem i64_and_nat (a b : Nat) (ha : a < 512) (hb : b < 512) : bits BinOp.and IntKind.i64 (a : Int) (b : Int) = ((a &&& b : Nat) : Int) := by
  have hx : a &&& b < 512 := Nat.lt_of_le_of_lt Nat.and_le_left ha
  show IntKind.i64.wrap ((BitVec.ofInt 64 (a : Int) &&& BitVec.ofInt 64 (b : Int)).toNat : Int) = _
  rw [BitVec.toNat_and, ofInt_u64 a (by omega), ofInt_u64 b (by omega)]
  exact IntWalk.i64_in _ (by omega)
/-- One more list is in order. -/
theorem ordK_succ {L : List (List Int)} {S : List Nat} {k : Nat} (h : ordK L S k) (h1 : 1 ≤ k → before (L.getD (k-1) []) (L.getD k []) = true) (h2 : ∀ j, j < k → S.getD k 0 &&& S.getD j 0 ≠ S.getD k 0 ∧ S.getD k 0 &&& S.getD j 0 ≠ S.getD j 0) : ordK L S (k+1) := fun i hi => by
  by_cases e : i = k
  · subst e; exact ⟨h1, h2⟩
  · exact h i (by omega)

end Go.Proofs.Ytldpdjnedoflcab
