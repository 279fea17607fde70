/- Contracts of the model's pivots. -/
import Derived.Outline
import Derived.Test.YtipplbcjdcdapabDoorN5
import Derived.Deep.RegionHeld3
namespace Go.Proofs.YtipplbcjdcdapabDoor
open Go.RowKit Vo

/-- A slice in a block of the call's own that holds these integers. -/
def RowOf (L : List Int) (w w' : World) (e : Ending) : Prop :=
  ∃ g cap, e = .returned (.slice (some ⟨g, 0, none⟩) L.length cap) ∧ w.heap.size ≤ g ∧ Ints w' g L.length L ∧ Below w.heap.size w w'

theorem Own.now' {w w' : World} {g : Nat} {t : TypeId} {n : Nat} {f : Nat → Value} (h : Own w g t n f) (hb : Below w.heap.size w w') : Own w' g t n f := h.below hb h.lt

theorem sizN_succ (p : Nat → Bool) (k j z : Nat) : sizN p k (j+1) z = sizN p k j z + if (swP p k j && decide (sz j = z)) then 1 else 0 := rfl

theorem mul_small {a b A B : Nat} (ha : a ≤ A) (hb : b ≤ B) : a * b ≤ A * B := Nat.mul_le_mul ha hb

/-- Of how many orders each member is the pivot. -/
def pivotN (q : Int) (ws : List Int) (n : Nat) (k : Nat) : Nat := pivN (winB q ws n) n k (2^n)
def pivotsL (q : Int) (ws : List Int) (n : Nat) : List Int := okL (goodB q ws n) (perL (pivotN q ws n) n)
theorem pivotsL_len (q : Int) (ws : List Int) (n : Nat) : (pivotsL q ws n).length ≤ 1048576 := by
  by_cases hg : Vo.Good q ws n
  · exact okL_len (by rw [perL_len]; have := hg.hi; omega)
  · unfold pivotsL; rw [okL_no (goodB_false hg)]; simp

end Go.Proofs.YtipplbcjdcdapabDoor

namespace Go.Proofs.YtipplbcjdcdapabDoor
open Go.RowKit Vo

/-- The orders of these swings. -/
def wayS (n : Nat) : List Nat → Nat
  | [] => 0
  | a :: t => wayP n (sz a) + wayS n t
theorem wayS_append (n : Nat) (L M : List Nat) : wayS n (L ++ M) = wayS n L + wayS n M := by
  induction L with
  | nil => simp [wayS]
  | cons a L ih => simp only [List.cons_append, wayS]; rw [ih]; omega
theorem wayS_swL (p : Nat → Bool) (n k N : Nat) : wayS n (swL p k N) = pivN p n k N := by
  induction N with
  | zero => rfl
  | succ N ih =>
    rw [swL_succ, wayS_append, ih, show pivN p n k (N+1) = pivN p n k N + if swP p k N then wayP n (sz N) else 0 from rfl]
    congr 1
    split <;> simp [wayS]
theorem wayS_take {n : Nat} {L : List Nat} {j : Nat} (h : j < L.length) : wayS n (L.take (j+1)) = wayS n (L.take j) + wayP n (sz (L.getD j 0)) := by
  rw [List.take_add_one, wayS_append, List.getElem?_eq_getElem h, List.getD_eq_getElem?_getD, List.getElem?_eq_getElem h]
  simp [wayS]
theorem wayS_le {n : Nat} (hn : n ≤ 9) (L : List Nat) : wayS n L ≤ 131681894400 * L.length := by
  induction L with
  | nil => simp [wayS]
  | cons a L ih =>
    have := wayP_le (n := n) (z := sz a) hn (mem_len a 9)
    simp only [wayS, List.length_cons, Nat.mul_succ]; omega
theorem swL_get {p : Nat → Bool} {n k N j : Nat} (hn : n ≤ 9) (hk : k < n) (hN : N ≤ 2^n) (h : j < (swL p k N).length) : (swL p k N).getD j 0 < N ∧ sz ((swL p k N).getD j 0) < n := by
  have hm : (swL p k N).getD j 0 ∈ swL p k N := by rw [List.getD_eq_getElem?_getD, List.getElem?_eq_getElem h]; exact List.getElem_mem h
  generalize (swL p k N).getD j 0 = s at *
  have h2 := List.mem_filter.1 hm
  have hs : s < N := by simpa using h2.1
  have hb : s.testBit k = false := by have := h2.2; unfold swP at this; simp at this; exact this.1
  exact ⟨hs, sz_lt hn (show s < 2^n by omega) hk hb⟩

end Go.Proofs.YtipplbcjdcdapabDoor
