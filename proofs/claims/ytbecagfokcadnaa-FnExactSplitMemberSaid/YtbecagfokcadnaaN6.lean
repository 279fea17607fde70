/- Contracts of pivots: swings by sizes, how many orders, the program's. -/
import Derived.Test.YtbecagfokcadnaaN5
import Derived.Outline
import Derived.Deep.RegionHeld3
namespace Go.Proofs.Ytbecagfokcadnaa
open Go.RowKit Vo

/-- A slice in a block of the call's own that holds these integers. -/
def RowOf (L : List Int) (w w' : World) (e : Ending) : Prop :=
  ∃ g cap, e = .returned (.slice (some ⟨g, 0, none⟩) L.length cap) ∧ w.heap.size ≤ g ∧ Ints w' g L.length L ∧ Below w.heap.size w w'

theorem Own.now' {w w' : World} {g : Nat} {t : TypeId} {n : Nat} {f : Nat → Value} (h : Own w g t n f) (hb : Below w.heap.size w w') : Own w' g t n f := h.below hb h.lt

theorem sizN_succ (p : Nat → Bool) (k j z : Nat) : sizN p k (j+1) z = sizN p k j z + if (swP p k j && decide (sz j = z)) then 1 else 0 := rfl

theorem mul_small {a b A B : Nat} (ha : a ≤ A) (hb : b ≤ B) : a * b ≤ A * B := Nat.mul_le_mul ha hb

/-- Of how many orders each member is the pivot. -/
def pivotN (q : Int) (ws : List Int) (n : Nat) (k : Nat) : Nat := pivN (winB q ws n) n k (2^n)
def pivotsL (q : Int) (ws : List Int) (n : Nat) : List Int := okL (goodB q ws n) (perL (pivotN q ws n) n)
theorem pivotsL_len (q : Int) (ws : List Int) (n : Nat) : (pivotsL q ws n).length ≤ 1048576 := by
  by_cases hg : Vo.Good q ws n
  · exact okL_len (by rw [perL_len]; have := hg.hi; omega)
  · unfold pivotsL; rw [okL_no (goodB_false hg)]; simp

end Go.Proofs.Ytbecagfokcadnaa
