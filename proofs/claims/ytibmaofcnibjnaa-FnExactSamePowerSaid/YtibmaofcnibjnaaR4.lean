/- Contract of the program's DummiesOf. -/
import Derived.Test.YtibmaofcnibjnaaR3
namespace Go.Proofs.Ytibmaofcnibjnaa
open Go.RowKit Vo

/-- What is left of a set when these sets' members leave. -/
def strip (d : Nat) (L : List Nat) : Nat := L.foldl (fun d s => d &&& (18446744073709551615 - s)) d
theorem strip_succ (d : Nat) (L : List Nat) (j : Nat) (h : j < L.length) : strip d (L.take (j+1)) = strip d (L.take j) &&& (18446744073709551615 - L.getD j 0) := by
  unfold strip
  rw [List.take_add_one, List.foldl_append, List.getElem?_eq_getElem h, List.getD_eq_getElem?_getD, List.getElem?_eq_getElem h]
  rfl
theorem strip_le (d : Nat) (L : List Nat) : strip d L ≤ d := by
  induction L generalizing d with
  | nil => exact Nat.le_refl _
  | cons a L ih => exact Nat.le_trans (ih _) Nat.and_le_left
def dummyL (q : Int) (ws : List Int) (n : Nat) : List Int := if goodB q ws n then mem (strip (2^n - 1) ((inOrder n).filter (leastP (winB q ws n) n))) 9 else []
theorem dummyL_yes {q ws n} (h : goodB q ws n = true) : dummyL q ws n = mem (strip (2^n - 1) ((inOrder n).filter (leastP (winB q ws n) n))) 9 := if_pos h
theorem dummyL_no {q ws n} (h : goodB q ws n = false) : dummyL q ws n = [] := if_neg (by rw [h]; simp)

end Go.Proofs.Ytibmaofcnibjnaa
