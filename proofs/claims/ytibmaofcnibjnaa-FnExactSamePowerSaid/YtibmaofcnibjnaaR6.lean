/- Contracts of the program's lists of sets: listsOf; LeastWinning, GreatestLosing, LeastBlocking. -/
import Derived.Test.YtibmaofcnibjnaaR5
import Derived.Test.YtibmaofcnibjnaaR4
import Derived.Outline
namespace Go.Proofs.Ytibmaofcnibjnaa
open Go.RowKit Vo

/-- The lists of these sets. -/
def setsL (S : List Nat) : List (List Int) := S.map fun s => mem s 9
theorem setsL_len (S : List Nat) : (setsL S).length = S.length := by simp [setsL]
theorem setsL_take (S : List Nat) (j : Nat) (h : j < S.length) : setsL (S.take (j+1)) = setsL (S.take j) ++ [mem (S.getD j 0) 9] := by
  unfold setsL
  rw [List.take_add_one, List.map_append, List.getElem?_eq_getElem h, List.getD_eq_getElem?_getD, List.getElem?_eq_getElem h]
  rfl

end Go.Proofs.Ytibmaofcnibjnaa
