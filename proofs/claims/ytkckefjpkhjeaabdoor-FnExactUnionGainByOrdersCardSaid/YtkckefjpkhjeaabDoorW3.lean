/- Contracts of TotalWeight, WeightOfSet, IsWinning, IsBlocking. -/
import Derived.Test.YtkckefjpkhjeaabDoorW2
namespace Go.Proofs.YtkckefjpkhjeaabDoor
open Go.RowKit Vo

def totB (q : Int) (ws : List Int) (n : Nat) : Int := if goodB q ws n then sumK ws n else 0
theorem totB_yes {q ws n} (h : goodB q ws n = true) : totB q ws n = sumK ws n := if_pos h
theorem totB_no {q ws n} (h : goodB q ws n = false) : totB q ws n = 0 := if_neg (by rw [h]; simp)
def wtB (q : Int) (ws : List Int) (n : Nat) (xs : List Int) (m : Nat) : Int := if okB q ws n xs m then wtK ws (ofK xs m) n else 0
theorem wtB_yes {q ws n xs m} (h : okB q ws n xs m = true) : wtB q ws n xs m = wtK ws (ofK xs m) n := if_pos h
theorem wtB_no {q ws n xs m} (h : okB q ws n xs m = false) : wtB q ws n xs m = 0 := if_neg (by rw [h]; simp)
theorem okB_parts {q : Int} {ws : List Int} {n : Nat} {xs : List Int} {m : Nat} (h : okB q ws n xs m = true) : Vo.Good q ws n ∧ RiseK n xs m := by
  unfold okB goodB riseB at h
  simpa using h

end Go.Proofs.YtkckefjpkhjeaabDoor
