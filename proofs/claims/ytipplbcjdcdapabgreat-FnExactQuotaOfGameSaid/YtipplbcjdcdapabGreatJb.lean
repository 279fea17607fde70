/- Contracts of WinsGame: the program's and the model's. -/
import Derived.Test.YtipplbcjdcdapabGreatJ2
import Derived.Outline
namespace Go.Proofs.YtipplbcjdcdapabGreat
open Go.RowKit Vo

def winsOk (m : Int) (L : List (List Int)) (xs : List Int) (k : Nat) : Bool := goodG m L && riseB m.toNat xs k
def winsG (m : Int) (L : List (List Int)) (xs : List Int) (k : Nat) : Bool := winsOk m L xs k && winS (setsN L) (ofK xs k)
theorem winsOk_good {q : Nat} {L : List (List Int)} {xs : List Int} {k : Nat} (h : goodG (q : Int) L = true) : winsOk (q : Int) L xs k = riseB q xs k := by unfold winsOk; rw [h, Int.toNat_natCast]; rfl
theorem winsOk_bad {m : Int} {L : List (List Int)} {xs : List Int} {k : Nat} (h : goodG m L = false) : winsOk m L xs k = false := by unfold winsOk; rw [h]; rfl
theorem winsG_no {m : Int} {L : List (List Int)} {xs : List Int} {k : Nat} (h : winsOk m L xs k = false) : winsG m L xs k = false := by unfold winsG; rw [h]; rfl
theorem winsG_yes {m : Int} {L : List (List Int)} {xs : List Int} {k : Nat} (h : winsOk m L xs k = true) : winsG m L xs k = winS (setsN L) (ofK xs k) := by unfold winsG; rw [h]; rfl

end Go.Proofs.YtipplbcjdcdapabGreat
