/- Answers that are slices of shares in the call's own memory: how they are marked, held and compared. -/
import Derived.Test.YtgilbenbaefgfabDoorK1
import Derived.Deep.RegionHeld3
import Derived.Outline
namespace Go.Proofs.YtgilbenbaefgfabDoor
open Go.RowKit Vo

/-- The shares' numbers, one behind the other. -/
def shF (L : List (Int × Int)) (i : Nat) : Int := if i % 2 = 0 then (L.getD (i / 2) (0, 0)).1 else (L.getD (i / 2) (0, 0)).2
theorem shF_num (L : List (Int × Int)) (k : Nat) : shF L (k * 2) = (L.getD k (0, 0)).1 := by simp [shF]
theorem shF_den (L : List (Int × Int)) (k : Nat) : shF L (k * 2 + 1) = (L.getD k (0, 0)).2 := by
  have h1 : (k * 2 + 1) % 2 = 1 := by omega
  have h2 : (k * 2 + 1) / 2 = k := by omega
  simp [shF, h1, h2]

end Go.Proofs.YtgilbenbaefgfabDoor
