/- Contract of the model's DualCommittee. -/
import Derived.Test.YtibmaofcnibjnaaD1
import Derived.Test.YtibmaofcnibjnaaS2
import Derived.Deep.AppendLies
import Derived.Deep.RegionHeld3
namespace Go.Proofs.Ytibmaofcnibjnaa
open Go.RowKit Vo

/-- A slice in a block of the call's own that holds n integers. -/
def OwnAt (n : Nat) (ws : List Int) (w w' : World) (e : Ending) : Prop :=
  ∃ g cap, e = .returned (.slice (some ⟨g, 0, none⟩) n cap) ∧ w.heap.size ≤ g ∧ Ints w' g n ws ∧ Below w.heap.size w w'

end Go.Proofs.Ytibmaofcnibjnaa
