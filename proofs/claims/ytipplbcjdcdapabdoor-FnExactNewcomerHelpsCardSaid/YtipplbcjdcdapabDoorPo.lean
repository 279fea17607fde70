/- Contracts of the model's unGive and GiveWeight. -/
import Derived.Test.YtipplbcjdcdapabDoorPn
import Derived.Test.YtipplbcjdcdapabDoorD2
import Derived.Outline
namespace Go.Proofs.YtipplbcjdcdapabDoor
open Go.RowKit Vo

theorem box_put2 {t : TypeId} {w : World} {g : Nat} {u v : Value} (h : BoxT t w g u v) (a b : Value) : BoxT t ((w.setCell ⟨g, 0, none⟩ a).setCell ⟨g, 1, none⟩ b) g a b := by
  unfold BoxT at *
  simp [World.setCell, Array.getElem?_modify, h]
end Go.Proofs.YtipplbcjdcdapabDoor
