/- Contracts of CompareShares, the program's and the model's; what the laws do with shares. -/
import Derived.Laws.StructEq
import Derived.Outline
import Derived.Test.YtgilbenbaefgfabDoorQ0
import Derived.Deep.RegionHeld3
namespace Go.Proofs.YtgilbenbaefgfabDoor
open Go.RowKit Vo

end Go.Proofs.YtgilbenbaefgfabDoor

namespace Go.Proofs.YtgilbenbaefgfabDoor
open Go.RowKit Vo

theorem cmpOk_parts {x y u v : Int} (h : cmpOk x y u v = true) : Sg x y ∧ Sg u v := by
  unfold cmpOk sgB at h
  simpa using h

end Go.Proofs.YtgilbenbaefgfabDoor
