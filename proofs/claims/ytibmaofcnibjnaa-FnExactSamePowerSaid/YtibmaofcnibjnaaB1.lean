/- The box of one value. -/
import Derived.Test.YtibmaofcnibjnaaBase
namespace Go.Proofs.Ytibmaofcnibjnaa
open Go.RowKit

/-- The box of one value. -/
def Box1 (t : TypeId) (w : World) (g : Nat) (v : Value) : Prop := w.heap[g]? = some (.cells #[v] t (0, 0))
namespace Box1
variable {t : TypeId} {w w' : World} {g : Nat} {v : Value}
theorem lt (h : Box1 t w g v) : g < w.heap.size := (Array.getElem?_eq_some_iff.1 h).1
theorem cell (h : Box1 t w g v) : w.cell? ⟨g, 0, none⟩ = some v := by unfold Box1 at h; simp [World.cell?, h]
theorem now (h : Box1 t w g v) (hb : Below w.heap.size w w') : Box1 t w' g v := (hb.block g h.lt).trans h
theorem drew (h : Box1 t w g v) : Box1 t w.drew g v := h
theorem alloc (h : Box1 t w g v) (o : Obj) : Box1 t (w.alloc o) g v := h.now ((Below.refl _ _).alloc (Nat.le_refl _) _)
theorem new (t : TypeId) (w : World) (v : Value) : Box1 t (w.alloc (.cells #[v] t)) w.heap.size v := heap_alloc_new w _
end Box1
end Go.Proofs.Ytibmaofcnibjnaa
