/- Texts of B1, E7. -/
import Derived.Test.YtnldodnpakpeeaaGreatPkQ00
import Derived.Test.YtnldodnpakpeeaaGreatPkQ16
namespace Go.Proofs.YtnldodnpakpeeaaGreat
open Go.RowKit

/-- The box of one value. -/
def Box1 (t : TypeId) (w : World) (g : Nat) (v : Value) : Prop := w.heap[g]? = some (.cells #[v] t (0, 0))
namespace Box1
variable {t : TypeId} {w w' : World} {g : Nat} {v : Value}
theorem lt (h : Box1 t w g v) : g < w.heap.size := (Array.getElem?_eq_some_iff.1 h).1
theorem cell (h : Box1 t w g v) : w.cell? ⟨g, 0, none⟩ = some v := by unfold Box1 at h; simp [World.cell?, h]
theorem now (h : Box1 t w g v) (hb : Below w.heap.size w w') : Box1 t w' g v := (hb.block g h.lt).trans h
theorem drew (h : Box1 t w g v) : Box1 t w.drew g v := h
theorem alloc (h : Box1 t w g v) (o : Obj) : Box1 t (w.alloc o) g v := h.now ((Below.refl _ _).alloc (Nat.le_refl _) _)
theorem new (t : TypeId) (w : World) (v : Value) : Box1 t (w.alloc (.cells #[v] t)) w.heap.size v := heap_alloc_new w _
end Box1
end Go.Proofs.YtnldodnpakpeeaaGreat

namespace Go.Proofs.YtnldodnpakpeeaaGreat
open Go.RowKit Vo
attribute [local go_sem] Oper.semAt_some

/-- Sets put in order, in a slice of the call's own. -/
def Ordered (S : List Set9 → Prop) (w w' : World) (e : Ending) : Prop :=
  ∃ (A : Option Addr) (cap : Nat) (ss : List Set9) (S' : List Nat), e = .returned (.slice A S'.length cap) ∧ S ss ∧ S'.Perm (ss.map (·.1)) ∧ ((ss.map (·.1)).Nodup → Sorted (S'.map fun t => mem t 9)) ∧ w'.ownsRow w.heap.size 69 1 (.slice A S'.length cap) S'.length (setsV S') ∧ Below w.heap.size w w'

theorem enc_map (ss : List Set9) : ss.map (fun x => Value.int .u64 (x.1 : Int)) = setsV (ss.map (·.1)) := by
  unfold setsV; rw [List.map_map]; rfl
end Go.Proofs.YtnldodnpakpeeaaGreat
