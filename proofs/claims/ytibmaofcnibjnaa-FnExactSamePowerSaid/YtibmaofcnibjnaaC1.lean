/- Contracts of CountWinningOf, the program's and the model's. -/
import Derived.Test.YtibmaofcnibjnaaS3
import Derived.Test.YtibmaofcnibjnaaO2
namespace Go.Proofs.Ytibmaofcnibjnaa
open Go.RowKit Vo

/-- A winning set of a size. -/
def sizeP (q : Int) (ws : List Int) (n : Nat) (z : Int) (s : Nat) : Bool := (((mem s 9).length : Nat) : Int) == z && winB q ws n s
def ofOk (q : Int) (ws : List Int) (n : Nat) (z : Int) : Bool := goodB q ws n && inB z 0 n
def cntOf (q : Int) (ws : List Int) (n : Nat) (z : Int) : Int := if ofOk q ws n z then (cnt (sizeP q ws n z) (2^n) : Nat) else 0
theorem cntOf_yes {q ws n z} (h : ofOk q ws n z = true) : cntOf q ws n z = (cnt (sizeP q ws n z) (2^n) : Nat) := if_pos h
theorem cntOf_no {q ws n z} (h : ofOk q ws n z = false) : cntOf q ws n z = 0 := if_neg (by rw [h]; simp)

/-- The box of a number. -/
def BoxI (w : World) (g : Nat) (v : Value) : Prop := w.heap[g]? = some (.cells #[v] 3 (0, 0))
namespace BoxI
variable {w w' : World} {g : Nat} {v : Value}
theorem lt (h : BoxI w g v) : g < w.heap.size := (Array.getElem?_eq_some_iff.1 h).1
theorem cell (h : BoxI w g v) : w.cell? ⟨g, 0, none⟩ = some v := by unfold BoxI at h; simp [World.cell?, h]
theorem now (h : BoxI w g v) (hb : Below w.heap.size w w') : BoxI w' g v := (hb.block g h.lt).trans h
theorem drew (h : BoxI w g v) : BoxI w.drew g v := h
theorem new (w : World) (v : Value) : BoxI (w.alloc (.cells #[v] 3)) w.heap.size v := heap_alloc_new w _
end BoxI

end Go.Proofs.Ytibmaofcnibjnaa
