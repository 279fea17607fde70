/- Contracts of comparing keys of sets. -/
import Derived.BigQuiet
import Derived.Test.YtldpdjnedoflcaaE1
import Derived.Test.YtldpdjnedoflcaaE2
namespace Go.Proofs.Ytldpdjnedoflcaa
open Go.RowKit Vo

/-- The key of a set as a value. -/
def keyV (s : Nat) : Value := .agg #[.int .i64 (keyAt s 0), .int .i64 (keyAt s 1), .int .i64 (keyAt s 2), .int .i64 (keyAt s 3), .int .i64 (keyAt s 4), .int .i64 (keyAt s 5), .int .i64 (keyAt s 6), .int .i64 (keyAt s 7), .int .i64 (keyAt s 8)]
/-- It laid new blocks and drew, no more. -/
def Grew (w w' : World) : Prop := Below w.heap.size w w' ∧ w.drawn ≤ w'.drawn
theorem Grew.trans {w w1 w2 : World} (h : Grew w w1) (k : Grew w1 w2) : Grew w w2 := ⟨bfrom h.1 k.1, Nat.le_trans h.2 k.2⟩
theorem Grew.refl (w : World) : Grew w w := ⟨Below.refl _ _, Nat.le_refl _⟩
theorem Grew.alloc (w : World) (o : Obj) : Grew w (w.alloc o) := ⟨below1 w o, Nat.le_refl _⟩
theorem setCell_drawn (w : World) (p : Addr) (u : Value) : (w.setCell p u).drawn = w.drawn := rfl
theorem Grew.setCell {w w' : World} (h : Grew w w') {p : Addr} (hp : w.heap.size ≤ p.block) (u : Value) : Grew w (w'.setCell p u) := ⟨h.1.setCell hp u, by rw [setCell_drawn]; exact h.2⟩
theorem Grew.drewN (w : World) (k : Nat) : Grew w (w.drewN k) := ⟨below_drewN (Below.refl _ _) _, Nat.le_add_right _ _⟩

theorem Own.nine {w : World} {g : Nat} {t : TypeId} {f : Nat → Value} (h : Own w g t 9 f) (v0 v1 v2 v3 v4 v5 v6 v7 v8 : Value) :
    Own (((((((((w.setCell ⟨g, 0, none⟩ v0).setCell ⟨g, 1, none⟩ v1).setCell ⟨g, 2, none⟩ v2).setCell ⟨g, 3, none⟩ v3).setCell ⟨g, 4, none⟩ v4).setCell ⟨g, 5, none⟩ v5).setCell ⟨g, 6, none⟩ v6).setCell ⟨g, 7, none⟩ v7).setCell ⟨g, 8, none⟩ v8) g t 9
      (fun i => match i with | 0 => v0 | 1 => v1 | 2 => v2 | 3 => v3 | 4 => v4 | 5 => v5 | 6 => v6 | 7 => v7 | _ => v8) :=
  (((((((((h.set 0 v0).set 1 v1).set 2 v2).set 3 v3).set 4 v4).set 5 v5).set 6 v6).set 7 v7).set 8 v8).congr fun i hi => by
    rcases i with _ | _ | _ | _ | _ | _ | _ | _ | _ | i
    all_goals first | rfl | omega

end Go.Proofs.Ytldpdjnedoflcaa

namespace Go.Proofs.Ytldpdjnedoflcaa
open Go.RowKit Vo

def cmpZ (x y : Int) : Int := if x < y then -1 else if y < x then 1 else 0
theorem cmpZ_lt {x y : Int} (h : x < y) : cmpZ x y = -1 := if_pos h
theorem cmpZ_gt {x y : Int} (h : y < x) : cmpZ x y = 1 := by unfold cmpZ; rw [if_neg (by omega), if_pos h]
theorem cmpZ_eq (x : Int) : cmpZ x x = 0 := by unfold cmpZ; rw [if_neg (by omega), if_neg (by omega)]

end Go.Proofs.Ytldpdjnedoflcaa
