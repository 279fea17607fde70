/- Contract of the program's DropMember. -/
import Derived.Test.YtipplbcjdcdapabDoorM2
import Derived.Test.YtipplbcjdcdapabDoorN13
import Derived.Outline
namespace Go.Proofs.YtipplbcjdcdapabDoor
open Go.RowKit Vo

theorem box_fr {w : World} {g : Nat} {u v : Value} (h : BoxT 28 w g u v) : w.frozen? ⟨g, 1, none⟩ = false := by
  unfold BoxT at h; simp [World.frozen?, h]
theorem BoxT.set1 {t : TypeId} {w : World} {g : Nat} {u v : Value} (h : BoxT t w g u v) (b : Value) : BoxT t (w.setCell ⟨g, 1, none⟩ b) g u b := by
  unfold BoxT at *
  simp [World.setCell, Array.getElem?_modify, h]

theorem bfromB {B : Nat} {w w1 w2 : World} (h : Below B w w1) (k : Below w1.heap.size w1 w2) (hB : B ≤ w1.heap.size) : Below B w w2 := h.trans (k.mono hB)
/-- The first j weights but that of k. -/
def dropL (ws : List Int) (k j : Nat) : List Int := ((List.range j).filter fun i => decide (i ≠ k)).map fun i => ws.getD i 0
theorem dropL_yes {ws : List Int} {k j : Nat} (h : j ≠ k) : dropL ws k (j+1) = dropL ws k j ++ [ws.getD j 0] := by simp [dropL, List.range_succ, List.filter_append, h]
theorem dropL_no {ws : List Int} {k j : Nat} (h : j = k) : dropL ws k (j+1) = dropL ws k j := by simp [dropL, List.range_succ, List.filter_append, h]
theorem dropL_len (ws : List Int) (k j : Nat) : (dropL ws k j).length = if k < j then j - 1 else j := by
  induction j with
  | zero => simp [dropL]
  | succ j ih =>
    by_cases e : j = k
    · rw [dropL_no e, ih, if_neg (by omega), if_pos (by omega)]; omega
    · rw [dropL_yes e, List.length_append, ih]
      by_cases h : k < j
      · rw [if_pos h, if_pos (by omega)]; simp; omega
      · rw [if_neg h, if_neg (by omega)]; simp
def dropOk (q : Int) (ws : List Int) (n : Nat) (x : Int) : Bool := memOk q ws n x && goodB q (dropL ws x.toNat n) (n - 1)
def dropQ (q : Int) (ws : List Int) (n : Nat) (x : Int) : Int := if dropOk q ws n x then q else 0
def dropN (q : Int) (ws : List Int) (n : Nat) (x : Int) : Nat := if dropOk q ws n x then n - 1 else 0
theorem dropQ_yes {q ws n x} (h : dropOk q ws n x = true) : dropQ q ws n x = q := if_pos h
theorem dropQ_no {q ws n x} (h : dropOk q ws n x = false) : dropQ q ws n x = 0 := if_neg (by rw [h]; simp)
theorem dropN_yes {q ws n x} (h : dropOk q ws n x = true) : dropN q ws n x = n - 1 := if_pos h
theorem dropN_no {q ws n x} (h : dropOk q ws n x = false) : dropN q ws n x = 0 := if_neg (by rw [h]; simp)
theorem dropN_le (q : Int) (ws : List Int) (n : Nat) (x : Int) : dropN q ws n x ≤ 9 := by
  cases h : dropOk q ws n x with
  | true =>
    rw [dropN_yes h]
    unfold dropOk at h
    simp at h
    have := (memOk_parts h.1).1.hi
    omega
  | false => rw [dropN_no h]; omega

end Go.Proofs.YtipplbcjdcdapabDoor
