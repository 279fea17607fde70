/- Contracts of members asked for, and of SwingsBySize, the program's and the model's. -/
import Derived.Test.YtipplbcjdcdapabDoorN7
import Derived.Outline
namespace Go.Proofs.YtipplbcjdcdapabDoor
open Go.RowKit Vo

/-- There are a committee and a member of it. -/
def memOk (q : Int) (ws : List Int) (n : Nat) (x : Int) : Bool := goodB q ws n && inB x 0 ((n : Int) - 1)
theorem memOk_parts {q ws n x} (h : memOk q ws n x = true) : Vo.Good q ws n ∧ 0 ≤ x ∧ x < n := by
  unfold memOk goodB inB at h
  simp at h
  exact ⟨h.1, h.2.1, by omega⟩

theorem Ans.none_ {w w' : World} (hb : Below w.heap.size w w') : Ans (RS []) false w w' (.returned (.tuple #[.slice none 0 0, .bool false])) :=
  ⟨_, rfl, RS.lies ⟨none, 0, rfl, Or.inl rfl⟩ (Nat.le_refl _), hb⟩

/-- How many swings of a member have 0, 1, .. members. -/
def bySizeL (q : Int) (ws : List Int) (n : Nat) (x : Int) : List Int := okL (memOk q ws n x) (perL (sizN (winB q ws n) x.toNat (2^n)) n)
theorem bySizeL_len (q : Int) (ws : List Int) (n : Nat) (x : Int) : (bySizeL q ws n x).length ≤ 1048576 := by
  cases h : memOk q ws n x with
  | true => exact okL_len (by rw [perL_len]; have := (memOk_parts h).1.hi; omega)
  | false => unfold bySizeL; rw [okL_no h]; simp

/-- How many of these sets have a size. -/
def sizL (L : List Nat) (z : Nat) : Nat := (L.filter fun s => decide (sz s = z)).length
theorem sizL_swL (p : Nat → Bool) (k N z : Nat) : sizL (swL p k N) z = sizN p k N z := by
  induction N with
  | zero => rfl
  | succ N ih =>
    rw [sizN_succ, ← ih, swL_succ]
    unfold sizL
    rw [List.filter_append, List.length_append]
    congr 1
    cases swP p k N
    · simp
    · by_cases h : sz N = z
      · simp [h]
      · simp [h]
theorem sizL_take {L : List Nat} {j : Nat} (z : Nat) (h : j < L.length) : sizL (L.take (j+1)) z = sizL (L.take j) z + if sz (L.getD j 0) = z then 1 else 0 := by
  unfold sizL
  rw [List.take_add_one, List.filter_append, List.length_append, List.getElem?_eq_getElem h, List.getD_eq_getElem?_getD, List.getElem?_eq_getElem h]
  congr 1
  by_cases e : sz L[j] = z
  · simp [e]
  · simp [e]
theorem sizL_le (L : List Nat) (j z : Nat) : sizL (L.take j) z ≤ j := Nat.le_trans (List.length_filter_le _ _) (List.length_take_le j L)

end Go.Proofs.YtipplbcjdcdapabDoor
