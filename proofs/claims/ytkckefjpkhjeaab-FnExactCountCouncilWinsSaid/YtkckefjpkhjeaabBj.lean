/- Contracts of the model's chambers: which sets win all of them, or some. -/
import Derived.Test.YtkckefjpkhjeaabBi
namespace Go.Proofs.Ytkckefjpkhjeaab
open Go.RowKit Vo

/-- Does a set win in each (a), or in some (not a), of the first k of these? -/
def chP (a : Bool) (C : List (Int × List Int)) : Nat → Nat → Bool
  | 0, _ => a
  | k+1, s => if a then chP a C k s && winB (qAt C k) (wAt C k) (nAt C k) s else chP a C k s || winB (qAt C k) (wAt C k) (nAt C k) s
theorem chP_one (a : Bool) (C : List (Int × List Int)) (s : Nat) : chP a C 1 s = winB (qAt C 0) (wAt C 0) (nAt C 0) s := by cases a <;> simp [chP]
theorem chP_all (C : List (Int × List Int)) (k s : Nat) : chP true C k s = !anyK (fun i => !winB (qAt C i) (wAt C i) (nAt C i) s) k := by
  induction k with
  | zero => rfl
  | succ k ih =>
    have e : anyK (fun i => !winB (qAt C i) (wAt C i) (nAt C i) s) (k+1) = (anyK (fun i => !winB (qAt C i) (wAt C i) (nAt C i) s) k || !winB (qAt C k) (wAt C k) (nAt C k) s) := by
      simp [anyK, allK, Bool.not_and]
    rw [e]
    simp only [chP, ih, if_true]
    simp
theorem chP_some (C : List (Int × List Int)) (k s : Nat) : chP false C k s = anyK (fun i => winB (qAt C i) (wAt C i) (nAt C i) s) k := by
  induction k with
  | zero => rfl
  | succ k ih =>
    have e : anyK (fun i => winB (qAt C i) (wAt C i) (nAt C i) s) (k+1) = (anyK (fun i => winB (qAt C i) (wAt C i) (nAt C i) s) k || winB (qAt C k) (wAt C k) (nAt C k) s) := by
      simp [anyK, allK, Bool.not_and]
    rw [e]
    simp [chP, ih]

/-- Block g of the call's own tells of all sets of m members whether they are of the kind p. -/
def TableAt (p : Nat → Bool) (N : Nat) (w w' : World) (e : Ending) : Prop :=
  ∃ g cap, e = .returned (.slice (some ⟨g, 0, none⟩) N cap) ∧ w.heap.size ≤ g ∧ Own w' g 4 N (fun j => .bool (p j)) ∧ Below w.heap.size w w'

theorem grown_refl' (w : World) (r : Option Nat) : w.grownBy w r := ⟨rfl, rfl, rfl, Nat.le_refl _, fun _ _ _ => rfl⟩
theorem grown_set' {w wr : World} {g : Nat} (h : w.grownBy wr (some g)) (o : Nat) (u : Value) : w.grownBy (wr.setCell ⟨g, o, none⟩ u) (some g) :=
  ⟨h.os, h.tape, h.output, by have := h.size; simpa [World.setCell] using this, fun k hk hne => (Below.heap_setCell wr ⟨g, o, none⟩ u k (fun e => hne (by rw [e]))).trans (h.block k hk hne)⟩

end Go.Proofs.Ytkckefjpkhjeaab
