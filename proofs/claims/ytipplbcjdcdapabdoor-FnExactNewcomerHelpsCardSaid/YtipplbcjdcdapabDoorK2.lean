/- Answers that are slices of shares in the call's own memory: how they are marked, held and compared. -/
import Derived.Test.YtipplbcjdcdapabDoorK1
import Derived.Deep.RegionHeld3
import Derived.Outline
namespace Go.Proofs.YtipplbcjdcdapabDoor
open Go.RowKit Vo

/-- The shares' numbers, one behind the other. -/
def shF (L : List (Int × Int)) (i : Nat) : Int := if i % 2 = 0 then (L.getD (i / 2) (0, 0)).1 else (L.getD (i / 2) (0, 0)).2
theorem shF_num (L : List (Int × Int)) (k : Nat) : shF L (k * 2) = (L.getD k (0, 0)).1 := by simp [shF]
theorem shF_den (L : List (Int × Int)) (k : Nat) : shF L (k * 2 + 1) = (L.getD k (0, 0)).2 := by
  have h1 : (k * 2 + 1) % 2 = 1 := by omega
  have h2 : (k * 2 + 1) / 2 = k := by omega
  simp [shF, h1, h2]

/-- A slice of shares whose block, if it has one, is in lo .. hi. -/
def RSh (L : List (Int × Int)) (lo hi : Nat) (v : Value) (w : World) : Prop :=
  ∃ A cap, v = .slice A L.length cap ∧ (L.length = 0 ∨ ∃ g, A = some ⟨g, 0, none⟩ ∧ lo ≤ g ∧ g < hi ∧ Own w g 65 (2 * L.length) (fun i => .int .i64 (shF L i)))
def MSh (L : List (Int × Int)) (lo hi : Nat) (kk : Int) (v : Value) (w : World) : Prop :=
  ∃ A cap, v = .slice A L.length cap ∧ (L.length = 0 ∨ ∃ g, A = some ⟨g, 0, none⟩ ∧ lo ≤ g ∧ g < hi ∧ Own w g 65 (2 * L.length) (fun j => .int .i64 (kk + j)))
theorem RSh.lies {L : List (Int × Int)} {lo hi : Nat} {v : Value} {w : World} (h : RSh L lo hi v w) (hh : hi ≤ w.heap.size) : Lies (RSh L lo hi v) lo hi w := by
  refine ⟨hh, fun w' e => ?_⟩
  obtain ⟨A, cap, hv, h⟩ := h
  refine ⟨A, cap, hv, ?_⟩
  rcases h with h | ⟨g, hA, h1, h2, h⟩
  · exact Or.inl h
  · exact Or.inr ⟨g, hA, h1, h2, Own.of_block h (e g h1 h2)⟩
theorem MSh.lies {L : List (Int × Int)} {lo hi : Nat} {kk : Int} {v : Value} {w : World} (h : MSh L lo hi kk v w) (hh : hi ≤ w.heap.size) : Lies (MSh L lo hi kk v) lo hi w := by
  refine ⟨hh, fun w' e => ?_⟩
  obtain ⟨A, cap, hv, h⟩ := h
  refine ⟨A, cap, hv, ?_⟩
  rcases h with h | ⟨g, hA, h1, h2, h⟩
  · exact Or.inl h
  · exact Or.inr ⟨g, hA, h1, h2, Own.of_block h (e g h1 h2)⟩

end Go.Proofs.YtipplbcjdcdapabDoor
