/- Contracts of the model's LeastWinning and LeastBlocking. -/
import Derived.Test.YtibmaofcnibjnaaT4
import Derived.Test.YtibmaofcnibjnaaD2
namespace Go.Proofs.Ytibmaofcnibjnaa
open Go.RowKit Vo

theorem RSS0.low {L : List (List Int)} {lo lo' hi : Nat} {v : Value} {w : World} (h : RSS0 L lo hi v w) (hl : lo' ≤ lo) : RSS0 L lo' hi v w := by
  obtain ⟨A, cap, hv, h⟩ := h
  refine ⟨A, cap, hv, ?_⟩
  rcases h with h | ⟨g, f, hA, h1, h2, ho, h⟩
  · exact Or.inl h
  · exact Or.inr ⟨g, f, hA, by omega, h2, ho, fun i hi => (h i hi).wide (Or.inr ⟨hl, Nat.le_refl _⟩)⟩
theorem leastP_congr {p p' : Nat → Bool} {n : Nat} (h : ∀ s, s < 2^n → p s = p' s) : (inOrder n).filter (leastP p n) = (inOrder n).filter (leastP p' n) := by
  refine List.filter_congr fun t ht => ?_
  have h2 := mem_inOrder.1 ht
  unfold leastP noneOut
  rw [h t h2, allK_congr fun j _ => by rw [h (out t j) (Nat.lt_of_le_of_lt (out_le t j) h2)]]
theorem leastP_dual {q : Int} {ws : List Int} {n : Nat} : (inOrder n).filter (leastP (vetoP q ws n) n) = (inOrder n).filter (leastP (winB (sumK ws n + 1 - q) ws n) n) := by
  refine leastP_congr fun s hs => ?_
  unfold vetoP winB
  rw [wtK_co hs (Nat.le_refl _)]
  rw [Bool.eq_iff_iff]
  simp
  omega

end Go.Proofs.Ytibmaofcnibjnaa
