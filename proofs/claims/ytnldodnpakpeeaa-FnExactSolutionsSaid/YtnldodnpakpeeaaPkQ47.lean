/- Texts of T5, T6. -/
import Derived.Test.YtnldodnpakpeeaaPkQ11
import Derived.Test.YtnldodnpakpeeaaPkQ46
namespace Go.Proofs.Ytnldodnpakpeeaa
open Go.RowKit Vo

theorem RSS0.low {L : List (List Int)} {lo lo' hi : Nat} {v : Value} {w : World} (h : RSS0 L lo hi v w) (hl : lo' ≤ lo) : RSS0 L lo' hi v w := by
  obtain ⟨A, cap, hv, h⟩ := h
  refine ⟨A, cap, hv, ?_⟩
  rcases h with h | ⟨g, f, hA, h1, h2, ho, h⟩
  · exact Or.inl h
  · exact Or.inr ⟨g, f, hA, by omega, h2, ho, fun i hi => (h i hi).wide (Or.inr ⟨hl, Nat.le_refl _⟩)⟩
theorem leastP_congr {p p' : Nat → Bool} {n : Nat} (h : ∀ s, s < 2^n → p s = p' s) : (inOrder n).filter (leastP p n) = (inOrder n).filter (leastP p' n) := by
  refine List.filter_congr fun t ht => ?_
  have h2 := mem_inOrder.1 ht
  unfold leastP noneOut
  rw [h t h2, allK_congr fun j _ => by rw [h (out t j) (Nat.lt_of_le_of_lt (out_le t j) h2)]]
theorem leastP_dual {q : Int} {ws : List Int} {n : Nat} : (inOrder n).filter (leastP (vetoP q ws n) n) = (inOrder n).filter (leastP (winB (sumK ws n + 1 - q) ws n) n) := by
  refine leastP_congr fun s hs => ?_
  unfold vetoP winB
  rw [wtK_co hs (Nat.le_refl _)]
  rw [Bool.eq_iff_iff]
  simp
  omega

end Go.Proofs.Ytnldodnpakpeeaa

namespace Go.Proofs.Ytnldodnpakpeeaa
open Go.RowKit Vo

theorem totK_small {L : List (List Int)} {b : Nat} (h : ∀ i, (L.getD i []).length ≤ b) (k : Nat) : totK L k ≤ b * k := by
  induction k with
  | zero => simp [totK]
  | succ k ih => simp only [totK]; have := h k; rw [Nat.mul_succ]; omega
theorem setsL_nine (S : List Nat) (i : Nat) : ((setsL S).getD i []).length ≤ 9 := by
  rw [List.getD_eq_getElem?_getD, setsL, List.getElem?_map]
  cases S[i]? with
  | none => simp
  | some s => exact mem_len s 9
theorem okLL_small (q : Int) (ws : List Int) (n : Nat) (P : Nat → Bool) : tot (okLL (goodB q ws n) (setsL ((inOrder n).filter P))) + (okLL (goodB q ws n) (setsL ((inOrder n).filter P))).length ≤ 1048576 := by
  by_cases hg : Vo.Good q ws n
  · rw [okLL_yes (goodB_true hg)]
    have h1 := (filt_get (P := P) hg.hi).1
    have h2 := setsL_len ((inOrder n).filter P)
    have h3 : tot (setsL ((inOrder n).filter P)) ≤ 9 * (setsL ((inOrder n).filter P)).length := totK_small (setsL_nine _) _
    omega
  · rw [okLL_no (goodB_false hg)]
    simp [tot, totK]
end Go.Proofs.Ytnldodnpakpeeaa
