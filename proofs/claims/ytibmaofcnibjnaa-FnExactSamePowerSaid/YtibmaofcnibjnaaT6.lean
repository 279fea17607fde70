/- How long lists of sets are. -/
import Derived.Test.YtibmaofcnibjnaaT5
namespace Go.Proofs.Ytibmaofcnibjnaa
open Go.RowKit Vo

theorem totK_small {L : List (List Int)} {b : Nat} (h : ∀ i, (L.getD i []).length ≤ b) (k : Nat) : totK L k ≤ b * k := by
  induction k with
  | zero => simp [totK]
  | succ k ih => simp only [totK]; have := h k; rw [Nat.mul_succ]; omega
theorem setsL_nine (S : List Nat) (i : Nat) : ((setsL S).getD i []).length ≤ 9 := by
  rw [List.getD_eq_getElem?_getD, setsL, List.getElem?_map]
  cases S[i]? with
  | none => simp
  | some s => exact mem_len s 9
theorem okLL_small (q : Int) (ws : List Int) (n : Nat) (P : Nat → Bool) : tot (okLL (goodB q ws n) (setsL ((inOrder n).filter P))) + (okLL (goodB q ws n) (setsL ((inOrder n).filter P))).length ≤ 1048576 := by
  by_cases hg : Vo.Good q ws n
  · rw [okLL_yes (goodB_true hg)]
    have h1 := (filt_get (P := P) hg.hi).1
    have h2 := setsL_len ((inOrder n).filter P)
    have h3 : tot (setsL ((inOrder n).filter P)) ≤ 9 * (setsL ((inOrder n).filter P)).length := totK_small (setsL_nine _) _
    omega
  · rw [okLL_no (goodB_false hg)]
    simp [tot, totK]
end Go.Proofs.Ytibmaofcnibjnaa
