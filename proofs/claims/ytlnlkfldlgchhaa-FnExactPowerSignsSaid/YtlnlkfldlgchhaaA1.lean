/- Contract of the program's least winning sets of a committee. -/
import Derived.Test.YtlnlkfldlgchhaaR3
import Derived.Test.YtlnlkfldlgchhaaW5
import Derived.Outline
namespace Go.Proofs.Ytlnlkfldlgchhaa
open Go.RowKit Vo

/-- The least winning sets, in order. -/
def lwL (q : Int) (ws : List Int) (n : Nat) : List Nat := (inOrder n).filter (leastP (winB q ws n) n)
theorem lwL_len {q : Int} {ws : List Int} {n : Nat} (hn : n ≤ 9) : (lwL q ws n).length ≤ 512 := by
  have h1 := List.length_filter_le (leastP (winB q ws n) n) (inOrder n)
  have h2 := inOrder_len n
  have h3 := pow_lt hn
  unfold lwL; omega
theorem lwL_mem {q : Int} {ws : List Int} {n s : Nat} (h : s ∈ lwL q ws n) : s < 2^n ∧ winB q ws n s = true := by
  obtain ⟨h1, h2⟩ := List.mem_filter.1 h
  exact ⟨mem_inOrder.1 h1, by unfold leastP at h2; simp at h2; exact h2.1⟩
theorem wtK_none (ws : List Int) (k : Nat) : wtK ws 0 k = 0 := by
  induction k with
  | zero => rfl
  | succ k ih => simp [wtK, ih]
theorem lwL_pos {q : Int} {ws : List Int} {n s : Nat} (hq : 1 ≤ q) (h : s ∈ lwL q ws n) : s ≠ 0 := by
  intro e
  have h2 := (lwL_mem h).2
  subst e
  unfold winB at h2
  rw [wtK_none] at h2
  simp at h2; omega
theorem lwL_at {q : Int} {ws : List Int} {n j : Nat} (h : j < (lwL q ws n).length) : (lwL q ws n).getD j 0 ∈ lwL q ws n := by
  rw [List.getD_eq_getElem?_getD, List.getElem?_eq_getElem h]; exact List.getElem_mem h

end Go.Proofs.Ytlnlkfldlgchhaa
