/- Contracts of the model's counts of least winning sets. -/
import Derived.Test.YtlnlkfldlgchhaaT4
import Derived.Test.YtlnlkfldlgchhaaZ4
import Derived.Test.YtlnlkfldlgchhaaN7
import Derived.Outline
namespace Go.Proofs.Ytlnlkfldlgchhaa
open Go.RowKit Vo

/-- How often i is in a list. -/
def cntI (l : List Int) (i : Nat) : Nat := l.countP fun z => z == (i : Int)
theorem cntI_more (l : List Int) (t z : Nat) (h : l[t]? = some (z : Int)) (i : Nat) : cntI (l.take (t+1)) i = cntI (l.take t) i + if i = z then 1 else 0 := by
  unfold cntI
  rw [List.take_add_one, h, List.countP_append]
  congr 1
  by_cases e : i = z
  · subst e; simp
  · rw [if_neg e]; simp; omega
theorem cntI_mem {s i : Nat} (hi : i < 9) : cntI (mem s 9) i = if s.testBit i then 1 else 0 := by
  have : ∀ k, cntI (mem s k) i = if i < k ∧ s.testBit i = true then 1 else 0 := by
    intro k
    induction k with
    | zero => simp [cntI, mem]
    | succ k ih =>
      unfold cntI at ih ⊢
      simp only [mem, List.countP_append, ih]
      by_cases e : i = k
      · subst e
        cases s.testBit i <;> simp
      · have h1 : ((if s.testBit k = true then [((k : Nat) : Int)] else []).countP fun z => z == (i : Int)) = 0 := by
          cases s.testBit k
          · rfl
          · simp; omega
        rw [h1]
        by_cases h2 : i < k
        · simp [h2, show i < k + 1 by omega]
        · simp [h2, show ¬ i < k + 1 by omega]
  rw [this 9]
  simp [hi]
theorem cntI_le (l : List Int) (t i : Nat) (h : l.length ≤ 9) : cntI (l.take t) i ≤ 9 := by
  unfold cntI
  have h1 := List.countP_le_length (p := fun z => z == (i : Int)) (l := l.take t)
  have h2 := List.length_take_le t l
  have h3 : (l.take t).length ≤ l.length := by rw [List.length_take]; omega
  omega

end Go.Proofs.Ytlnlkfldlgchhaa
