/- Contract of the model's AddDummy. -/
import Derived.Test.YtipplbcjdcdapabDoorWc
import Derived.Test.YtipplbcjdcdapabDoorG2
import Derived.Test.YtipplbcjdcdapabDoorS2
namespace Go.Proofs.YtipplbcjdcdapabDoor
open Go.RowKit Vo

theorem addL_in {lo hi : Int} {ws : List Int} {n : Nat} {x : Int} (h : InK lo hi ws n) (h1 : lo ≤ x) (h2 : x ≤ hi) : InK lo hi (addL ws n x) (n+1) := by
  intro j hj
  by_cases e : j = n
  · subst e; rw [addL_end]; exact ⟨h1, h2⟩
  · rw [addL_at (by omega)]; exact h j (by omega)
theorem moreOk_zero {q : Int} {ws : List Int} {n : Nat} (hg : Vo.Good q ws n) : moreOk q ws n 0 = decide (n < 9) := by
  by_cases h : n < 9
  · rw [decide_eq_true h]
    exact goodB_true ⟨by omega, by omega, addL_in hg.ok (by omega) (by omega), hg.q1, by rw [sumK_addL1]; have := hg.q2; omega⟩
  · rw [decide_eq_false h]
    exact goodB_false fun g => h (by have := g.hi; omega)
theorem cut_addL (ws : List Int) (n : Nat) (x : Int) : cut ws 0 n ++ [Value.int .i64 x] = (addL ws n x).map (Value.int .i64) := by
  rw [← addL_cells]; simp [cut]
theorem lit_news {w : World} {g : Nat} {x : Int} {t : TypeId} (h : w.heap[g]? = some (.cells #[.int .i64 x] t)) : ∀ j u, [Value.int .i64 x][j]? = some u → w.cell? ((⟨g, 0, none⟩ : Addr).add j) = some u := by
  intro j u hj
  rcases j with _ | j
  · simp at hj
    subst hj
    simp [Addr.add, World.cell?, h]
  · simp at hj

end Go.Proofs.YtipplbcjdcdapabDoor
