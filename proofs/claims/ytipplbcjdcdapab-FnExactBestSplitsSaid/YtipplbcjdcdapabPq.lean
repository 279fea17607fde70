/- Contracts of the model's unNew, unAdd, AddMember. -/
import Derived.Test.YtipplbcjdcdapabPd
import Derived.Test.YtipplbcjdcdapabWf
import Derived.Outline
namespace Go.Proofs.Ytipplbcjdcdapab
open Go.RowKit Vo

/-- A committee as a value, its weights in a block of the call's own. -/
def ComV (q : Int) (m : Nat) (L : List Int) (w w' : World) (e : Ending) : Prop :=
  ∃ g cap, e = .returned (.agg #[.int .i64 q, .slice (some ⟨g, 0, none⟩) m cap]) ∧ w.heap.size ≤ g ∧ Ints w' g m L ∧ Below w.heap.size w w'
theorem addOk_form (q : Int) (ws : List Int) (n : Nat) (x : Int) : addOk q q ws n x = (goodB q ws n && inB x 0 1000 && decide (n < 9)) := by
  by_cases hg : Vo.Good q ws n
  · rw [addOk_good (goodB_true hg), goodB_true hg, Bool.true_and]
    by_cases h9 : n < 9
    · by_cases hx : 0 ≤ x ∧ x ≤ 1000
      · rw [inB_yes hx.1 hx.2, decide_eq_true h9]
        exact goodB_true ⟨by omega, by omega, addL_in hg.ok hx.1 hx.2, hg.q1, by rw [sumK_addL1]; have := hg.q2; omega⟩
      · rw [inB_no hx, Bool.false_and]
        refine goodB_false fun g => hx ?_
        have h := g.ok n (by omega)
        rw [addL_end] at h
        exact h
    · rw [decide_eq_false h9, Bool.and_false]
      exact goodB_false fun g => h9 (by have := g.hi; omega)
  · rw [addOk_no (goodB_false hg), goodB_false hg]; rfl

theorem addMN_le (q : Int) (ws : List Int) (n : Nat) (x : Int) : addN q q ws n x ≤ 9 := addN_le _ _ _ _ _

end Go.Proofs.Ytipplbcjdcdapab
