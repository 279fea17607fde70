/- Which sets win in a game: the model's tables, and what it asks of them. -/
import Derived.Test.YtldpdjnedoflcabI6
import Derived.Test.YtldpdjnedoflcabS3
import Derived.Outline
import Derived.Test.YtldpdjnedoflcabI4
import Derived.Test.YtldpdjnedoflcabW5
namespace Go.Proofs.Ytldpdjnedoflcab
open Go.RowKit Vo

/-- Does a set have all members of one of these? -/
def winS (S : List Nat) (s : Nat) : Bool := S.any fun t => partB s t
theorem winS_yes {S : List Nat} {s j : Nat} (hj : j < S.length) (h : partB s (S.getD j 0) = true) : winS S s = true := List.any_eq_true.2 ⟨_, getD_mem hj, h⟩
theorem winS_no {S : List Nat} {s : Nat} (h : ∀ j, j < S.length → partB s (S.getD j 0) = false) : winS S s = false := by
  cases hw : winS S s
  · rfl
  · obtain ⟨t, ht, h2⟩ := List.any_eq_true.1 hw
    obtain ⟨j, hj, rfl⟩ := List.mem_iff_getElem.1 ht
    have := h j hj
    rw [List.getD_eq_getElem?_getD, List.getElem?_eq_getElem hj] at this
    simp only [Option.getD_some] at this
    rw [this] at h2; cases h2

end Go.Proofs.Ytldpdjnedoflcab

namespace Go.Proofs.Ytldpdjnedoflcab
open Go.RowKit Vo

/-- Does a set have all members of one of these? (The lists' own word.) -/
def wnL (S : List Nat) (s : Nat) : Bool := S.any fun t => partB s t
theorem any_take (S : List Nat) (s j : Nat) (h : j < S.length) : wnL (S.take (j+1)) s = (wnL (S.take j) s || partB s (S.getD j 0)) := by
  unfold wnL
  rw [List.take_add_one, List.any_append, List.getElem?_eq_getElem h, List.getD_eq_getElem?_getD, List.getElem?_eq_getElem h]
  simp

end Go.Proofs.Ytldpdjnedoflcab
