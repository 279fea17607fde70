/- Contract of the model's DualGame. -/
import Derived.Outline
import Derived.Test.YtbkjogehcoobaaaJ2
import Derived.Test.YtbkjogehcoobaaaA5
namespace Go.Proofs.Ytbkjogehcoobaaa
open Go.RowKit Vo

theorem cell_far2 {w : World} {a p p' : Addr} {u u' v : Value} (h : w.cell? a = some v) (h1 : a.block ≠ p.block) (h2 : a.block ≠ p'.block) : ((w.setCell p u).setCell p' u').cell? a = some v := by
  have e : ((w.setCell p u).setCell p' u').heap[a.block]? = w.heap[a.block]? := (Below.heap_setCell _ p' u' a.block h2).trans (Below.heap_setCell w p u a.block h1)
  unfold World.cell? at h ⊢
  rw [e]; exact h
theorem filt512 {q : Nat} (hq : q ≤ 9) (P : Nat → Bool) : ((inOrder q).filter P).length ≤ 512 ∧ ∀ j, j < ((inOrder q).filter P).length → ((inOrder q).filter P).getD j 0 < 512 := by
  have h2 := pow_lt hq
  refine ⟨?_, fun j hj => ?_⟩
  · have h1 := List.length_filter_le P (inOrder q)
    have h3 := inOrder_len q
    omega
  · have h1 : ((inOrder q).filter P).getD j 0 ∈ (inOrder q).filter P := getD_mem hj
    have := mem_inOrder.1 (List.mem_filter.1 h1).1
    omega
/-- The sets of the dual. -/
def blockP (S : List Nat) (q s : Nat) : Bool := !winS S (co q s)
def dualS (m : Int) (L : List (List Int)) : List Nat := (inOrder m.toNat).filter (leastP (blockP (setsN L) m.toNat) m.toNat)
theorem dualS_len {m : Int} {L : List (List Int)} (h : goodG m L = true) : (dualS m L).length ≤ 512 := by
  obtain ⟨h1, h9, _, _, _⟩ := goodG_parts h
  exact (filt512 (by omega) _).1

end Go.Proofs.Ytbkjogehcoobaaa
namespace Go.Proofs.Ytbkjogehcoobaaa
open Go.RowKit Vo

theorem blockP_eq (S : List Nat) (q : Nat) : (fun j => Value.bool (!winL S (2^q - 1 - j))) = fun j => Value.bool (blockP S q j) := rfl

end Go.Proofs.Ytbkjogehcoobaaa
