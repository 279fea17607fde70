/- Contracts of the program's games and swings of chambers. -/
import Derived.Test.YtkckefjpkhjeaabBg
import Derived.Test.YtkckefjpkhjeaabA5
namespace Go.Proofs.Ytkckefjpkhjeaab
open Go.RowKit Vo

theorem inOrder_in {n j : Nat} {p : Nat → Bool} (hn : n < 10) (hj : j < ((inOrder n).filter p).length) : ((inOrder n).filter p).getD j 0 < 512 := by
  rw [List.getD_eq_getElem?_getD, List.getElem?_eq_getElem hj]
  have h := mem_inOrder.1 (List.mem_filter.1 (List.getElem_mem hj)).1
  have h5 := pow_lt (n := n) (by omega)
  show ((inOrder n).filter p)[j] < 512
  omega
theorem inOrder_few {n : Nat} {p : Nat → Bool} (hn : n < 10) : ((inOrder n).filter p).length ≤ 512 := by
  have h1 := List.length_filter_le p (inOrder n)
  have h2 := inOrder_len n
  have := pow_lt (n := n) (by omega)
  omega

theorem cellf2 {w : World} {p q r : Addr} {v u1 u2 : Value} (h : w.cell? p = some v) (h1 : p.block ≠ q.block) (h2 : p.block ≠ r.block) : ((w.setCell q u1).setCell r u2).cell? p = some v := by
  rw [World.cell?_of_block (w := w) ((Below.heap_setCell _ r u2 p.block h2).trans (Below.heap_setCell _ q u1 p.block h1))]
  exact h

theorem asm_below {w w1 w2 w0 : World} {p : Nat → Bool} {n g b : Nat} (hb : Below w.heap.size w w1) (ha : Asm p n g b w0 w1) (h0 : w.heap.size ≤ w0.heap.size) (hg : w1.grownBy w2 (some b)) : Below w.heap.size w w2 :=
  hb.grown hg hb.size (fun k hk => by cases hk; have := ha.bw; omega)

end Go.Proofs.Ytkckefjpkhjeaab
