/- Contracts of copies of committees with another quota. -/
import Derived.Test.YtipplbcjdcdapabGreatW2
import Derived.Deep.OwnRows
import Derived.Laws.CopyOwn
import Derived.Deep.RegionWith
namespace Go.Proofs.YtipplbcjdcdapabGreat
open Go.RowKit Vo

theorem splice_own {w : World} {g n : Nat} {ws : List Int} {cur cs : List Value} (hc : cs = (List.range n).map fun j => Value.int .i64 (ws.getD j 0)) (hn : cur.length = n)
    (h : w.heap[g]? = some (.cells (splice cur 0 cs).toArray 3 (0, 0))) : Ints w g n ws := by
  subst hc
  refine ⟨_, h, ?_, fun i hi => ?_⟩
  · have := length_splice cur 0 ((List.range n).map fun j => Value.int .i64 (ws.getD j 0)) (by simp [hn])
    show n ≤ (splice cur 0 _).toArray.size
    rw [List.size_toArray]; omega
  · simp [splice, List.getElem?_append, hi]

theorem splice_row {w : World} {base g n : Nat} {ws : List Int} {cur cs : List Value} (hb : base ≤ g) (h9 : n ≤ 9) (hc : cs = (List.range n).map fun j => Value.int .i64 (ws.getD j 0)) (hn : cur.length = n)
    (h : w.heap[g]? = some (.cells (splice cur 0 cs).toArray 3 (0, 0))) : w.ownsRow base 3 1 (.slice (some ⟨g, 0, none⟩) n n) n ((List.range n).map fun j => Value.int .i64 (ws.getD j 0)) := by
  have hl : cs.length = n := by rw [hc]; simp
  have e : splice cur 0 cs = cs := by
    unfold splice
    simp [List.drop_eq_nil_of_le (show cur.length ≤ cs.length by omega)]
  rw [e] at h
  refine ⟨by simp, Or.inr ⟨g, n, cs.toArray, rfl, hb, h, Nat.le_refl _, by unfold maxLen; omega, by simp [hl], ?_⟩⟩
  rw [← hc]
  simp [List.take_of_length_le (show cs.length ≤ n by omega)]
theorem owns_far {w : World} {base : Nat} {e : TypeId} {size : Nat} {v : Value} {n : Nat} {xs : List Value} (h : w.ownsRow base e size v n xs) {p : Addr} (hp : p.block < base) (u : Value) : (w.setCell p u).ownsRow base e size v n xs := by
  obtain ⟨h1, h2⟩ := h
  refine ⟨h1, ?_⟩
  rcases h2 with h2 | ⟨g, cap, cur, hv, hg, hh, r⟩
  · exact Or.inl h2
  · exact Or.inr ⟨g, cap, cur, hv, hg, (Below.heap_setCell w p u g (by omega)).trans hh, r⟩

theorem ints_of_row {w : World} {base g n cap : Nat} {ws : List Int} (h : w.ownsRow base 3 1 (.slice (some ⟨g, 0, none⟩) n cap) n ((List.range n).map fun j => Value.int .i64 (ws.getD j 0))) : Ints w g n ws :=
  Own.of_own h fun i hi => by rw [List.getElem?_map, List.getElem?_range hi]; rfl

theorem isSome_set {w : World} {p a : Addr} {u : Value} (h : (w.cell? a).isSome = true) : ((w.setCell p u).cell? a).isSome = true := by
  by_cases e : p = a
  · subst e; rw [World.cell?_setCell_same' w p u h]; rfl
  · rw [World.cell?_setCell_other w p a u e]; exact h

/-- The total's wrap. -/
theorem dual_q {q : Int} {ws : List Int} {n : Nat} (h : Vo.Good q ws n) : 1 ≤ sumK ws n - q + 1 ∧ sumK ws n - q + 1 ≤ 9000 := by
  have := h.tot; have := h.q1; have := h.q2; omega

/-- A slice that is empty, or holds these integers in a block from base on. -/
def Held (base : Nat) (w : World) (A : Option Addr) (m : Nat) (L : List Int) : Prop := (m = 0 ∧ A = none) ∨ ∃ g, A = some ⟨g, 0, none⟩ ∧ base ≤ g ∧ Ints w g m L
/-- A committee of the call's own, and a truth. -/
def ComAt (q' : Int) (m : Nat) (L : List Int) (ok : Bool) (w w' : World) (e : Ending) : Prop :=
  ∃ A cap, e = .returned (.tuple #[.agg #[.int .i64 q', .slice A m cap], .bool ok]) ∧ Held w.heap.size w' A m L ∧ Below w.heap.size w w'
def dualQ (q : Int) (ws : List Int) (n : Nat) : Int := if goodB q ws n then sumK ws n + 1 - q else 0
def dualN (q : Int) (ws : List Int) (n : Nat) : Nat := if goodB q ws n then n else 0
theorem dualQ_yes {q ws n} (h : goodB q ws n = true) : dualQ q ws n = sumK ws n + 1 - q := if_pos h
theorem dualQ_no {q ws n} (h : goodB q ws n = false) : dualQ q ws n = 0 := if_neg (by rw [h]; simp)
theorem dualN_yes {q ws n} (h : goodB q ws n = true) : dualN q ws n = n := if_pos h
theorem dualN_no {q ws n} (h : goodB q ws n = false) : dualN q ws n = 0 := if_neg (by rw [h]; simp)

theorem dualN_le (q : Int) (ws : List Int) (n : Nat) : dualN q ws n ≤ 9 := by
  by_cases hg : Vo.Good q ws n
  · rw [dualN_yes (goodB_true hg)]; exact hg.hi
  · rw [dualN_no (goodB_false hg)]; omega

end Go.Proofs.YtipplbcjdcdapabGreat
