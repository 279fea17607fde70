/- Contracts of the program's AddDummy, AddVeto: a member more. -/
import Derived.Test.YtipplbcjdcdapabD1
import Derived.Test.YtipplbcjdcdapabR4
import Derived.Test.YtipplbcjdcdapabG1
import Derived.Outline
namespace Go.Proofs.Ytipplbcjdcdapab
open Go.RowKit Vo

/-- The first n weights and one more. -/
def addL (ws : List Int) (n : Nat) (x : Int) : List Int := ((List.range n).map fun j => ws.getD j 0) ++ [x]
theorem addL_len (ws : List Int) (n : Nat) (x : Int) : (addL ws n x).length = n + 1 := by simp [addL]
theorem addL_at {ws : List Int} {n : Nat} {x : Int} {j : Nat} (h : j < n) : (addL ws n x).getD j 0 = ws.getD j 0 := by
  simp [addL, List.getD_eq_getElem?_getD, List.getElem?_append, h]
theorem addL_end (ws : List Int) (n : Nat) (x : Int) : (addL ws n x).getD n 0 = x := by
  simp [addL, List.getD_eq_getElem?_getD]
theorem addL_cells (ws : List Int) (n : Nat) (x : Int) : ((List.range n).map fun j => Value.int .i64 (ws.getD j 0)) ++ [Value.int .i64 x] = (addL ws n x).map (Value.int .i64) := by
  simp [addL]
theorem addL_cell {ws : List Int} {n : Nat} {x : Int} {i : Nat} (h : i < n + 1) : ((addL ws n x).map (Value.int .i64))[i]? = some (.int .i64 ((addL ws n x).getD i 0)) := by
  have : i < (addL ws n x).length := by rw [addL_len]; exact h
  simp [List.getD_eq_getElem?_getD, this]
theorem sumK_addL {ws : List Int} {n : Nat} {x : Int} : ∀ {k}, k ≤ n → sumK (addL ws n x) k = sumK ws k
  | 0, _ => rfl
  | k+1, h => by simp only [sumK]; rw [sumK_addL (by omega), addL_at (by omega)]
theorem sumK_addL1 (ws : List Int) (n : Nat) (x : Int) : sumK (addL ws n x) (n+1) = sumK ws n + x := by
  simp only [sumK]; rw [sumK_addL (Nat.le_refl _), addL_end]

/-- A committee with a member more, if it is one. -/
def moreOk (q' : Int) (ws : List Int) (n : Nat) (x : Int) : Bool := goodB q' (addL ws n x) (n+1)
def moreQ (q' : Int) (ws : List Int) (n : Nat) (x : Int) : Int := if moreOk q' ws n x then q' else 0
def moreN (q' : Int) (ws : List Int) (n : Nat) (x : Int) : Nat := if moreOk q' ws n x then n + 1 else 0
theorem moreQ_yes {q' ws n x} (h : moreOk q' ws n x = true) : moreQ q' ws n x = q' := if_pos h
theorem moreQ_no {q' ws n x} (h : moreOk q' ws n x = false) : moreQ q' ws n x = 0 := if_neg (by rw [h]; simp)
theorem moreN_yes {q' ws n x} (h : moreOk q' ws n x = true) : moreN q' ws n x = n + 1 := if_pos h
theorem moreN_no {q' ws n x} (h : moreOk q' ws n x = false) : moreN q' ws n x = 0 := if_neg (by rw [h]; simp)

theorem owns_set1 {w : World} {base : Nat} {e : TypeId} {size : Nat} {v : Value} {n : Nat} {xs : List Value} (h : w.ownsRow base e size v n xs) {p : Addr} (hn : ∀ j, v.ownBlock = some j → j ≠ p.block) (u : Value) : (w.setCell p u).ownsRow base e size v n xs := by
  obtain ⟨h1, h2⟩ := h
  refine ⟨h1, ?_⟩
  rcases h2 with h2 | ⟨g, cap, cur, hv, hg, hh, r⟩
  · exact Or.inl h2
  · exact Or.inr ⟨g, cap, cur, hv, hg, (Below.heap_setCell w p u g (hn g (by rw [hv]; rfl))).trans hh, r⟩
theorem addL_row {w : World} {base gg n cap : Nat} {ws : List Int} {x : Int} (h : w.ownsRow base 3 1 (.slice (some ⟨gg, 0, none⟩) (n + 1) cap) (n + 1) ((addL ws n x).map (Value.int .i64))) : Ints w gg (n + 1) (addL ws n x) :=
  Own.of_own h fun _ hi => addL_cell hi

/-- A committee, and with a member more it is one still. -/
def addOk (q q' : Int) (ws : List Int) (n : Nat) (x : Int) : Bool := goodB q ws n && moreOk q' ws n x
def addQ (q q' : Int) (ws : List Int) (n : Nat) (x : Int) : Int := if addOk q q' ws n x then q' else 0
def addN (q q' : Int) (ws : List Int) (n : Nat) (x : Int) : Nat := if addOk q q' ws n x then n + 1 else 0
theorem addOk_good {q q' ws n x} (h : goodB q ws n = true) : addOk q q' ws n x = moreOk q' ws n x := by unfold addOk; rw [h, Bool.true_and]
theorem addQ_good {q q' ws n x} (h : goodB q ws n = true) : addQ q q' ws n x = moreQ q' ws n x := by unfold addQ moreQ; rw [addOk_good h]
theorem addN_good {q q' ws n x} (h : goodB q ws n = true) : addN q q' ws n x = moreN q' ws n x := by unfold addN moreN; rw [addOk_good h]
theorem addOk_no {q q' ws n x} (h : goodB q ws n = false) : addOk q q' ws n x = false := by unfold addOk; rw [h, Bool.false_and]
theorem addQ_no {q q' ws n x} (h : goodB q ws n = false) : addQ q q' ws n x = 0 := if_neg (by rw [addOk_no h]; simp)
theorem addN_no {q q' ws n x} (h : goodB q ws n = false) : addN q q' ws n x = 0 := if_neg (by rw [addOk_no h]; simp)
theorem addN_le (q q' : Int) (ws : List Int) (n : Nat) (x : Int) : addN q q' ws n x ≤ 9 := by
  unfold addN
  cases h : addOk q q' ws n x with
  | false => simp
  | true =>
    unfold addOk moreOk at h
    simp at h
    have := h.2
    unfold goodB at this
    have := (of_decide_eq_true this).hi
    simp; omega
theorem dumN_le (q : Int) (ws : List Int) (n : Nat) : addN q q ws n 0 ≤ 9 := addN_le _ _ _ _ _
theorem vetoN_le (q : Int) (ws : List Int) (n : Nat) : addN q (q + sumK ws n) ws n (sumK ws n) ≤ 9 := addN_le _ _ _ _ _
theorem held_far {base base' : Nat} {w : World} {A : Option Addr} {m : Nat} {L : List Int} (h : Held base' w A m L) (hb : base ≤ base') {p p' : Addr} (hp : p.block < base') (hp' : p'.block < base') {u u' : Value} : Held base ((w.setCell p u).setCell p' u') A m L := by
  rcases h with h | ⟨g, hA, hg, hi⟩
  · exact Or.inl h
  · exact Or.inr ⟨g, hA, by omega, (hi.far (by omega) _).far (by omega) _⟩
theorem comAt_now {q' : Int} {m : Nat} {L : List Int} {ok : Bool} {w w0 w1 : World} {e : Ending} (h : ComAt q' m L ok w0 w1 e) (hb : Below w.heap.size w w0) : ComAt q' m L ok w w1 e := by
  obtain ⟨A, cap, he, hh, hb2⟩ := h
  refine ⟨A, cap, he, ?_, bfrom hb hb2⟩
  rcases hh with hh | ⟨g, hA, hg, hi⟩
  · exact Or.inl hh
  · exact Or.inr ⟨g, hA, Nat.le_trans hb.size hg, hi⟩

end Go.Proofs.Ytipplbcjdcdapab
