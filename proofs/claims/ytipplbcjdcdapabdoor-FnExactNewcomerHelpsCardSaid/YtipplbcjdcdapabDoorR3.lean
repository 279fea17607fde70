/- Contract of the list of least sets of a kind. -/
import Derived.Test.YtipplbcjdcdapabDoorP1
import Derived.Test.YtipplbcjdcdapabDoorW5
import Derived.Deep.AppendLies
import Derived.Test.YtipplbcjdcdapabDoorW2
namespace Go.Proofs.YtipplbcjdcdapabDoor
open Go.RowKit Vo

theorem infoSet : (Tryd.prog.info? 44).map (fun i => (i.zero, i.size, i.bytes)) = some (some (.int .u64 0), 1, 8) := by kernel_rfl

theorem more_len (n d s : Nat) : (more n d s).length + 1 = 2 ^ d := by
  induction d generalizing s with
  | zero => rfl
  | succ d ih =>
    have h1 := ih (s ||| 2^(n-(d+1)))
    have h2 := ih s
    simp only [more, List.length_cons, List.length_append, Nat.pow_succ]; omega

/-- Sets as values. -/
def setsV (L : List Nat) : List Value := L.map fun s : Nat => Value.int .u64 (s : Int)
/-- A row of the call's own of these sets; below the base nothing has turned. -/
def SetsAt (base : Nat) (L : List Nat) (w w' : World) (e : Ending) : Prop :=
  ∃ A cap, e = .returned (.slice A L.length cap) ∧ w'.ownsRow base 44 1 (.slice A L.length cap) L.length (setsV L) ∧ Below base w w'

end Go.Proofs.YtipplbcjdcdapabDoor

namespace Go.Proofs.YtipplbcjdcdapabDoor
open Go.RowKit Vo

/-- The set without the member k. -/
def out (s k : Nat) : Nat := s &&& (18446744073709551615 - 2 ^ k)
theorem out_le (s k : Nat) : out s k ≤ s := Nat.and_le_left
theorem testBit_out {s k j : Nat} (hk : k < 64) (hj : j < 64) : (out s k).testBit j = (s.testBit j && decide (j ≠ k)) := by
  unfold out
  have hp : 2 ^ k < 2 ^ 64 := Nat.pow_lt_pow_right (by omega) hk
  rw [Nat.testBit_and]
  have := @Nat.testBit_two_pow_sub_succ (2^k) 64 hp j
  rw [show 18446744073709551615 - 2^k = 2^64 - (2^k + 1) by omega, this, Nat.testBit_two_pow]
  simp [hj]
  by_cases h : k = j
  · subst h; simp
  · have h2 : j ≠ k := fun e => h e.symm
    simp [h, h2]

theorem and_not_pow (s k : Nat) (hk : k < 10) (hs : s < 512) : bits BinOp.andNot IntKind.u64 (s : Int) (IntKind.u64.wrap (2 ^ k)) = ((out s k : Nat) : Int) := by
  have h1 : (2:Nat)^k ≤ 2^9 := Nat.pow_le_pow_right (by omega) (by omega)
  have e : IntKind.u64.wrap (2 ^ k) = ((2 ^ k : Nat) : Int) := by
    have : k = 0 ∨ k = 1 ∨ k = 2 ∨ k = 3 ∨ k = 4 ∨ k = 5 ∨ k = 6 ∨ k = 7 ∨ k = 8 ∨ k = 9 := by omega
    rcases this with h | h | h | h | h | h | h | h | h | h <;> subst h <;> rfl
  rw [e, u64_andNot_nat _ _ (by omega) (by omega)]; rfl

/-- No set that one member leaves is of the kind. -/
def noneOut (p : Nat → Bool) (s : Nat) (k : Nat) : Bool := allK (fun j => !(s.testBit j && p (out s j))) k

end Go.Proofs.YtipplbcjdcdapabDoor

namespace Go.Proofs.YtipplbcjdcdapabDoor
open Go.RowKit Vo

/-- Is s of the kind, and no set that one member leaves? -/
def leastP (p : Nat → Bool) (n : Nat) (s : Nat) : Bool := p s && noneOut p s n
theorem filter_take_succ (P : Nat → Bool) (L : List Nat) (j : Nat) (h : j < L.length) : (L.take (j+1)).filter P = (L.take j).filter P ++ if P (L.getD j 0) then [L.getD j 0] else [] := by
  rw [List.take_add_one, List.filter_append]
  congr 1
  rw [List.getElem?_eq_getElem h, List.getD_eq_getElem?_getD, List.getElem?_eq_getElem h]
  simp [List.filter_cons]
theorem filter_take_le (P : Nat → Bool) (L : List Nat) (j : Nat) : ((L.take j).filter P).length ≤ j := by
  have h1 := List.length_filter_le P (L.take j)
  have h2 := List.length_take_le j L
  omega
theorem inOrder_len (n : Nat) : (inOrder n).length = 2 ^ n := by
  have := more_len n n 0
  simp [inOrder]; omega

end Go.Proofs.YtipplbcjdcdapabDoor
