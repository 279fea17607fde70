/- Contracts of the given model: who wins, of all sets; how many win; proper and strong committees. -/
import Derived.Test.YtipplbcjdcdapabGreatS2
import Derived.Test.YtipplbcjdcdapabGreatW5
import Derived.Deep.AppendLies
namespace Go.Proofs.YtipplbcjdcdapabGreat
open Go.RowKit Vo

set_option maxHeartbeats 400000 in
theorem voAll_any (n : Nat) (w : World) (hn : n < 10) : Calls Tryz.prog 41 #[.int .i64 n] w fun e w' => e = .returned (.int .i64 ((2^n - 1 : Nat) : Int)) ∧ w = w' := by
  go_enter Tryz.func41, Tryz.ntmps41
  go_wp2
  go_ret
  refine ⟨ret_int ?_, rfl⟩
  have h512 := pow_lt (n := n) (by omega)
  have hpos := Nat.two_pow_pos n
  rw [show ((2:Int) ^ n) = ((2 ^ n : Nat) : Int) from by simp]
  generalize 2^n = N at *
  first | (rw [IntWalk.wrap64_in _ (by omega), IntWalk.wrap64_in _ (by omega)]; omega) | (rw [IntWalk.wrap64_in (N : Int) (by omega)]; rw [IntWalk.wrap64_in _ (by omega)]; omega)

/-- Who wins, of the first k sets. -/
def winsL (q : Int) (ws : List Int) (n k : Nat) : List Value := (List.range k).map fun j => Value.bool (winB q ws n j)
theorem winsL_succ (q : Int) (ws : List Int) (n k : Nat) : winsL q ws n (k+1) = winsL q ws n k ++ [.bool (winB q ws n k)] := by simp [winsL, List.range_succ]

def WinsAt (q : Int) (ws : List Int) (n : Nat) (w w' : World) (e : Ending) : Prop :=
  ∃ g cap, e = .returned (.slice (some ⟨g, 0, none⟩) (2^n : Nat) cap) ∧ w.heap.size ≤ g ∧ Own w' g 4 (2^n) (fun j => .bool (winB q ws n j)) ∧ Below w.heap.size w w'

end Go.Proofs.YtipplbcjdcdapabGreat
