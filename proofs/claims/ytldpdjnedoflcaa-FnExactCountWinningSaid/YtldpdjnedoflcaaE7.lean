/- Contracts of putting sets in order: slices.Values, slices.SortedFunc, inOrder. -/
import Derived.Test.YtldpdjnedoflcaaE6
import Derived.Test.YtldpdjnedoflcaaB1
namespace Go.Proofs.Ytldpdjnedoflcaa
open Go.RowKit Vo
attribute [local go_sem] Oper.semAt_some

/-- Sets put in order, in a slice of the call's own. -/
def Ordered (S : List Set9 → Prop) (w w' : World) (e : Ending) : Prop :=
  ∃ (A : Option Addr) (cap : Nat) (ss : List Set9) (S' : List Nat), e = .returned (.slice A S'.length cap) ∧ S ss ∧ S'.Perm (ss.map (·.1)) ∧ ((ss.map (·.1)).Nodup → Sorted (S'.map fun t => mem t 9)) ∧ w'.ownsRow w.heap.size 51 1 (.slice A S'.length cap) S'.length (setsV S') ∧ Below w.heap.size w w'

theorem enc_map (ss : List Set9) : ss.map (fun x => Value.int .u64 (x.1 : Int)) = setsV (ss.map (·.1)) := by
  unfold setsV; rw [List.map_map]; rfl
end Go.Proofs.Ytldpdjnedoflcaa
