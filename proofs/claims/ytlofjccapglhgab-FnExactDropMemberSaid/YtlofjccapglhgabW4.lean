/- Contracts of what asks all sets: how many are of a kind, whether all are; the kinds of committees as function values. -/
import Derived.Test.YtlofjccapglhgabW3
import Derived.Shelf.Abstract
namespace Go.Proofs.Ytlofjccapglhgab
open Go.RowKit Vo

/-- The function value (k, first, cap), called with a set of n members, answers whether it is of the kind p; it writes nothing that was there. -/
structure Asks (p : Nat → Bool) (k : Nat) (first cap : Array Value) (n : Nat) (w : World) : Prop where
  enters : ∀ args W, (callFunc k args).run Try.prog W = .ok (.enter k args) W
  gives : ∀ (W : World) (s : Nat), s < 2^n → Below w.heap.size w W → Calls Try.prog k (first.push (.int .u64 s) ++ cap) W fun e W' => e = .returned (.bool (p s)) ∧ Below W.heap.size W W'
theorem Asks.now {p k first cap n} {w w' : World} (h : Asks p k first cap n w) (hb : Below w.heap.size w w') : Asks p k first cap n w' :=
  ⟨h.enters, fun W s hs hb' => h.gives W s hs (bfrom hb hb')⟩

end Go.Proofs.Ytlofjccapglhgab
