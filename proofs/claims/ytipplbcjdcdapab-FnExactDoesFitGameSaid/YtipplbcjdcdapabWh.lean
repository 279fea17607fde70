/- Contracts of the least sets that win by the method of an interface value. -/
import Derived.Test.YtipplbcjdcdapabR3
namespace Go.Proofs.Ytipplbcjdcdapab
open Go.RowKit Vo

/-- The method wins of the interface value of type T around x (it is function kw): asked with a set of n members, it answers whether it is of the kind p; it writes nothing that was there. -/
structure AsksM (p : Nat → Bool) (T : TypeId) (x : Value) (kw : Nat) (n : Nat) (w : World) : Prop where
  enters : ∀ args W, (callFunc kw args).run Try.prog W = .ok (.enter kw args) W
  mw : ∀ W : World, (method 282 T x "loop.example/g01275/impl.wins").run Try.prog W = .ok (kw, x) W
  gives : ∀ (W : World) (s : Nat), s < 2^n → Below w.heap.size w W → Calls Try.prog kw #[x, .int .u64 s] W fun e W' => e = .returned (.bool (p s)) ∧ Below W.heap.size W W'
theorem AsksM.now {p T x kw n} {w w' : World} (h : AsksM p T x kw n w) (hb : Below w.heap.size w w') : AsksM p T x kw n w' :=
  ⟨h.enters, h.mw, fun W s hs hb' => h.gives W s hs (bfrom hb hb')⟩

end Go.Proofs.Ytipplbcjdcdapab
