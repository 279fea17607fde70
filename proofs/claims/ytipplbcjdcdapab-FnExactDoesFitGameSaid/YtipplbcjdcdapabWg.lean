/- Contracts of the border of a rule that is an interface value. -/
import Derived.Test.YtipplbcjdcdapabWb
import Derived.Test.YtipplbcjdcdapabWh
import Derived.Test.YtipplbcjdcdapabR7
import Derived.Test.YtipplbcjdcdapabW5
import Derived.Test.YtipplbcjdcdapabD1
namespace Go.Proofs.Ytipplbcjdcdapab
open Go.RowKit Vo

/-- An interface value of type T around x: a rule for n members by which the sets of p win. -/
structure Rule (p : Nat → Bool) (n : Nat) (T : TypeId) (x : Value) (ke kw : Nat) (w : World) : Prop where
  asks : AsksM p T x kw n w
  ee : ∀ args W, (callFunc ke args).run Try.prog W = .ok (.enter ke args) W
  me : ∀ W : World, (method 282 T x "loop.example/g01275/impl.everybody").run Try.prog W = .ok (ke, x) W
  ge : ∀ W, Below w.heap.size w W → Calls Try.prog ke #[x] W fun e W' => e = .returned (.int .u64 ((2^n - 1 : Nat) : Int)) ∧ Below W.heap.size W W'
theorem Rule.now {p n T x ke kw} {w w' : World} (h : Rule p n T x ke kw w) (hb : Below w.heap.size w w') : Rule p n T x ke kw w' :=
  ⟨h.asks.now hb, h.ee, h.me, fun W hb' => h.ge W (bfrom hb hb')⟩

theorem mem_all (n : Nat) (hn : n < 10) : (mem (2^n - 1) 9).length = n := by
  have : n = 0 ∨ n = 1 ∨ n = 2 ∨ n = 3 ∨ n = 4 ∨ n = 5 ∨ n = 6 ∨ n = 7 ∨ n = 8 ∨ n = 9 := by omega
  rcases this with h | h | h | h | h | h | h | h | h | h <;> subst h <;> decide

theorem own_new (w : World) (v : Value) (t : TypeId) : Own (w.alloc (.cells #[v] t)) w.heap.size t 1 (fun _ => v) := by
  refine ⟨#[v], heap_alloc_new w _, Nat.le_refl _, ?_⟩
  intro i hi
  have : i = 0 := Nat.lt_one_iff.1 hi
  subst this
  rfl

/-- The border of a rule. -/
def BorderAt (p : Nat → Bool) (n : Nat) (w w' : World) (e : Ending) : Prop :=
  ∃ A c1 B c2, e = .returned (.agg #[.slice A (winL p n).length c1, .slice B (loseL p n).length c2]) ∧ SetsIn w' A (winL p n) ∧ (1 ≤ (winL p n).length → (winL p n).length ≤ c1 ∧ c1 ≤ maxLen) ∧ SetsIn w' B (loseL p n) ∧ Below w.heap.size w w'

end Go.Proofs.Ytipplbcjdcdapab
