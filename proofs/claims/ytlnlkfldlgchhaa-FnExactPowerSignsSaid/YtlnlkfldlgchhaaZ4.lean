/- Contracts of the program's least winning sets and of what they give to members. -/
import Derived.Test.YtlnlkfldlgchhaaA1
import Derived.Test.YtlnlkfldlgchhaaZ1
import Derived.Test.YtlnlkfldlgchhaaN5
import Derived.Test.YtlnlkfldlgchhaaB1
import Derived.Outline
namespace Go.Proofs.Ytlnlkfldlgchhaa
open Go.RowKit Vo

/-- The function value (k, first, cap), called with a set of a list, answers a number; it writes nothing that was there. -/
structure Gives (g : Nat → Nat) (L : List Nat) (k : Nat) (first cap : Array Value) (w : World) : Prop where
  enters : ∀ args W, (callFunc k args).run Try.prog W = .ok (.enter k args) W
  gives : ∀ (W : World) (s : Nat), s ∈ L → Below w.heap.size w W → Calls Try.prog k (first.push (.int .u64 s) ++ cap) W fun e W' => e = .returned (.int .i64 (g s : Nat)) ∧ Below W.heap.size W W'
theorem Gives.now {g L k first cap} {w w' : World} (h : Gives g L k first cap w) (hb : Below w.heap.size w w') : Gives g L k first cap w' :=
  ⟨h.enters, fun W s hs hb' => h.gives W s hs (bfrom hb hb')⟩

def leastSetCountsL (q : Int) (ws : List Int) (n : Nat) : List Int := okL (goodB q ws n) (perL (gainL (fun _ => 1) (lwL q ws n)) n)
theorem leastSetCountsL_len (q : Int) (ws : List Int) (n : Nat) : (leastSetCountsL q ws n).length ≤ 1048576 := by
  by_cases hg : Vo.Good q ws n
  · exact okL_len (by rw [perL_len]; have := hg.hi; omega)
  · unfold leastSetCountsL; rw [okL_no (goodB_false hg)]; simp
end Go.Proofs.Ytlnlkfldlgchhaa
