/- Contracts of the program's chambers: what are some, which sets win all of them, or some. -/
import Derived.Test.YtkckefjpkhjeaabBc
import Derived.Test.YtkckefjpkhjeaabBf
import Derived.Test.YtkckefjpkhjeaabW5
namespace Go.Proofs.Ytkckefjpkhjeaab
open Go.RowKit Vo

theorem wins_known (q : Int) (A : Option Addr) (n cap : Nat) (ws : List Int) (s : Nat) (w : World) (hg : Vo.Good q ws n) (hs : s < 512) (hk : Known w A n ws) :
    Calls Try.prog 85 #[.agg #[.int .i64 q, .slice A n cap], .int .u64 s] w fun e w' => e = .returned (.bool (winB q ws n s)) ∧ Below w.heap.size w w' := by
  obtain ⟨b, off, rfl, hsl⟩ := hk.get hg.lo
  exact wins_any q b off n cap ws s w (by have := hg.hi; omega) hs hg.ok hsl
/-- Does a set win in each of these, in some of these? -/
def allP (C : List (Int × List Int)) (s : Nat) : Bool := !anyK (fun i => !winB (qAt C i) (wAt C i) (nAt C i) s) C.length
def someP (C : List (Int × List Int)) (s : Nat) : Bool := anyK (fun i => winB (qAt C i) (wAt C i) (nAt C i) s) C.length

/-- The function f tells of lists of committees and sets whether they are of the kind P. -/
structure AsksL (P : List (Int × List Int) → Nat → Bool) (f : Nat) : Prop where
  enters : ∀ args W, (callFunc f args).run Try.prog W = .ok (.enter f args) W
  gives : ∀ (W : World) (A : Option Addr) (n cp : Nat) (C : List (Int × List Int)) (s : Nat), n ≤ 9223372036854775807 → KCS W A n C → (∀ i, i < n → Vo.Good (qAt C i) (wAt C i) (nAt C i)) → s < 512 → Calls Try.prog f #[.slice A n cp, .int .u64 s] W fun e W' => e = .returned (.bool (P C s)) ∧ Below W.heap.size W W'
end Go.Proofs.Ytkckefjpkhjeaab
