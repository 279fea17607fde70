/- Contracts of CountWinning, IsProper, IsStrong, AreSameVotes. -/
import Derived.Test.YtipplbcjdcdapabGreatW3
import Derived.Shelf.Abstract
namespace Go.Proofs.YtipplbcjdcdapabGreat
open Go.RowKit Vo

/-- The function value (k, first, cap), called with a set of n members, answers whether it is of the kind p; it writes nothing that was there. -/
structure Asks (p : Nat → Bool) (k : Nat) (first cap : Array Value) (n : Nat) (w : World) : Prop where
  enters : ∀ args W, (callFunc k args).run Tryz.prog W = .ok (.enter k args) W
  gives : ∀ (W : World) (s : Nat), s < 2^n → Below w.heap.size w W → Calls Tryz.prog k (first.push (.int .u64 s) ++ cap) W fun e W' => e = .returned (.bool (p s)) ∧ Below W.heap.size W W'
theorem Asks.now {p k first cap n} {w w' : World} (h : Asks p k first cap n w) (hb : Below w.heap.size w w') : Asks p k first cap n w' :=
  ⟨h.enters, fun W s hs hb' => h.gives W s hs (bfrom hb hb')⟩

end Go.Proofs.YtipplbcjdcdapabGreat

namespace Go.Proofs.YtipplbcjdcdapabGreat
open Go.RowKit Vo

/-- Who wins, of whatever numbers. -/
def winB (q : Int) (ws : List Int) (n : Nat) (s : Nat) : Bool := decide (q ≤ wtK ws s n)

theorem wins_asks (q : Int) (b off n cap : Nat) (ws : List Int) (w : World) (hn : n < 10) (hok : InK 0 1000 ws n) (hsl : Sl w b off n ws) :
    Asks (winB q ws n) 115 #[.agg #[.int .i64 q, .slice (some ⟨b, off, none⟩) n cap]] #[] n w :=
  ⟨enters_of Tryz.func115 (by kernel_rfl) rfl, fun W s hs hb => wins_any q b off n cap ws s W hn (by have := pow_lt (n := n) (by omega); omega) hok (hsl.now hb)⟩

def cntB (q : Int) (ws : List Int) (n : Nat) : Int := if goodB q ws n then (cnt (winB q ws n) (2^n) : Nat) else 0
theorem cntB_yes {q ws n} (h : goodB q ws n = true) : cntB q ws n = (cnt (winB q ws n) (2^n) : Nat) := if_pos h
theorem cntB_no {q ws n} (h : goodB q ws n = false) : cntB q ws n = 0 := if_neg (by rw [h]; simp)

def properP (q : Int) (ws : List Int) (n : Nat) (s : Nat) : Bool := !winB q ws n s || !winB q ws n (co n s)
def strongP (q : Int) (ws : List Int) (n : Nat) (s : Nat) : Bool := winB q ws n s || winB q ws n (co n s)

def isProperB (q : Int) (ws : List Int) (n : Nat) : Bool := goodB q ws n && allK (properP q ws n) (2^n)
theorem isProperB_yes {q ws n} (h : goodB q ws n = true) : isProperB q ws n = allK (properP q ws n) (2^n) := by unfold isProperB; rw [h]; rfl
theorem isProperB_no {q ws n} (h : goodB q ws n = false) : isProperB q ws n = false := by unfold isProperB; rw [h]; rfl

def isStrongB (q : Int) (ws : List Int) (n : Nat) : Bool := goodB q ws n && allK (strongP q ws n) (2^n)
theorem isStrongB_yes {q ws n} (h : goodB q ws n = true) : isStrongB q ws n = allK (strongP q ws n) (2^n) := by unfold isStrongB; rw [h]; rfl
theorem isStrongB_no {q ws n} (h : goodB q ws n = false) : isStrongB q ws n = false := by unfold isStrongB; rw [h]; rfl

end Go.Proofs.YtipplbcjdcdapabGreat
