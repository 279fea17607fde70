/- Contracts of swings, where the function that is asked may remember what it answered. -/
import Derived.Test.YtkckefjpkhjeaabBd
namespace Go.Proofs.Ytkckefjpkhjeaab
open Go.RowKit Vo

theorem Asks.r {p : Nat → Bool} {k : Nat} {first cap : Array Value} {n : Nat} {w : World} (h : Asks p k first cap n w) : AsksR p k first cap n w.heap.size none (fun W => Below w.heap.size w W) :=
  ⟨h.enters, fun _ h => (by cases h), fun _ _ h k => h.trans k, fun _ h => h.size, fun W s hs hI => (h.gives W s hs hI).mono fun _ _ ⟨he, hb⟩ => ⟨he, bfrom hI hb, gof none hb (Nat.le_refl _)⟩⟩
theorem below_of_grown {w w' : World} (h : w.grownBy w' none) : Below w.heap.size w w' := ⟨h.os, h.tape, h.output, h.size, fun k hk => h.block k hk (by simp)⟩

theorem Box1.gkeep {t : TypeId} {w w' : World} {g B : Nat} {v : Value} (h : Box1 t w g v) (hb : Below B w w') (hg : g < B) : Box1 t w' g v := (hb.block g hg).trans h
theorem Box1.ggrow {t : TypeId} {w w' : World} {g : Nat} {v : Value} {row : Option Nat} (h : Box1 t w g v) (hb : w.grownBy w' row) (hg : some g ≠ row) : Box1 t w' g v := (hb.block g h.lt hg).trans h

/-- The function value (k, first, cap), called with a member, answers a number; of what was there it turns one block alone. -/
structure NumsR (f : Nat → Nat) (k : Nat) (first cap : Array Value) (n B : Nat) (row : Option Nat) (I : World → Prop) : Prop where
  enters : ∀ args W, (callFunc k args).run Try.prog W = .ok (.enter k args) W
  low : ∀ r, row = some r → r < B
  keeps : ∀ W W', I W → Below B W W' → I W'
  big : ∀ W, I W → B ≤ W.heap.size
  gives : ∀ (W : World) (j : Nat), j < n → I W → Calls Try.prog k (first.push (.int .i64 j) ++ cap) W fun e W' => e = .returned (.int .i64 (f j : Nat)) ∧ I W' ∧ W.grownBy W' row

/-- A row of the call's own of these numbers; of what was there one block alone has turned. -/
def IntsAtR (L : List Int) (row : Option Nat) (I : World → Prop) (w w' : World) (e : Ending) : Prop :=
  ∃ A cap, e = .returned (.slice A L.length cap) ∧ w'.ownsRow w.heap.size 3 1 (.slice A L.length cap) L.length (L.map (Value.int .i64)) ∧ I w' ∧ w.grownBy w' row

end Go.Proofs.Ytkckefjpkhjeaab
