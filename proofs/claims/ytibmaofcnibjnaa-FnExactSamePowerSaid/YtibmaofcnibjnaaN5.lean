/- Contracts of SwingsOf, the program's and the model's. -/
import Derived.Test.YtibmaofcnibjnaaN4
import Derived.Test.YtibmaofcnibjnaaK1
import Derived.Deep.RegionHeld3
namespace Go.Proofs.Ytibmaofcnibjnaa
open Go.RowKit Vo

/-- The function value (k, none bound), called with a committee, answers with these integers in memory of its own. -/
structure Lists (L : List Int) (k : Nat) (c : Value) (w : World) : Prop where
  enters : ∀ args W, (callFunc k args).run Try.prog W = .ok (.enter k args) W
  gives : ∀ (W : World), Below w.heap.size w W → Calls Try.prog k #[c] W fun e W' => IntsAt L W W' e
theorem Lists.now {L k c} {w w' : World} (h : Lists L k c w) (hb : Below w.heap.size w w') : Lists L k c w' := ⟨h.enters, fun W hb' => h.gives W (bfrom hb hb')⟩

def okL (ok : Bool) (L : List Int) : List Int := if ok then L else []
theorem okL_yes {ok L} (h : ok = true) : okL ok L = L := if_pos h
theorem okL_no {ok L} (h : ok = false) : okL ok L = [] := if_neg (by rw [h]; simp)
theorem okL_len {ok L} {N : Nat} (h : L.length ≤ N) : (okL ok L).length ≤ N := by unfold okL; split; exact h; simp

/-- How many swings each member has. -/
def swingN (q : Int) (ws : List Int) (n : Nat) (k : Nat) : Nat := cnt (swP (winB q ws n) k) (2^n)
def swingsL (q : Int) (ws : List Int) (n : Nat) : List Int := okL (goodB q ws n) (perL (swingN q ws n) n)

theorem swingsL_len (q : Int) (ws : List Int) (n : Nat) : (swingsL q ws n).length ≤ 1048576 := by
  by_cases hg : Vo.Good q ws n
  · exact okL_len (by rw [perL_len]; have := hg.hi; omega)
  · unfold swingsL; rw [okL_no (goodB_false hg)]; simp
end Go.Proofs.Ytibmaofcnibjnaa
