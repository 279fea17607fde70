/- Contracts of the program's GiverGains. -/
import Derived.Test.YtipplbcjdcdapabDoorPv
import Derived.Test.YtipplbcjdcdapabDoorPn
import Derived.Outline
namespace Go.Proofs.YtipplbcjdcdapabDoor
open Go.RowKit Vo

/-- Whether the giver gains. -/
def gvG (q : Int) (ws : List Int) (n : Nat) (x y z : Int) : Int := if giveOk q ws n x y z then gainV q ws n (2^x.toNat) q (giveL ws n x.toNat y.toNat z) n (2^x.toNat) else 0
theorem gvG_yes {q ws n x y z} (h : giveOk q ws n x y z = true) : gvG q ws n x y z = gainV q ws n (2^x.toNat) q (giveL ws n x.toNat y.toNat z) n (2^x.toNat) := if_pos h
theorem gvG_no {q ws n x y z} (h : giveOk q ws n x y z = false) : gvG q ws n x y z = 0 := if_neg (by rw [h]; simp)
theorem giveOk_parts {q ws n x y z} (h : giveOk q ws n x y z = true) : giveAsk q ws n x y z = true ∧ Vo.Good q (giveL ws n x.toNat y.toNat z) n := by
  unfold giveOk at h
  simp at h
  exact ⟨h.1, of_decide_eq_true h.2⟩
theorem Held.known {base : Nat} {w : World} {A : Option Addr} {m : Nat} {L : List Int} (h : Held base w A m L) : Known w A m L := by
  rcases h with ⟨h1, h2⟩ | ⟨g, hA, _, hi⟩
  · subst h1; subst h2
    exact ⟨0, 0, fun h => absurd h (by omega), fun h => absurd h (by omega)⟩
  · subst hA; exact Known.of (Ints.sl hi)

end Go.Proofs.YtipplbcjdcdapabDoor
