/- Texts of J6, Va. -/
import Derived.Test.YtnldodnpakpeeaaPkQ33
import Derived.Test.YtnldodnpakpeeaaPkQ28
import Derived.Outline
import Derived.Maps.AppendAt
namespace Go.Proofs.Ytnldodnpakpeeaa
open Go.RowKit Vo

theorem proper_all (p : Nat → Bool) (q : Nat) : allK (fun s => !p s || !p (2^q - 1 - s)) (2^q) = allK (properS p q) (2^q) := rfl
theorem strong_all (p : Nat → Bool) (q : Nat) : allK (fun s => !!p (2^q - 1 - s) || !!p (2^q - 1 - (2^q - 1 - s))) (2^q) = allK (strongS p q) (2^q) :=
  allK_congr fun s hs => by
    unfold strongS co
    rw [show 2^q - 1 - (2^q - 1 - s) = s from by omega, Bool.not_not, Bool.not_not, Bool.or_comm]
end Go.Proofs.Ytnldodnpakpeeaa

namespace Go.Proofs.Ytnldodnpakpeeaa
open Go.RowKit Vo

/-- Whether a part of set f with one member less wins. -/
def undB (S f : Nat) : Nat → Bool
  | 0 => false
  | i+1 => undB S f i || (f.testBit i && S.testBit (f - 2^i))
def leafB (N S : Nat) (pr : Bool) : Bool := (!S.testBit (N-1) || S.testBit 0) || (pr && !allK (fun s => !S.testBit s || !S.testBit (N - 1 - s)) N)
/-- How many games there are whose first sets win as the bits of S say. -/
def eachK (N n : Nat) (pr : Bool) : Nat → Nat → Nat
  | 0, S => if leafB N S pr then 0 else 1
  | d+1, S => (if undB S (N-(d+1)) n then 0 else eachK N n pr d S) + eachK N n pr d (S + 2^(N-(d+1)))
theorem eachK_le (N n : Nat) (pr : Bool) : ∀ d S, eachK N n pr d S ≤ 2^d
  | 0, S => by unfold eachK; split <;> simp
  | d+1, S => by
    unfold eachK
    have h1 := eachK_le N n pr d S
    have h2 := eachK_le N n pr d (S + 2^(N-(d+1)))
    rw [Nat.pow_succ]
    split <;> omega
theorem bit_put {S f j : Nat} (h : S < 2^f) : (S + 2^f).testBit j = if j = f then true else S.testBit j := by
  rw [Nat.add_comm]
  by_cases e : j = f
  · subst e
    rw [if_pos rfl, Nat.testBit_two_pow_add_eq, Nat.testBit_lt_two_pow h]; rfl
  · rw [if_neg e]
    rcases Nat.lt_or_ge j f with hl | hl
    · exact Nat.testBit_two_pow_add_gt hl S
    · have h1 : 2^f + S < 2^j := by
        have : 2^(f+1) ≤ 2^j := Nat.pow_le_pow_right (by omega) (by omega)
        rw [Nat.pow_succ] at this
        omega
      have h2 : S < 2^j := by omega
      rw [Nat.testBit_lt_two_pow h1, Nat.testBit_lt_two_pow h2]
theorem grown_below {w w' : World} {r : Option Nat} (h : Below w.heap.size w w') : w.grownBy w' r := ⟨h.os, h.tape, h.output, h.size, fun k hk _ => h.block k hk⟩
theorem grown_set7 (w : World) (g i : Nat) (v : Value) : w.grownBy (w.setCell ⟨g, i, none⟩ v) (some g) :=
  ⟨rfl, rfl, rfl, by simp [World.setCell], fun k _ hk => Below.heap_setCell _ _ _ _ (fun e => hk (by rw [e]))⟩
theorem Own.ext {w : World} {g : Nat} {t : TypeId} {n : Nat} {f f' : Nat → Value} (h : Own w g t n f) (e : ∀ j, j < n → f j = f' j) : Own w g t n f' := by
  obtain ⟨c, h1, h2, h3⟩ := h
  exact ⟨c, h1, h2, fun i hi => by rw [h3 i hi, e i hi]⟩
abbrev bits (S : Nat) : Nat → Value := fun j => .bool (S.testBit j)

end Go.Proofs.Ytnldodnpakpeeaa
