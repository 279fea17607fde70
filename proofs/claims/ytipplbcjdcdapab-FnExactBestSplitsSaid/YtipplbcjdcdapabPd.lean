/- Contracts of the program's AddMember and GiveWeight. -/
import Derived.Test.YtipplbcjdcdapabWc
import Derived.Test.YtipplbcjdcdapabN13
import Derived.Test.YtipplbcjdcdapabMh
import Derived.Outline
namespace Go.Proofs.Ytipplbcjdcdapab
open Go.RowKit Vo

/-- The quota, and how many members, of an answer that may be none. -/
def qIf (ok : Bool) (q : Int) : Int := if ok then q else 0
def nIf (ok : Bool) (n : Nat) : Nat := if ok then n else 0
theorem nIf_le {ok : Bool} {n : Nat} (h : ok = true → n ≤ 9) : nIf ok n ≤ 9 := by
  cases ok with
  | false => simp [nIf]
  | true => simpa [nIf] using h rfl
theorem ComAt.fail {w w' : World} {Q : Int} {m : Nat} {L : List Int} (hb : Below w.heap.size w w') : ComAt (qIf false Q) (nIf false m) L false w w' (.returned (.tuple #[.agg #[.int .i64 0, .slice none 0 0], .bool false])) :=
  ⟨none, 0, rfl, Or.inl ⟨rfl, rfl⟩, hb⟩

end Go.Proofs.Ytipplbcjdcdapab

namespace Go.Proofs.Ytipplbcjdcdapab
open Go.RowKit Vo

/-- The weights when i has given x to j. -/
def giveL (ws : List Int) (n i j : Nat) (x : Int) : List Int := (List.range n).map fun k => if k = j then ws.getD k 0 + x else if k = i then ws.getD k 0 - x else ws.getD k 0
theorem giveL_at {ws : List Int} {n i j k : Nat} {x : Int} (h : k < n) : (giveL ws n i j x).getD k 0 = if k = j then ws.getD k 0 + x else if k = i then ws.getD k 0 - x else ws.getD k 0 := by
  simp [giveL, List.getD_eq_getElem?_getD, h]
theorem giveL_len (ws : List Int) (n i j : Nat) (x : Int) : (giveL ws n i j x).length = n := by simp [giveL]
/-- May the first member named give the second so much? -/
def giveAsk (q : Int) (ws : List Int) (n : Nat) (x y z : Int) : Bool := memOk q ws n x && memOk q ws n y && !(x == y) && inB z 0 (ws.getD x.toNat 0)
def giveOk (q : Int) (ws : List Int) (n : Nat) (x y z : Int) : Bool := giveAsk q ws n x y z && goodB q (giveL ws n x.toNat y.toNat z) n
theorem giveAsk_parts {q ws n x y z} (h : giveAsk q ws n x y z = true) : Vo.Good q ws n ∧ (0 ≤ x ∧ x < n) ∧ (0 ≤ y ∧ y < n) ∧ x ≠ y ∧ 0 ≤ z ∧ z ≤ ws.getD x.toNat 0 := by
  unfold giveAsk at h
  simp at h
  obtain ⟨⟨⟨h1, h2⟩, h3⟩, h4⟩ := h
  have a := memOk_parts h1
  have b := memOk_parts h2
  unfold inB at h4
  simp at h4
  exact ⟨a.1, a.2, b.2, h3, h4.1, h4.2⟩
theorem giveN_le (q : Int) (ws : List Int) (n : Nat) (x y z : Int) : nIf (giveOk q ws n x y z) n ≤ 9 := nIf_le fun h => by
  unfold giveOk at h
  simp at h
  exact (giveAsk_parts h.1).1.hi
end Go.Proofs.Ytipplbcjdcdapab
