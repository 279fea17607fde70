/- Contracts of the least and the greatest sum of sets of members, and of the least quota between. -/
import Derived.Test.YtipplbcjdcdapabWa
import Derived.Test.YtipplbcjdcdapabO2
import Derived.Test.YtipplbcjdcdapabW2
import Derived.Test.YtipplbcjdcdapabR3
import Derived.Laws.Small
namespace Go.Proofs.Ytipplbcjdcdapab
open Go.RowKit Vo

theorem ite_max (t x : Int) : (if t < x then x else t) = max t x := by split <;> omega
theorem ite_min (t x : Int) : (if x < t then x else t) = min t x := by split <;> omega
/-- A slice that holds these sets. -/
def SetsIn (w : World) (A : Option Addr) (L : List Nat) : Prop := ∃ g, (1 ≤ L.length → A = some ⟨g, 0, none⟩) ∧ (1 ≤ L.length → g < w.heap.size) ∧ ∀ j, j < L.length → w.cell? ⟨g, j, none⟩ = some (.int .u64 ((L.getD j 0 : Nat) : Int))
theorem SetsIn.now {w w' : World} {A : Option Addr} {L : List Nat} (h : SetsIn w A L) (hb : Below w.heap.size w w') : SetsIn w' A L := by
  obtain ⟨g, h1, h2, h3⟩ := h
  exact ⟨g, h1, fun h => Nat.lt_of_lt_of_le (h2 h) hb.size, fun j hj => (hb.cell (p := ⟨g, j, none⟩) (h2 (by omega))).trans (h3 j hj)⟩
theorem setsIn_row {w : World} {base cap : Nat} {A : Option Addr} {L : List Nat} (h : w.ownsRow base 60 1 (.slice A L.length cap) L.length (setsV L)) : SetsIn w A L := by
  by_cases h0 : L.length = 0
  · exact ⟨0, fun h => by omega, fun h => by omega, fun j hj => by omega⟩
  · obtain ⟨g, cp, hv, hg, _, _⟩ := owns_head h (by omega)
    obtain ⟨rfl, rfl⟩ : A = some ⟨g, 0, none⟩ ∧ cap = cp := by simpa using hv
    have hI : Own w g 60 L.length (fun i => .int .u64 ((L.getD i 0 : Nat) : Int)) := Own.of_own h fun i hi => by
      rw [setsV, List.getElem?_map, List.getD_eq_getElem?_getD, List.getElem?_eq_getElem hi]; rfl
    exact ⟨g, fun _ => rfl, fun _ => hI.lt, fun j hj => hI.cell hj⟩

/-- What quotaFor answers. -/
def quoQ (lo hi : Int) : Int := if lo ≤ hi then 0 else hi + 1
def quoOk (lo hi : Int) : Bool := !decide (lo ≤ hi)
end Go.Proofs.Ytipplbcjdcdapab
