/- Texts of LF, E6. -/
import Derived.Shelf.SlLaysF
import Derived.Ground.SlsfProg
import Derived.Test.YtnldodnpakpeeaaGreatProg
import Derived.RangeFuncBox
import Derived.RangeFuncLeaves
import Derived.Shelf.Abstract
import Derived.OwnWalkIn
import Derived.TacticsInMore
import Derived.LoopNIn
import Derived.LoopIn
import Derived.Maps.AppendAt
import Derived.Test.YtnldodnpakpeeaaGreatPkQ15
import Derived.Test.YtnldodnpakpeeaaGreatPkQ07
import Derived.Shelf.SlSortCmp.NoneTotal
namespace Go.Proofs.YtnldodnpakpeeaaGreat
open Go.Shelf
end Go.Proofs.YtnldodnpakpeeaaGreat

namespace Go.Proofs.YtnldodnpakpeeaaGreat
open Go.RowKit Vo

/-- Sets, as they lie in slices of sets. -/
abbrev Set9 : Type := { s : Nat // s < 512 }
instance : Inhabited Set9 := ⟨⟨0, by omega⟩⟩
def encS (x : Set9) : Value := .int .u64 (x.1 : Int)
def cfS (x y : Set9) : Int := ordC x.1 y.1
theorem ltS (x y : Set9) : Go.Proofs.ltOf cfS x y = before (mem x.1 9) (mem y.1 9) := by
  unfold Go.Proofs.ltOf cfS
  rw [Bool.eq_iff_iff, decide_eq_true_iff]
  exact ordC_neg
theorem swoS : Sort.SWO (Go.Proofs.ltOf cfS) where
  irrefl x := by rw [ltS]; exact before_irrefl _
  trans x y z h1 h2 := by rw [ltS] at *; exact before_trans h1 h2
  ntrans x y z h1 h2 := by
    rw [ltS] at *
    cases h : before (mem x.1 9) (mem z.1 9)
    · rfl
    · by_cases e : mem x.1 9 = mem y.1 9
      · rw [e] at h; rw [h] at h2; exact h2
      · have h3 := before_total h1 e
        have h4 := before_trans h3 h
        rw [h4] at h2; exact h2
theorem totS (x y : Set9) (h1 : Go.Proofs.ltOf cfS x y = false) (h2 : Go.Proofs.ltOf cfS y x = false) : x = y := by
  rw [ltS] at *
  by_cases e : mem x.1 9 = mem y.1 9
  · exact Subtype.ext (mem_inj (n := 9) x.2 y.2 e)
  · rw [before_total h1 e] at h2; cases h2

theorem heap_sortedS {w : World} {g n : Nat} {os : Array Obj} {cur : Array Value} {e : TypeId} {fr : Nat × Nat} (d : Array Set9) (hb : w.heap[g]? = some (.cells cur e fr)) :
    (Sort.grow (Sort.putRow encS (Sort.ahead w n) g 0 d) os).heap[g]? = some (.cells (Sort.putCells encS 0 d cur) e fr) := by
  have hg : g < w.heap.size := (Array.getElem?_eq_some_iff.1 hb).1
  rw [Sort.heap_grow_old _ _ (by simpa [Sort.putRow, Sort.mapBlock, Sort.ahead] using hg)]
  simp [Sort.putRow, Sort.mapBlock, Sort.ahead, Array.getElem?_modify, hb, Sort.onCells]
theorem grownBy_sortedS {w : World} {g n : Nat} {os : Array Obj} (d : Array Set9) : w.grownBy (Sort.grow (Sort.putRow encS (Sort.ahead w n) g 0 d) os) (some g) := by
  refine ⟨rfl, rfl, rfl, by simp [Sort.grow, Sort.putRow, Sort.mapBlock, Sort.ahead], fun k hk hne => ?_⟩
  rw [Sort.heap_grow_old _ _ (by simpa [Sort.putRow, Sort.mapBlock, Sort.ahead] using hk)]
  have : g ≠ k := fun e => hne (by rw [e])
  simp [Sort.putRow, Sort.mapBlock, Sort.ahead, Array.getElem?_modify, this]
theorem take_putCellsS (cur : Array Value) (ts : List Set9) (h : ts.length ≤ cur.size) : (Sort.putCells encS 0 ts.toArray cur).toList.take ts.length = ts.map encS := by
  apply List.ext_getElem?
  intro j
  by_cases hj : j < ts.length
  · rw [List.getElem?_take_of_lt hj, Array.getElem?_toList]
    simp [Sort.putCells, hj, show j < cur.size by omega]
  · rw [List.getElem?_take_eq_none (by omega), List.getElem?_eq_none (by simp; omega)]

/-- Sets of numbers below 512. -/
def subL : (L : List Nat) → (∀ s ∈ L, s < 512) → List Set9
  | [], _ => []
  | s :: L, h => ⟨s, h s (by simp)⟩ :: subL L (fun t ht => h t (by simp [ht]))
theorem subL_val : ∀ (L : List Nat) (h : ∀ s ∈ L, s < 512), (subL L h).map (·.1) = L
  | [], _ => rfl
  | s :: L, h => by simp [subL, subL_val L]
theorem subL_enc (L : List Nat) (h : ∀ s ∈ L, s < 512) : (subL L h).map encS = setsV L := by
  have := subL_val L h
  unfold setsV
  conv => rhs; rw [← this]
  rw [List.map_map]; rfl
theorem subL_len (L : List Nat) (h : ∀ s ∈ L, s < 512) : (subL L h).length = L.length := by
  have := congrArg List.length (subL_val L h); simpa using this

end Go.Proofs.YtnldodnpakpeeaaGreat

namespace Go.Proofs.YtnldodnpakpeeaaGreat
open Go.RowKit Vo
attribute [local go_sem] Oper.semAt_some

theorem keeps_walks {W W' : World} (h : KeepsOthers W W') : KeepsWalks W W' := ⟨h.size, fun k o hk ho => h.same k o hk (Obj.not_cells_of_walk ho)⟩

/-- What is collected: the sets that came, in a slice of the call's own. -/
def Collects (S : List Set9 → Prop) (w w' : World) (e : Ending) : Prop :=
  ∃ (v : Value) (ss : List Set9), e = .returned v ∧ S ss ∧ w'.ownsRow w.heap.size 69 1 v ss.length (ss.map fun x => Value.int .u64 (x.1 : Int)) ∧ (v = .slice none 0 0 ↔ ss = []) ∧ Below w.heap.size w w'

/-- The iterator over a slice of sets, at each loop's body that keeps what lay below n₀. -/
def upS (D : List Set9) (k : Nat) : List Set9 := D.take k
theorem upS_succ {D : List Set9} {k : Nat} (h : k < D.length) : upS D (k + 1) = upS D k ++ [D[k]] := by
  unfold upS; rw [List.take_add_one, List.getElem?_eq_getElem h]; rfl

end Go.Proofs.YtnldodnpakpeeaaGreat
