/- The program's sums of sets. -/
import Derived.Test.YtkeiojfnjgjliaaUa
import Derived.Test.YtkeiojfnjgjliaaO2
import Derived.Test.YtkeiojfnjgjliaaT2
import Derived.Deep.AppendLies
import Derived.Outline
namespace Go.Proofs.Ytkeiojfnjgjliaa
open Go.RowKit Vo

def intsV (L : List Int) : List Value := L.map (Value.int .i64)
theorem intsV_len (L : List Int) : (intsV L).length = L.length := by simp [intsV]
theorem heap_sortedI {w : World} {g n : Nat} {os : Array Obj} {cur : Array Value} {e : TypeId} {fr : Nat × Nat} (d : Array Int) (hb : w.heap[g]? = some (.cells cur e fr)) :
    (Sort.grow (Sort.putRow (Value.int .i64) (Sort.ahead w n) g 0 d) os).heap[g]? = some (.cells (Sort.putCells (Value.int .i64) 0 d cur) e fr) := by
  have hg : g < w.heap.size := (Array.getElem?_eq_some_iff.1 hb).1
  rw [Sort.heap_grow_old _ _ (by simpa [Sort.putRow, Sort.mapBlock, Sort.ahead] using hg)]
  simp [Sort.putRow, Sort.mapBlock, Sort.ahead, Array.getElem?_modify, hb, Sort.onCells]
theorem grownBy_sortedI {w : World} {g n : Nat} {os : Array Obj} (d : Array Int) : w.grownBy (Sort.grow (Sort.putRow (Value.int .i64) (Sort.ahead w n) g 0 d) os) (some g) := by
  refine ⟨rfl, rfl, rfl, by simp [Sort.grow, Sort.putRow, Sort.mapBlock, Sort.ahead], fun k hk hne => ?_⟩
  rw [Sort.heap_grow_old _ _ (by simpa [Sort.putRow, Sort.mapBlock, Sort.ahead] using hk)]
  have : g ≠ k := fun e => hne (by rw [e])
  simp [Sort.putRow, Sort.mapBlock, Sort.ahead, Array.getElem?_modify, this]
theorem heap_putI {w : World} {g n : Nat} {cur : Array Value} {e : TypeId} {fr : Nat × Nat} (d : Array Int) (hb : w.heap[g]? = some (.cells cur e fr)) :
    (Sort.putRow (Value.int .i64) (Sort.ahead w n) g 0 d).heap[g]? = some (.cells (Sort.putCells (Value.int .i64) 0 d cur) e fr) := by
  simp [Sort.putRow, Sort.mapBlock, Sort.ahead, Array.getElem?_modify, hb, Sort.onCells]
theorem grownBy_putI {w : World} {g n : Nat} (d : Array Int) : w.grownBy (Sort.putRow (Value.int .i64) (Sort.ahead w n) g 0 d) (some g) := by
  refine ⟨rfl, rfl, rfl, by simp [Sort.putRow, Sort.mapBlock, Sort.ahead], fun k _ hne => ?_⟩
  have : g ≠ k := fun e => hne (by rw [e])
  simp [Sort.putRow, Sort.mapBlock, Sort.ahead, Array.getElem?_modify, this]
theorem take_putCellsI (cur : Array Value) (ts : List Int) (m : Nat) (h : ts.length ≤ cur.size) (hm : m ≤ ts.length) : (Sort.putCells (Value.int .i64) 0 ts.toArray cur).toList.take m = (ts.take m).map (Value.int .i64) := by
  apply List.ext_getElem?
  intro j
  by_cases hj : j < m
  · rw [List.getElem?_take_of_lt hj, Array.getElem?_toList]
    simp [Sort.putCells, show j < ts.length by omega, show j < cur.size by omega, hj]
  · rw [List.getElem?_take_eq_none (by omega), List.getElem?_eq_none (by simp; omega)]
theorem holds_row {w : World} {base g k cap : Nat} {zs : List Int} (hk : k = zs.length) (hown : w.ownsRow base 3 1 (.slice (some ⟨g, 0, none⟩) k cap) k (intsV zs)) : Sort.Holds (Value.int .i64) w g 0 zs.toArray ∧ g < w.heap.size ∧ base ≤ g ∧ k ≤ cap ∧ ∃ cur, w.heap[g]? = some (.cells cur 3 (0, 0)) ∧ cap ≤ maxLen ∧ cur.size = cap * 1 := by
  rcases hown.2 with ⟨h, _⟩ | ⟨g', cap2, cur, hv2, hbg, hgb, r1, r2, r3, r4⟩
  · cases h
  obtain ⟨rfl, rfl⟩ : g = g' ∧ cap = cap2 := by simpa using hv2
  have hlt : g < w.heap.size := (Array.getElem?_eq_some_iff.1 hgb).1
  refine ⟨fun j hj => ?_, hlt, hbg, r1, cur, hgb, r2, r3⟩
  have hj' : j < zs.length := by simpa using hj
  refine ⟨?_, by simp [World.frozen?, hgb]⟩
  have h1 : (cur.toList.take (k * 1))[j]? = (intsV zs)[j]? := by rw [r4]
  rw [List.getElem?_take_of_lt (by omega)] at h1
  simp only [World.cell?, hgb, Nat.zero_add]
  simp only [Option.isSome_none, Bool.false_eq_true, if_false]
  rw [← Array.getElem?_toList, h1]
  simp [intsV, hj']

theorem sortInts_any (zs : List Int) (base g k cap : Nat) (w : World) (hk : k = zs.length) (hk5 : k ≤ 1048576) (hown : w.ownsRow base 3 1 (.slice (some ⟨g, 0, none⟩) k cap) k (intsV zs)) :
    Calls Try.prog 76 #[.slice (some ⟨g, 0, none⟩) k cap] w fun e w' => e = .returned (.tuple #[]) ∧ w'.ownsRow base 3 1 (.slice (some ⟨g, 0, none⟩) k cap) k (intsV (zs.mergeSort fun x y => decide (x ≤ y))) ∧ w.grownBy w' (some g) := by
  obtain ⟨hH, hlt, hbg, hkc, cur, hgb, hm, hs⟩ := holds_row hk hown
  have h := Go.Proofs.Any.slices_Sort_int Try.sortI g 0 cap zs w hH hlt (by omega)
  rw [← hk] at h
  refine h.mono ?_
  rintro e w' ⟨rfl, n, os, rfl⟩
  have hl : (zs.mergeSort fun x y => decide (x ≤ y)).length = k := by rw [List.length_mergeSort, hk]
  refine ⟨rfl, ⟨by rw [intsV_len, hl]; omega, .inr ⟨g, cap, _, rfl, hbg, heap_sortedI _ hgb, hkc, hm, by simp [Sort.putCells, hs], ?_⟩⟩, grownBy_sortedI _⟩
  rw [take_putCellsI cur _ (k * 1) (by rw [hl]; omega) (by rw [hl]; omega), List.take_of_length_le (by rw [hl]; omega)]
  rfl
end Go.Proofs.Ytkeiojfnjgjliaa
