/- The program's sums of sets. -/
import Derived.Test.YtlnlkfldlgchhabUa
import Derived.Test.YtlnlkfldlgchhabO2
import Derived.Test.YtlnlkfldlgchhabT2
import Derived.Deep.AppendLies
import Derived.Outline
namespace Go.Proofs.Ytlnlkfldlgchhab
open Go.RowKit Vo

def intsV (L : List Int) : List Value := L.map (Value.int .i64)
theorem intsV_len (L : List Int) : (intsV L).length = L.length := by simp [intsV]
theorem heap_sortedI {w : World} {g n : Nat} {os : Array Obj} {cur : Array Value} {e : TypeId} {fr : Nat × Nat} (d : Array Int) (hb : w.heap[g]? = some (.cells cur e fr)) :
    (Sort.grow (Sort.putRow (Value.int .i64) (Sort.ahead w n) g 0 d) os).heap[g]? = some (.cells (Sort.putCells (Value.int .i64) 0 d cur) e fr) := by
  have hg : g < w.heap.size := (Array.getElem?_eq_some_iff.1 hb).1
  rw [Sort.heap_grow_old _ _ (by simpa [Sort.putRow, Sort.mapBlock, Sort.ahead] using hg)]
  simp [Sort.putRow, Sort.mapBlock, Sort.ahead, Array.getElem?_modify, hb, Sort.onCells]
theorem grownBy_sortedI {w : World} {g n : Nat} {os : Array Obj} (d : Array Int) : w.grownBy (Sort.grow (Sort.putRow (Value.int .i64) (Sort.ahead w n) g 0 d) os) (some g) := by
  refine ⟨rfl, rfl, rfl, by simp [Sort.grow, Sort.putRow, Sort.mapBlock, Sort.ahead], fun k hk hne => ?_⟩
  rw [Sort.heap_grow_old _ _ (by simpa [Sort.putRow, Sort.mapBlock, Sort.ahead] using hk)]
  have : g ≠ k := fun e => hne (by rw [e])
  simp [Sort.putRow, Sort.mapBlock, Sort.ahead, Array.getElem?_modify, this]
theorem heap_putI {w : World} {g n : Nat} {cur : Array Value} {e : TypeId} {fr : Nat × Nat} (d : Array Int) (hb : w.heap[g]? = some (.cells cur e fr)) :
    (Sort.putRow (Value.int .i64) (Sort.ahead w n) g 0 d).heap[g]? = some (.cells (Sort.putCells (Value.int .i64) 0 d cur) e fr) := by
  simp [Sort.putRow, Sort.mapBlock, Sort.ahead, Array.getElem?_modify, hb, Sort.onCells]
theorem grownBy_putI {w : World} {g n : Nat} (d : Array Int) : w.grownBy (Sort.putRow (Value.int .i64) (Sort.ahead w n) g 0 d) (some g) := by
  refine ⟨rfl, rfl, rfl, by simp [Sort.putRow, Sort.mapBlock, Sort.ahead], fun k _ hne => ?_⟩
  have : g ≠ k := fun e => hne (by rw [e])
  simp [Sort.putRow, Sort.mapBlock, Sort.ahead, Array.getElem?_modify, this]
theorem take_putCellsI (cur : Array Value) (ts : List Int) (m : Nat) (h : ts.length ≤ cur.size) (hm : m ≤ ts.length) : (Sort.putCells (Value.int .i64) 0 ts.toArray cur).toList.take m = (ts.take m).map (Value.int .i64) := by
  apply List.ext_getElem?
  intro j
  by_cases hj : j < m
  · rw [List.getElem?_take_of_lt hj, Array.getElem?_toList]
    simp [Sort.putCells, show j < ts.length by omega, show j < cur.size by omega, hj]
  · rw [List.getElem?_take_eq_none (by omega), List.getElem?_eq_none (by simp; omega)]
theorem holds_row {w : World} {base g k cap : Nat} {zs : List Int} (hk : k = zs.length) (hown : w.ownsRow base 3 1 (.slice (some ⟨g, 0, none⟩) k cap) k (intsV zs)) : Sort.Holds (Value.int .i64) w g 0 zs.toArray ∧ g < w.heap.size ∧ base ≤ g ∧ k ≤ cap ∧ ∃ cur, w.heap[g]? = some (.cells cur 3 (0, 0)) ∧ cap ≤ maxLen ∧ cur.size = cap * 1 := by
  rcases hown.2 with ⟨h, _⟩ | ⟨g', cap2, cur, hv2, hbg, hgb, r1, r2, r3, r4⟩
  · cases h
  obtain ⟨rfl, rfl⟩ : g = g' ∧ cap = cap2 := by simpa using hv2
  have hlt : g < w.heap.size := (Array.getElem?_eq_some_iff.1 hgb).1
  refine ⟨fun j hj => ?_, hlt, hbg, r1, cur, hgb, r2, r3⟩
  have hj' : j < zs.length := by simpa using hj
  refine ⟨?_, by simp [World.frozen?, hgb]⟩
  have h1 : (cur.toList.take (k * 1))[j]? = (intsV zs)[j]? := by rw [r4]
  rw [List.getElem?_take_of_lt (by omega)] at h1
  simp only [World.cell?, hgb, Nat.zero_add]
  simp only [Option.isSome_none, Bool.false_eq_true, if_false]
  rw [← Array.getElem?_toList, h1]
  simp [intsV, hj']

theorem sortInts_any (zs : List Int) (base g k cap : Nat) (w : World) (hk : k = zs.length) (hk5 : k ≤ 1048576) (hown : w.ownsRow base 3 1 (.slice (some ⟨g, 0, none⟩) k cap) k (intsV zs)) :
    Calls Try.prog 120 #[.slice (some ⟨g, 0, none⟩) k cap] w fun e w' => e = .returned (.tuple #[]) ∧ w'.ownsRow base 3 1 (.slice (some ⟨g, 0, none⟩) k cap) k (intsV (zs.mergeSort fun x y => decide (x ≤ y))) ∧ w.grownBy w' (some g) := by
  obtain ⟨hH, hlt, hbg, hkc, cur, hgb, hm, hs⟩ := holds_row hk hown
  have h := Go.Proofs.Any.slices_Sort_int Try.sortI g 0 cap zs w hH hlt (by omega)
  rw [← hk] at h
  refine h.mono ?_
  rintro e w' ⟨rfl, n, os, rfl⟩
  have hl : (zs.mergeSort fun x y => decide (x ≤ y)).length = k := by rw [List.length_mergeSort, hk]
  refine ⟨rfl, ⟨by rw [intsV_len, hl]; omega, .inr ⟨g, cap, _, rfl, hbg, heap_sortedI _ hgb, hkc, hm, by simp [Sort.putCells, hs], ?_⟩⟩, grownBy_sortedI _⟩
  rw [take_putCellsI cur _ (k * 1) (by rw [hl]; omega) (by rw [hl]; omega), List.take_of_length_le (by rw [hl]; omega)]
  rfl
theorem compactInts_any (zs : List Int) (base g k cap : Nat) (w : World) (hk : k = zs.length) (hk5 : k ≤ 1048576) (hown : w.ownsRow base 3 1 (.slice (some ⟨g, 0, none⟩) k cap) k (intsV zs)) :
    Calls Try.prog 121 #[.slice (some ⟨g, 0, none⟩) k cap] w fun e w' => e = .returned (.slice (some ⟨g, 0, none⟩) (Lib.compact zs).length cap) ∧ w'.ownsRow base 3 1 (.slice (some ⟨g, 0, none⟩) (Lib.compact zs).length cap) (Lib.compact zs).length (intsV (Lib.compact zs)) ∧ w.grownBy w' (some g) := by
  obtain ⟨hH, hlt, hbg, hkc, cur, hgb, hm, hs⟩ := holds_row hk hown
  have h := Go.Proofs.Any.slices_Compact_int Try.compactI g 0 cap zs w hH (by omega) (by omega)
  rw [← hk] at h
  refine h.mono ?_
  rintro e w' ⟨rfl, n, rfl⟩
  have hl : (Lib.compact zs).length ≤ k := by
    unfold Lib.compact Lib.compactUpTo
    rw [List.length_map]
    refine Nat.le_trans (List.length_filter_le _ _) ?_
    rw [List.length_range, hk]
    exact Nat.le_refl _
  refine ⟨rfl, ⟨by rw [intsV_len]; omega, .inr ⟨g, cap, _, rfl, hbg, heap_putI _ hgb, by omega, hm, by simp [Sort.putCells, hs], ?_⟩⟩, grownBy_putI _⟩
  rw [take_putCellsI cur _ ((Lib.compact zs).length * 1) (by rw [List.length_append, List.length_replicate]; omega) (by rw [List.length_append]; omega), Nat.mul_one, List.take_left]
  rfl

set_option maxRecDepth 20000 in
set_option maxHeartbeats 4000000 in
theorem sums_any (q : Int) (b off n cap : Nat) (ws : List Int) (w : World) (h1 : 1 ≤ n) (hn : n < 10) (hok : InK 0 1000 ws n) (hsl : Sl w b off n ws) :
    Calls Try.prog 65 #[.agg #[.int .i64 q, .slice (some ⟨b, off, none⟩) n cap]] w fun e w' => ∃ g c, e = .returned (.slice (some ⟨g, 0, none⟩) (dstL ws n).length c) ∧ w'.ownsRow w.heap.size 3 1 (.slice (some ⟨g, 0, none⟩) (dstL ws n).length c) (dstL ws n).length (intsV (dstL ws n)) ∧ Below w.heap.size w w' := by
  obtain ⟨i0, hi0, hz0, hz1, hz2⟩ := info_parts infoInt
  have hb0 := below1 w (.cells #[.int .i64 q, .slice (some ⟨b, off, none⟩) n cap] 29)
  have hx := Box.new w (.int .i64 q) (.slice (some ⟨b, off, none⟩) n cap)
  have HSL := Lib.hid (hsl.now hb0)
  have HOK := Lib.hid hok
  have h512 := pow_lt (n := n) (by omega)
  obtain ⟨w0, hw0⟩ : ∃ w0, w0 = w.alloc (.cells #[.int .i64 q, .slice (some ⟨b, off, none⟩) n cap] 29) := ⟨_, rfl⟩
  have hpos := Nat.two_pow_pos n
  obtain ⟨N, hN⟩ : ∃ N, N = 2^n := ⟨_, rfl⟩
  have HE := Lib.hid (show ((2^n - 1 : Nat) : Int) = (N : Int) - 1 from by omega)
  rw [← hN] at h512 hpos
  have HN := Lib.hid hN
  clear hN
  have HU := Lib.hid (IntWalk.u64_in ((N : Int) - 1 + 1) (by omega))
  have hn1 : (N : Int) - 1 + 1 = (N : Int) := by omega
  rw [← hw0] at hx hb0 HSL
  have K := Lib.hid (show ∀ W, Below w0.heap.size w0 W → (W.cell? ⟨w.heap.size, 0, none⟩ = some (.int .i64 q) ∧ W.cell? ⟨w.heap.size, 1, none⟩ = some (.slice (some ⟨b, off, none⟩) n cap)) from fun W hb => (hx.now hb).cells)
  have hzw : w.heap.size < w0.heap.size := by rw [hw0]; simp
  have HB0 := Lib.hid hb0
  obtain ⟨c0, c1⟩ := K.out _ (Below.refl _ _)
  go_enter Try.func65, Try.ntmps65
  rw [hw0] at c0 c1
  go_wp2_with (go_at_call 118; rw [← hw0]; refine (everybody_any _ _ n cap _ hn).mono ?_; rintro e w1 ⟨rfl, hbe⟩; rw [HE.out])
  have HBE := Lib.hid hbe
  clear c0 c1 hw0
  go_loopw [3, 4, 8] (fun v _ i wr => ∃ (j : Nat) (A : Option Addr) (c : Nat), j ≤ N ∧ i = .int .u64 j ∧ v = .slice A j c ∧ wr.ownsRow w0.heap.size 3 1 (.slice A j c) j (intsV (sumsK ws n j)) ∧ Below w0.heap.size w0 wr) (fun _ _ i _ => N - (intOf i).toNat)
  case atStart => exact ⟨0, none, 0, Nat.zero_le _, rfl, rfl, World.ownsRow_nil _ _ _ _, HBE.out⟩
  case round =>
    obtain ⟨j, A, c, hj, rfl, rfl, hown, hb⟩ := hrel
    have HO := Lib.hid hown
    have hsz := hb.size
    obtain ⟨c0, c1⟩ := K.out _ hb
    clear hown
    by_cases hlt : j < N
    · have HS := Lib.hid (show intsV (sumsK ws n (j+1)) = intsV (sumsK ws n j) ++ [.int .i64 (wtK ws j n)] from by rw [sumsK_succ]; simp [intsV])
      have HW := Lib.hid (fun W hs => weightOf_any (.int .i64 q) b off n cap ws j W hn (by omega) HOK.out hs)
      obtain ⟨x, hx5⟩ : ∃ x, x = wtK ws j n := ⟨_, rfl⟩
      rw [← hx5] at HS HW
      clear hx5
      go_wp2_with (first
        | (go_at_call 119; refine (HW.out _ (HSL.out.now hb)).mono ?_; rintro e w5 ⟨rfl, hb5⟩; have HO5 := Lib.hid (owns_now HO.out hb5); have b5 := bfrom hb hb5; have hsz5 := b5.size)
        | (at_builtin; refine wpList_append_lies _ rfl _ _ _ rfl w0.heap.size 3 i0 _ 1 8 Try.underlying22 hi0 hz0 hz1 hz2 rfl (by decide) (.slice A j c) j (intsV (sumsK ws n j)) rfl (HO5.out.alloc _) ⟨w5.heap.size, 0, none⟩ 1 1 [.int .i64 x] rfl rfl (World.news_of_block (cs := #[.int .i64 x]) (t := 3) (fr := (0, 0)) (heap_alloc_new w5 _)) (by simp [Value.oneCell']) (by omega) (by unfold maxLen; omega) (by omega) (by simp; omega) (w5.heap.size + 1) (by simp) ?_; intro gg cap3 w6 hown6 hgrow hat hlt6))
      have hb6 : Below w0.heap.size w0 w6 := (b5.alloc b5.size (.cells #[.int .i64 x] 3)).grown hgrow (by simp; omega) fun i hi => owns_le HO5.out hi
      go_roundw
      case rel => exact ⟨j + 1, some ⟨gg, 0, none⟩, cap3, by omega, by go_num, rfl, by rw [HS.out]; exact hown6, hb6⟩
      case measure => simp [intOf]; omega
    · obtain rfl : j = N := by omega
      obtain ⟨g, c', hv, hg, _, _⟩ := owns_head HO.out hpos
      obtain ⟨rfl, rfl⟩ : A = some ⟨g, 0, none⟩ ∧ c = c' := by simpa using hv
      have HLK := Lib.hid (show j = (sumsK ws n j).length from (sumsK_len ws n j).symm)
      have HLM := Lib.hid (show j = ((sumsK ws n j).mergeSort fun x y => decide (x ≤ y)).length from by rw [List.length_mergeSort, sumsK_len])
      have HD := Lib.hid (show Lib.compact ((sumsK ws n j).mergeSort fun x y => decide (x ≤ y)) = dstL ws n from by rw [HN.out]; rfl)
      have hgl : g < wr.heap.size := owns_lt HO.out rfl
      clear hv
      go_wp2_with (first
        | (go_at_call 120; refine (sortInts_any (sumsK ws n j) w0.heap.size g j c _ HLK.out (by omega) HO.out).mono ?_; rintro e w5 ⟨rfl, hown5, hgr5⟩; have HO5 := Lib.hid hown5; have b5 := hb.grown hgr5 hb.size (fun i hi => by injection hi with hi; omega); clear hown5 hgr5)
        | (go_at_call 121; refine (compactInts_any _ w0.heap.size g j c _ HLM.out (by omega) HO5.out).mono ?_; rintro e w6 ⟨rfl, hown6, hgr6⟩; rw [HD.out] at hown6 ⊢; have HO6 := Lib.hid hown6; have b6 := b5.grown hgr6 b5.size (fun i hi => by injection hi with hi; omega); clear hown6 hgr6))
      go_ret
      exact ⟨g, c, rfl, owns_less HO6.out (Nat.le_of_lt hzw), bfrom HB0.out b6⟩
end Go.Proofs.Ytlnlkfldlgchhab
