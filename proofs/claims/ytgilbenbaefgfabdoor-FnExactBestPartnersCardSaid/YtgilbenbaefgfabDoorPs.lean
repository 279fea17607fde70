/- Contracts of the program's parties checked, members split, and SplitMember. -/
import Derived.Test.YtgilbenbaefgfabDoorPh
import Derived.Outline
import Derived.Test.YtgilbenbaefgfabDoorG2
import Derived.Lib.AppendZerosOnto
import Derived.Maps.AppendAt
namespace Go.Proofs.YtgilbenbaefgfabDoor
open Go.RowKit Vo

end Go.Proofs.YtgilbenbaefgfabDoor

namespace Go.Proofs.YtgilbenbaefgfabDoor
open Go.RowKit Vo

/-- The weights when the member k is split into x and the rest. -/
def splitL (ws : List Int) (n k : Nat) (x : Int) : List Int := ((List.range k).map fun j => ws.getD j 0) ++ [x, ws.getD k 0 - x] ++ ((List.range (n - (k + 1))).map fun j => ws.getD (k + 1 + j) 0)
theorem splitL_len {ws : List Int} {n k : Nat} {x : Int} (h : k < n) : (splitL ws n k x).length = n + 1 := by simp [splitL]; omega
theorem splitL_cells (ws : List Int) (n k : Nat) (x : Int) : cut ws 0 k ++ [Value.int .i64 x, Value.int .i64 (ws.getD k 0 - x)] ++ cut ws (k+1) (n - (k+1)) = (splitL ws n k x).map (Value.int .i64) := by
  simp [splitL, cut, Function.comp_def]
theorem splitL_at {ws : List Int} {n k : Nat} {x : Int} (hk : k < n) {i : Nat} (hi : i < n + 1) : (splitL ws n k x).getD i 0 = if i < k then ws.getD i 0 else if i = k then x else if i = k + 1 then ws.getD k 0 - x else ws.getD (i - 1) 0 := by
  unfold splitL
  rw [List.getD_eq_getElem?_getD, List.append_assoc, List.getElem?_append]
  simp only [List.length_map, List.length_range]
  by_cases h1 : i < k
  · rw [if_pos h1, if_pos h1, List.getElem?_map, List.getElem?_range h1]; rfl
  · rw [if_neg h1, if_neg h1, List.getElem?_append]
    simp only [List.length_cons, List.length_nil]
    by_cases h2 : i = k
    · rw [if_pos (by omega), if_pos h2, h2, Nat.sub_self]; rfl
    · rw [if_neg h2]
      by_cases h3 : i = k + 1
      · rw [if_pos (by omega), if_pos h3, h3, show k + 1 - k = 1 by omega]; rfl
      · rw [if_neg h3, if_neg (by omega), List.getElem?_map, List.getElem?_range (by omega)]
        simp only [Option.map_some, Option.getD_some]
        congr 1; omega
theorem sumK_split {ws : List Int} {n k : Nat} {x : Int} (hk : k < n) : sumK (splitL ws n k x) (n + 1) = sumK ws n := by
  have lo : ∀ j, j ≤ k → sumK (splitL ws n k x) j = sumK ws j := by
    intro j hj
    induction j with
    | zero => rfl
    | succ j ih => simp only [sumK]; rw [ih (by omega), splitL_at hk (by omega), if_pos (by omega)]
  have hi : ∀ d, k + 1 + d ≤ n → sumK (splitL ws n k x) (k + 1 + d + 1) = sumK ws (k + 1 + d) := by
    intro d hd
    induction d with
    | zero =>
      simp only [sumK]
      rw [lo k (Nat.le_refl _), splitL_at hk (by omega), splitL_at hk (by omega)]
      rw [if_neg (by omega), if_pos rfl, if_neg (by omega), if_neg (by omega), if_pos rfl]
      omega
    | succ d ih =>
      rw [show k + 1 + (d + 1) = k + 1 + d + 1 from rfl]
      rw [show sumK (splitL ws n k x) (k + 1 + d + 1 + 1) = sumK (splitL ws n k x) (k + 1 + d + 1) + (splitL ws n k x).getD (k + 1 + d + 1) 0 from rfl, ih (by omega), splitL_at hk (by omega)]
      rw [if_neg (by omega), if_neg (by omega), if_neg (by omega)]
      rfl
  have := hi (n - (k + 1)) (by omega)
  rwa [show k + 1 + (n - (k + 1)) = n by omega] at this
/-- May the member be split so? -/
def partAsk (q : Int) (ws : List Int) (n : Nat) (x y : Int) : Bool := memOk q ws n x && inB y 0 (ws.getD x.toNat 0)
def splitOk (q : Int) (ws : List Int) (n : Nat) (x y : Int) : Bool := partAsk q ws n x y && decide (n < 9)
theorem partAsk_parts {q ws n x y} (h : partAsk q ws n x y = true) : Vo.Good q ws n ∧ (0 ≤ x ∧ x < n) ∧ 0 ≤ y ∧ y ≤ ws.getD x.toNat 0 := by
  unfold partAsk at h
  simp at h
  obtain ⟨h1, h2⟩ := h
  have a := memOk_parts h1
  unfold inB at h2
  simp at h2
  exact ⟨a.1, a.2, h2.1, h2.2⟩
theorem split_good {q : Int} {ws : List Int} {n k : Nat} {x : Int} (hg : Vo.Good q ws n) (hk : k < n) (h0 : 0 ≤ x) (h1 : x ≤ ws.getD k 0) : goodB q (splitL ws n k x) (n + 1) = decide (n < 9) := by
  by_cases h9 : n < 9
  · rw [decide_eq_true h9]
    refine goodB_true ⟨by omega, by omega, fun i hi => ?_, hg.q1, by rw [sumK_split hk]; exact hg.q2⟩
    rw [splitL_at hk hi]
    have hkk := hg.ok k hk
    by_cases a1 : i < k
    · rw [if_pos a1]; exact hg.ok i (by omega)
    · rw [if_neg a1]
      by_cases a2 : i = k
      · rw [if_pos a2]; omega
      · rw [if_neg a2]
        by_cases a3 : i = k + 1
        · rw [if_pos a3]; omega
        · rw [if_neg a3]; exact hg.ok (i - 1) (by omega)
  · rw [decide_eq_false h9]
    exact goodB_false fun g => h9 (by have := g.hi; omega)
theorem splitN_le (q : Int) (ws : List Int) (n : Nat) (x y : Int) : nIf (splitOk q ws n x y) (n + 1) ≤ 9 := nIf_le fun h => by
  unfold splitOk at h
  simp at h
  omega

/-- A party of the call's own, or none, and a truth. -/
def PartyAt (ok : Bool) (q' : Int) (m : Nat) (L : List Int) (s : Nat) (w w' : World) (e : Ending) : Prop :=
  ∃ A cap, e = .returned (.tuple #[.agg #[.int .i64 (qIf ok q'), .slice A (nIf ok m) cap, .int .u64 (nIf ok s : Nat)], .bool ok]) ∧ Held w.heap.size w' A (nIf ok m) L ∧ Below w.heap.size w w'
theorem PartyAt.fail {w w' : World} {Q : Int} {m s : Nat} {L : List Int} (hb : Below w.heap.size w w') : PartyAt false Q m L s w w' (.returned (.tuple #[.agg #[.int .i64 0, .slice none 0 0, .int .u64 0], .bool false])) :=
  ⟨none, 0, rfl, Or.inl ⟨rfl, rfl⟩, hb⟩

set_option maxRecDepth 20000 in
set_option maxHeartbeats 1000000 in
theorem checkedP_yes (q : Int) (A : Option Addr) (n cap s : Nat) (ws : List Int) (w : World) (hm : n ≤ 9223372036854775807) (hk : Known w A n ws) (hg : goodB q ws n = true) :
    Calls Tryd.prog 56 #[.agg #[.int .i64 q, .slice A n cap, .int .u64 s]] w fun e w' => e = .returned (.tuple #[.agg #[.int .i64 q, .slice A n cap, .int .u64 s], .bool true]) ∧ Below w.heap.size w w' := by
  have HK := Lib.hid hk
  have HG := Lib.hid hg
  clear hk hg
  have hb0 : Below w.heap.size w ((w.alloc (.cells #[.int .i64 q, .slice A n cap, .int .u64 s] 60)).alloc (.cells #[.int .i64 0, .slice none 0 0, .int .u64 0] 60)) := (below1 w _).alloc (by simp) _
  have hx := (Box3.new 60 w (.int .i64 q) (.slice A n cap) (.int .u64 s)).alloc (.cells #[.int .i64 0, .slice none 0 0, .int .u64 0] 60)
  have hr := Box3.new 60 (w.alloc (.cells #[.int .i64 q, .slice A n cap, .int .u64 s] 60)) (.int .i64 0) (.slice none 0 0) (.int .u64 0)
  simp only [World.size_alloc] at hr
  obtain ⟨a0, a1, a2⟩ := hx.cells
  go_enter Tryd.func56, Tryd.ntmps56
  go_wp2_with fail
  refine (isCommittee_any q A n cap ws _ hm (HK.out.now hb0)).mono ?_
  rintro e w1 ⟨rfl, hb⟩
  rw [HG.out]
  have g1 := bfrom hb0 hb
  clear a0 a1 a2
  obtain ⟨c0, c1, c2⟩ := (hx.now hb).cells
  have hr1 := hr.now hb
  obtain ⟨d0, d1, d2⟩ := hr1.cells
  obtain ⟨f0, f1, f2⟩ := frozen_box3 hr1
  have hr3 := hr1.put (.int .i64 q) (.slice A n cap) (.int .u64 s)
  obtain ⟨e0, e1, e2⟩ := hr3.cells
  clear hx hr hb0
  go_wp2
  refine bodyPost_ret (v := .tuple #[.agg #[.int .i64 q, .slice A n cap, .int .u64 s], .bool true]) (by simp [results, Tryd.results56, go_sem, e0, e1, e2]) rfl ⟨rfl, ?_⟩
  exact ((g1.setCell (by simp) _).setCell (by simp) _).setCell (by simp) _

set_option maxRecDepth 20000 in
set_option maxHeartbeats 1000000 in
theorem checkedP_no (q : Int) (A : Option Addr) (n cap s : Nat) (ws : List Int) (w : World) (hm : n ≤ 9223372036854775807) (hk : Known w A n ws) (hg : goodB q ws n = false) :
    Calls Tryd.prog 56 #[.agg #[.int .i64 q, .slice A n cap, .int .u64 s]] w fun e w' => e = .returned (.tuple #[.agg #[.int .i64 0, .slice none 0 0, .int .u64 0], .bool false]) ∧ Below w.heap.size w w' := by
  have HK := Lib.hid hk
  have HG := Lib.hid hg
  clear hk hg
  have hb0 : Below w.heap.size w ((w.alloc (.cells #[.int .i64 q, .slice A n cap, .int .u64 s] 60)).alloc (.cells #[.int .i64 0, .slice none 0 0, .int .u64 0] 60)) := (below1 w _).alloc (by simp) _
  have hx := (Box3.new 60 w (.int .i64 q) (.slice A n cap) (.int .u64 s)).alloc (.cells #[.int .i64 0, .slice none 0 0, .int .u64 0] 60)
  have hr := Box3.new 60 (w.alloc (.cells #[.int .i64 q, .slice A n cap, .int .u64 s] 60)) (.int .i64 0) (.slice none 0 0) (.int .u64 0)
  simp only [World.size_alloc] at hr
  obtain ⟨a0, a1, a2⟩ := hx.cells
  go_enter Tryd.func56, Tryd.ntmps56
  go_wp2_with fail
  refine (isCommittee_any q A n cap ws _ hm (HK.out.now hb0)).mono ?_
  rintro e w1 ⟨rfl, hb⟩
  rw [HG.out]
  have g1 := bfrom hb0 hb
  clear a0 a1 a2
  have hr1 := hr.now hb
  obtain ⟨d0, d1, d2⟩ := hr1.cells
  obtain ⟨f0, f1, f2⟩ := frozen_box3 hr1
  have hr3 := hr1.put (.int .i64 0) (.slice none 0 0) (.int .u64 0)
  obtain ⟨e0, e1, e2⟩ := hr3.cells
  clear hx hr hb0
  go_wp2
  refine bodyPost_ret (v := .tuple #[.agg #[.int .i64 0, .slice none 0 0, .int .u64 0], .bool false]) (by simp [results, Tryd.results56, go_sem, e0, e1, e2]) rfl ⟨rfl, ?_⟩
  exact ((g1.setCell (by simp) _).setCell (by simp) _).setCell (by simp) _
end Go.Proofs.YtgilbenbaefgfabDoor
