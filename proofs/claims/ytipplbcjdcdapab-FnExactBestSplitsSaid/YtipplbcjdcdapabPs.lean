/- Contracts of the program's parties checked, members split, and SplitMember. -/
import Derived.Test.YtipplbcjdcdapabPh
import Derived.Outline
import Derived.Test.YtipplbcjdcdapabG2
import Derived.Lib.AppendZerosOnto
import Derived.Maps.AppendAt
namespace Go.Proofs.Ytipplbcjdcdapab
open Go.RowKit Vo

set_option maxRecDepth 20000 in
set_option maxHeartbeats 4000000 in
theorem growI_any (n : Nat) (w : World) (h0 : n ≠ 0) (hn : n ≤ 1048576) :
    Calls Try.prog 96 #[.slice none 0 0, .int .i64 n] w fun e w' => ∃ g cap, e = .returned (.slice (some ⟨g, 0, none⟩) 0 cap) ∧ w'.ownsRow w.heap.size 3 1 (.slice (some ⟨g, 0, none⟩) 0 cap) 0 [] ∧ Below w.heap.size w w' := by
  obtain ⟨i0, hi0, hz0, hz1, hz2i⟩ := info_parts infoInt
  have h1 : ¬ ((n : Int) < 0) := by omega
  have h3 : wrap64 ((n : Int) - (0 - 0)) = (n : Int) := by unfold wrap64; omega
  have h4 : (n : Int) > 0 := by omega
  have hold : (Builtin.firstCells i0.size 0 (.slice none 0 0)).run Try.prog w.drew = .ok ([] : List Value).toArray w.drew := run_firstCells_none w.drew i0.size 0 0 0
  have hcap : grownCap w (0 + n) 0 3 ≤ maxLen := grownCap_le_maxLen w _ _ _ (by unfold maxLen; omega)
  have hge : 0 + n ≤ grownCap w (0 + n) 0 3 := grownCap_ge w _ _ _
  have hrz : ∀ ty, (Builtin.append_ #[26, 3] ty #[.slice none 0 0, .int .i64 (n : Int)]).run Try.prog w =
      .ok (.slice (some ⟨w.heap.size, 0, none⟩) (0 + n) (grownCap w (0 + n) 0 3)) (w.drew.alloc (.cells (([] : List Value).toArray ++ Builtin.zeroCells (Value.int .i64 0).cells n ++ Builtin.zeroCells (Value.int .i64 0).cells (grownCap w (0 + n) 0 3 - (0 + n))) 3)) := fun ty =>
    Lib.run_append_grow_zeros w 26 3 ty 3 i0 _ .i64 .i64 Try.underlying26 Try.underlying3 hi0 hz0 none 0 0 [] hold n (by omega) (by omega) (by omega) (by omega)
      (by rw [hz2i]; omega) (by rw [hz2i]; exact growslice_fits (by omega) (by omega))
  obtain ⟨G, hG⟩ : ∃ G, G = grownCap w (0 + n) 0 3 := ⟨_, rfl⟩
  rw [← hG] at hrz hcap hge
  clear hG
  have hown := World.ownsRow_made (base := w.heap.size) (e := 3) (size := 1) w.drew (([] : List Value).toArray ++ Builtin.zeroCells (Value.int .i64 0).cells n ++ Builtin.zeroCells (Value.int .i64 0).cells (G - (0 + n))) G (by simp) hcap (by
    simp only [Array.size_append, size_zeroCells]
    have : (Value.int IntKind.i64 0).cells.size = 1 := rfl
    rw [this]; simp; omega)
  have hbel : Below w.heap.size w (w.drew.alloc (.cells (([] : List Value).toArray ++ Builtin.zeroCells (Value.int .i64 0).cells n ++ Builtin.zeroCells (Value.int .i64 0).cells (G - (0 + n))) 3)) := (Below.refl _ w).drew.alloc (by simp) _
  unfold maxLen at hcap
  generalize (([] : List Value).toArray ++ Builtin.zeroCells (Value.int .i64 0).cells n ++ Builtin.zeroCells (Value.int .i64 0).cells (G - (0 + n))) = cur at *
  have HB := Lib.hid hbel
  have HO := Lib.hid hown
  have HRZ := Lib.hid hrz
  clear hold hbel hown hrz hi0 hz0 hz1 hz2i
  go_enter Try.func96, Try.ntmps96
  go_wp2_with (at_builtin; refine Lib.wpList_append_run _ rfl _ _ _ _ rfl _ _ rfl rfl _ _ (HRZ.out _) ?_)
  go_ret
  exact ⟨w.heap.size, G, rfl, HO.out, HB.out⟩

set_option maxRecDepth 20000 in
set_option maxHeartbeats 4000000 in
theorem concat3_any (a0 a1 a2 : Addr) (m0 m1 m2 p0 p1 p2 g : Nat) (V0 V1 V2 : List Value) (W : World) (h1 : 1 ≤ m1) (hle : m0 + m1 + m2 ≤ 20)
    (l0 : V0.length = m0) (l1 : V1.length = m1) (l2 : V2.length = m2) (o0 : ∀ v ∈ V0, v.oneCell' = true) (o1 : ∀ v ∈ V1, v.oneCell' = true) (o2 : ∀ v ∈ V2, v.oneCell' = true)
    (n0 : ∀ W', Below W.heap.size W W' → ∀ j u, V0[j]? = some u → W'.cell? (a0.add j) = some u) (n1 : ∀ W', Below W.heap.size W W' → ∀ j u, V1[j]? = some u → W'.cell? (a1.add j) = some u) (n2 : ∀ W', Below W.heap.size W W' → ∀ j u, V2[j]? = some u → W'.cell? (a2.add j) = some u)
    (hc0 : W.cell? ⟨g, 0, none⟩ = some (.slice (some a0) m0 p0)) (hc1 : W.cell? ⟨g, 1, none⟩ = some (.slice (some a1) m1 p1)) (hc2 : W.cell? ⟨g, 2, none⟩ = some (.slice (some a2) m2 p2)) :
    Calls Try.prog 78 #[.slice (some ⟨g, 0, none⟩) 3 3] W fun e w' => ∃ gg c, e = .returned (.slice (some ⟨gg, 0, none⟩) (m0 + m1 + m2 : Nat) c) ∧ w'.ownsRow W.heap.size 3 1 (.slice (some ⟨gg, 0, none⟩) (m0 + m1 + m2 : Nat) c) (m0 + m1 + m2) (V0 ++ V1 ++ V2) ∧ Below W.heap.size W w' := by
  obtain ⟨i0, hi0, hz0, hz1, hz2i⟩ := info_parts infoInt
  have HN0 := Lib.hid n0
  have HN1 := Lib.hid n1
  have HN2 := Lib.hid n2
  have HS0 := Lib.hid o0
  have HS1 := Lib.hid o1
  have HS2 := Lib.hid o2
  have HL0 := Lib.hid (show V0.length = m0 * 1 from by omega)
  have HL1 := Lib.hid (show V1.length = m1 * 1 from by omega)
  have HL2 := Lib.hid (show V2.length = m2 * 1 from by omega)
  have HGR := Lib.hid (fun w => growI_any (m0 + m1 + m2) w (by omega) (by omega))
  have hgl : g < W.heap.size := World.block_lt_of_cell? W _ hc0
  have HC := Lib.hid (show ∀ W', Below W.heap.size W W' → W'.cell? ⟨g, 0, none⟩ = some (.slice (some a0) m0 p0) ∧ W'.cell? ⟨g, 1, none⟩ = some (.slice (some a1) m1 p1) ∧ W'.cell? ⟨g, 2, none⟩ = some (.slice (some a2) m2 p2) from fun W' h => ⟨(h.cell (p := ⟨g, 0, none⟩) hgl).trans hc0, (h.cell (p := ⟨g, 1, none⟩) hgl).trans hc1, (h.cell (p := ⟨g, 2, none⟩) hgl).trans hc2⟩)
  clear n0 n1 n2 o0 o1 o2 l0 l1 l2
  go_enter Try.func78, Try.ntmps78
  go_wp2_with fail
  go_loopw [3, 5, 11] (fun s _ i wr => ((i = .int .i64 0 ∧ s = .int .i64 0) ∨ (i = .int .i64 1 ∧ s = .int .i64 (m0 : Nat)) ∨ (i = .int .i64 2 ∧ s = .int .i64 (m0 + m1 : Nat)) ∨ (i = .int .i64 3 ∧ s = .int .i64 (m0 + m1 + m2 : Nat))) ∧ wr = W) (fun _ _ i _ => 3 - (intOf i).toNat)
  case atStart => exact ⟨Or.inl ⟨rfl, rfl⟩, rfl⟩
  case round =>
    obtain ⟨h, hw⟩ := hrel
    obtain rfl : W = wr := hw.symm
    rcases h with ⟨rfl, rfl⟩ | ⟨rfl, rfl⟩ | ⟨rfl, rfl⟩ | ⟨rfl, rfl⟩
    · go_wp2
      go_roundw
      case rel => exact ⟨Or.inr (Or.inl ⟨rfl, by go_num⟩), trivial⟩
      case measure => simp [intOf]
    · have hnn : ¬ ((m0 : Int) + m1 < 0) := by omega
      go_wp2
      go_roundw
      case rel => exact ⟨Or.inr (Or.inr (Or.inl ⟨rfl, by go_num⟩)), trivial⟩
      case measure => simp [intOf]
    · have hnn : ¬ ((m0 : Int) + m1 + m2 < 0) := by omega
      go_wp2
      go_roundw
      case rel => exact ⟨Or.inr (Or.inr (Or.inr ⟨rfl, by go_num⟩)), trivial⟩
      case measure => simp [intOf]
    · go_wp2_with fail
      refine (HGR.out _).mono ?_
      rintro e w1 ⟨gn, cn, rfl, hown1, hb1⟩
      have HO1 := Lib.hid hown1
      clear hown1 hc0 hc1 hc2
      go_wp2_with fail
      go_loopw [6, 8, 27] (fun v _ i wn => Below W.heap.size W wn ∧ ((i = .int .i64 0 ∧ ∃ C cC, v = .slice C 0 cC ∧ wn.ownsRow W.heap.size 3 1 (.slice C 0 cC) 0 []) ∨ (i = .int .i64 1 ∧ ∃ C cC, v = .slice C m0 cC ∧ wn.ownsRow W.heap.size 3 1 (.slice C m0 cC) m0 V0) ∨ (i = .int .i64 2 ∧ ∃ C cC, v = .slice C (m0 + m1 : Nat) cC ∧ wn.ownsRow W.heap.size 3 1 (.slice C (m0 + m1 : Nat) cC) (m0 + m1) (V0 ++ V1)) ∨ (i = .int .i64 3 ∧ ∃ C cC, v = .slice C (m0 + m1 + m2 : Nat) cC ∧ wn.ownsRow W.heap.size 3 1 (.slice C (m0 + m1 + m2 : Nat) cC) (m0 + m1 + m2) (V0 ++ V1 ++ V2)))) (fun _ _ i _ => 3 - (intOf i).toNat)
      case atStart => exact ⟨hb1, Or.inl ⟨rfl, _, _, rfl, HO1.out⟩⟩
      case round =>
        obtain ⟨hb, h⟩ := hrel
        obtain ⟨hc0, hc1, hc2⟩ := HC.out _ hb
        rcases h with ⟨rfl, C, cC, rfl, hown⟩ | ⟨rfl, C, cC, rfl, hown⟩ | ⟨rfl, C, cC, rfl, hown⟩ | ⟨rfl, C, cC, rfl, hown⟩
        · have HO := Lib.hid hown
          clear hown
          go_wp2_with (at_builtin; refine wpList_append_own_at _ rfl _ _ _ rfl W.heap.size 3 i0 (.int .i64 0) 1 8 Try.underlying26 hi0 hz0 hz1 hz2i rfl (by decide) (.slice C 0 cC) 0 ([]) rfl HO.out a0 m0 p0 V0 rfl HL0.out (HN0.out _ hb) HS0.out (by unfold maxLen; omega) (by omega) hb.size ?_; intro v6 w6 hown6 hgrow _ hat6)
          have hb6 : Below W.heap.size W w6 := hb.grown hgrow hb.size fun i hi => owns_le HO.out hi
          obtain ⟨B6, c6, rfl⟩ := owns_slice hown6
          go_roundw
          case rel => exact ⟨hb6, Or.inr (Or.inl ⟨rfl, B6, c6, by first | rfl | simp, by simpa using hown6⟩)⟩
          case measure => simp [intOf]
        · have HO := Lib.hid hown
          clear hown
          go_wp2_with (at_builtin; refine wpList_append_own_at _ rfl _ _ _ rfl W.heap.size 3 i0 (.int .i64 0) 1 8 Try.underlying26 hi0 hz0 hz1 hz2i rfl (by decide) (.slice C m0 cC) m0 (V0) rfl HO.out a1 m1 p1 V1 rfl HL1.out (HN1.out _ hb) HS1.out (by unfold maxLen; omega) (by omega) hb.size ?_; intro v6 w6 hown6 hgrow _ hat6)
          have hb6 : Below W.heap.size W w6 := hb.grown hgrow hb.size fun i hi => owns_le HO.out hi
          obtain ⟨B6, c6, rfl⟩ := owns_slice hown6
          go_roundw
          case rel => exact ⟨hb6, Or.inr (Or.inr (Or.inl ⟨rfl, B6, c6, by first | rfl | simp, hown6⟩))⟩
          case measure => simp [intOf]
        · have HO := Lib.hid hown
          clear hown
          go_wp2_with (at_builtin; refine wpList_append_own_at _ rfl _ _ _ rfl W.heap.size 3 i0 (.int .i64 0) 1 8 Try.underlying26 hi0 hz0 hz1 hz2i rfl (by decide) (.slice C (m0 + m1 : Nat) cC) (m0 + m1 : Nat) (V0 ++ V1) rfl HO.out a2 m2 p2 V2 rfl HL2.out (HN2.out _ hb) HS2.out (by unfold maxLen; omega) (by omega) hb.size ?_; intro v6 w6 hown6 hgrow _ hat6)
          have hb6 : Below W.heap.size W w6 := hb.grown hgrow hb.size fun i hi => owns_le HO.out hi
          obtain ⟨B6, c6, rfl⟩ := owns_slice hown6
          go_roundw
          case rel => exact ⟨hb6, Or.inr (Or.inr (Or.inr ⟨rfl, B6, c6, by first | rfl | simp, hown6⟩))⟩
          case measure => simp [intOf]
        · obtain ⟨gg, c', hv, _, _, _⟩ := owns_head hown (by omega)
          obtain ⟨rfl, rfl⟩ : C = some ⟨gg, 0, none⟩ ∧ cC = c' := by simpa using hv
          have HO := Lib.hid hown
          clear hown hv
          go_wp2
          go_ret
          exact ⟨gg, cC, rfl, HO.out, hb⟩
end Go.Proofs.Ytipplbcjdcdapab

namespace Go.Proofs.Ytipplbcjdcdapab
open Go.RowKit Vo

/-- The weights when the member k is split into x and the rest. -/
def splitL (ws : List Int) (n k : Nat) (x : Int) : List Int := ((List.range k).map fun j => ws.getD j 0) ++ [x, ws.getD k 0 - x] ++ ((List.range (n - (k + 1))).map fun j => ws.getD (k + 1 + j) 0)
theorem splitL_len {ws : List Int} {n k : Nat} {x : Int} (h : k < n) : (splitL ws n k x).length = n + 1 := by simp [splitL]; omega
theorem splitL_cells (ws : List Int) (n k : Nat) (x : Int) : cut ws 0 k ++ [Value.int .i64 x, Value.int .i64 (ws.getD k 0 - x)] ++ cut ws (k+1) (n - (k+1)) = (splitL ws n k x).map (Value.int .i64) := by
  simp [splitL, cut, Function.comp_def]
theorem splitL_at {ws : List Int} {n k : Nat} {x : Int} (hk : k < n) {i : Nat} (hi : i < n + 1) : (splitL ws n k x).getD i 0 = if i < k then ws.getD i 0 else if i = k then x else if i = k + 1 then ws.getD k 0 - x else ws.getD (i - 1) 0 := by
  unfold splitL
  rw [List.getD_eq_getElem?_getD, List.append_assoc, List.getElem?_append]
  simp only [List.length_map, List.length_range]
  by_cases h1 : i < k
  · rw [if_pos h1, if_pos h1, List.getElem?_map, List.getElem?_range h1]; rfl
  · rw [if_neg h1, if_neg h1, List.getElem?_append]
    simp only [List.length_cons, List.length_nil]
    by_cases h2 : i = k
    · rw [if_pos (by omega), if_pos h2, h2, Nat.sub_self]; rfl
    · rw [if_neg h2]
      by_cases h3 : i = k + 1
      · rw [if_pos (by omega), if_pos h3, h3, show k + 1 - k = 1 by omega]; rfl
      · rw [if_neg h3, if_neg (by omega), List.getElem?_map, List.getElem?_range (by omega)]
        simp only [Option.map_some, Option.getD_some]
        congr 1; omega
theorem sumK_split {ws : List Int} {n k : Nat} {x : Int} (hk : k < n) : sumK (splitL ws n k x) (n + 1) = sumK ws n := by
  have lo : ∀ j, j ≤ k → sumK (splitL ws n k x) j = sumK ws j := by
    intro j hj
    induction j with
    | zero => rfl
    | succ j ih => simp only [sumK]; rw [ih (by omega), splitL_at hk (by omega), if_pos (by omega)]
  have hi : ∀ d, k + 1 + d ≤ n → sumK (splitL ws n k x) (k + 1 + d + 1) = sumK ws (k + 1 + d) := by
    intro d hd
    induction d with
    | zero =>
      simp only [sumK]
      rw [lo k (Nat.le_refl _), splitL_at hk (by omega), splitL_at hk (by omega)]
      rw [if_neg (by omega), if_pos rfl, if_neg (by omega), if_neg (by omega), if_pos rfl]
      omega
    | succ d ih =>
      rw [show k + 1 + (d + 1) = k + 1 + d + 1 from rfl]
      rw [show sumK (splitL ws n k x) (k + 1 + d + 1 + 1) = sumK (splitL ws n k x) (k + 1 + d + 1) + (splitL ws n k x).getD (k + 1 + d + 1) 0 from rfl, ih (by omega), splitL_at hk (by omega)]
      rw [if_neg (by omega), if_neg (by omega), if_neg (by omega)]
      rfl
  have := hi (n - (k + 1)) (by omega)
  rwa [show k + 1 + (n - (k + 1)) = n by omega] at this
/-- May the member be split so? -/
def partAsk (q : Int) (ws : List Int) (n : Nat) (x y : Int) : Bool := memOk q ws n x && inB y 0 (ws.getD x.toNat 0)
def splitOk (q : Int) (ws : List Int) (n : Nat) (x y : Int) : Bool := partAsk q ws n x y && decide (n < 9)
theorem partAsk_parts {q ws n x y} (h : partAsk q ws n x y = true) : Vo.Good q ws n ∧ (0 ≤ x ∧ x < n) ∧ 0 ≤ y ∧ y ≤ ws.getD x.toNat 0 := by
  unfold partAsk at h
  simp at h
  obtain ⟨h1, h2⟩ := h
  have a := memOk_parts h1
  unfold inB at h2
  simp at h2
  exact ⟨a.1, a.2, h2.1, h2.2⟩
theorem split_good {q : Int} {ws : List Int} {n k : Nat} {x : Int} (hg : Vo.Good q ws n) (hk : k < n) (h0 : 0 ≤ x) (h1 : x ≤ ws.getD k 0) : goodB q (splitL ws n k x) (n + 1) = decide (n < 9) := by
  by_cases h9 : n < 9
  · rw [decide_eq_true h9]
    refine goodB_true ⟨by omega, by omega, fun i hi => ?_, hg.q1, by rw [sumK_split hk]; exact hg.q2⟩
    rw [splitL_at hk hi]
    have hkk := hg.ok k hk
    by_cases a1 : i < k
    · rw [if_pos a1]; exact hg.ok i (by omega)
    · rw [if_neg a1]
      by_cases a2 : i = k
      · rw [if_pos a2]; omega
      · rw [if_neg a2]
        by_cases a3 : i = k + 1
        · rw [if_pos a3]; omega
        · rw [if_neg a3]; exact hg.ok (i - 1) (by omega)
  · rw [decide_eq_false h9]
    exact goodB_false fun g => h9 (by have := g.hi; omega)
theorem splitN_le (q : Int) (ws : List Int) (n : Nat) (x y : Int) : nIf (splitOk q ws n x y) (n + 1) ≤ 9 := nIf_le fun h => by
  unfold splitOk at h
  simp at h
  omega

/-- A party of the call's own, or none, and a truth. -/
def PartyAt (ok : Bool) (q' : Int) (m : Nat) (L : List Int) (s : Nat) (w w' : World) (e : Ending) : Prop :=
  ∃ A cap, e = .returned (.tuple #[.agg #[.int .i64 (qIf ok q'), .slice A (nIf ok m) cap, .int .u64 (nIf ok s : Nat)], .bool ok]) ∧ Held w.heap.size w' A (nIf ok m) L ∧ Below w.heap.size w w'
theorem PartyAt.fail {w w' : World} {Q : Int} {m s : Nat} {L : List Int} (hb : Below w.heap.size w w') : PartyAt false Q m L s w w' (.returned (.tuple #[.agg #[.int .i64 0, .slice none 0 0, .int .u64 0], .bool false])) :=
  ⟨none, 0, rfl, Or.inl ⟨rfl, rfl⟩, hb⟩

set_option maxRecDepth 20000 in
set_option maxHeartbeats 1000000 in
theorem checkedP_yes (q : Int) (A : Option Addr) (n cap s : Nat) (ws : List Int) (w : World) (hm : n ≤ 9223372036854775807) (hk : Known w A n ws) (hg : goodB q ws n = true) :
    Calls Try.prog 80 #[.agg #[.int .i64 q, .slice A n cap, .int .u64 s]] w fun e w' => e = .returned (.tuple #[.agg #[.int .i64 q, .slice A n cap, .int .u64 s], .bool true]) ∧ Below w.heap.size w w' := by
  have HK := Lib.hid hk
  have HG := Lib.hid hg
  clear hk hg
  have hb0 : Below w.heap.size w ((w.alloc (.cells #[.int .i64 q, .slice A n cap, .int .u64 s] 80)).alloc (.cells #[.int .i64 0, .slice none 0 0, .int .u64 0] 80)) := (below1 w _).alloc (by simp) _
  have hx := (Box3.new 80 w (.int .i64 q) (.slice A n cap) (.int .u64 s)).alloc (.cells #[.int .i64 0, .slice none 0 0, .int .u64 0] 80)
  have hr := Box3.new 80 (w.alloc (.cells #[.int .i64 q, .slice A n cap, .int .u64 s] 80)) (.int .i64 0) (.slice none 0 0) (.int .u64 0)
  simp only [World.size_alloc] at hr
  obtain ⟨a0, a1, a2⟩ := hx.cells
  go_enter Try.func80, Try.ntmps80
  go_wp2_with fail
  refine (isCommittee_any q A n cap ws _ hm (HK.out.now hb0)).mono ?_
  rintro e w1 ⟨rfl, hb⟩
  rw [HG.out]
  have g1 := bfrom hb0 hb
  clear a0 a1 a2
  obtain ⟨c0, c1, c2⟩ := (hx.now hb).cells
  have hr1 := hr.now hb
  obtain ⟨d0, d1, d2⟩ := hr1.cells
  obtain ⟨f0, f1, f2⟩ := frozen_box3 hr1
  have hr3 := hr1.put (.int .i64 q) (.slice A n cap) (.int .u64 s)
  obtain ⟨e0, e1, e2⟩ := hr3.cells
  clear hx hr hb0
  go_wp2
  refine bodyPost_ret (v := .tuple #[.agg #[.int .i64 q, .slice A n cap, .int .u64 s], .bool true]) (by simp [results, Try.results80, go_sem, e0, e1, e2]) rfl ⟨rfl, ?_⟩
  exact ((g1.setCell (by simp) _).setCell (by simp) _).setCell (by simp) _

set_option maxRecDepth 20000 in
set_option maxHeartbeats 1000000 in
theorem checkedP_no (q : Int) (A : Option Addr) (n cap s : Nat) (ws : List Int) (w : World) (hm : n ≤ 9223372036854775807) (hk : Known w A n ws) (hg : goodB q ws n = false) :
    Calls Try.prog 80 #[.agg #[.int .i64 q, .slice A n cap, .int .u64 s]] w fun e w' => e = .returned (.tuple #[.agg #[.int .i64 0, .slice none 0 0, .int .u64 0], .bool false]) ∧ Below w.heap.size w w' := by
  have HK := Lib.hid hk
  have HG := Lib.hid hg
  clear hk hg
  have hb0 : Below w.heap.size w ((w.alloc (.cells #[.int .i64 q, .slice A n cap, .int .u64 s] 80)).alloc (.cells #[.int .i64 0, .slice none 0 0, .int .u64 0] 80)) := (below1 w _).alloc (by simp) _
  have hx := (Box3.new 80 w (.int .i64 q) (.slice A n cap) (.int .u64 s)).alloc (.cells #[.int .i64 0, .slice none 0 0, .int .u64 0] 80)
  have hr := Box3.new 80 (w.alloc (.cells #[.int .i64 q, .slice A n cap, .int .u64 s] 80)) (.int .i64 0) (.slice none 0 0) (.int .u64 0)
  simp only [World.size_alloc] at hr
  obtain ⟨a0, a1, a2⟩ := hx.cells
  go_enter Try.func80, Try.ntmps80
  go_wp2_with fail
  refine (isCommittee_any q A n cap ws _ hm (HK.out.now hb0)).mono ?_
  rintro e w1 ⟨rfl, hb⟩
  rw [HG.out]
  have g1 := bfrom hb0 hb
  clear a0 a1 a2
  have hr1 := hr.now hb
  obtain ⟨d0, d1, d2⟩ := hr1.cells
  obtain ⟨f0, f1, f2⟩ := frozen_box3 hr1
  have hr3 := hr1.put (.int .i64 0) (.slice none 0 0) (.int .u64 0)
  obtain ⟨e0, e1, e2⟩ := hr3.cells
  clear hx hr hb0
  go_wp2
  refine bodyPost_ret (v := .tuple #[.agg #[.int .i64 0, .slice none 0 0, .int .u64 0], .bool false]) (by simp [results, Try.results80, go_sem, e0, e1, e2]) rfl ⟨rfl, ?_⟩
  exact ((g1.setCell (by simp) _).setCell (by simp) _).setCell (by simp) _
end Go.Proofs.Ytipplbcjdcdapab
