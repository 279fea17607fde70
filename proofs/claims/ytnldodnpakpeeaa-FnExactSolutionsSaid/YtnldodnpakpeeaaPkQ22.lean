/- Texts of E6, B1. -/
import Derived.RangeFuncBox
import Derived.RangeFuncLeaves
import Derived.Shelf.Abstract
import Derived.OwnWalkIn
import Derived.TacticsInMore
import Derived.LoopNIn
import Derived.LoopIn
import Derived.Maps.AppendAt
import Derived.Test.YtnldodnpakpeeaaPkQ21
import Derived.Test.YtnldodnpakpeeaaPkQ07
import Derived.Shelf.SlSortCmp.NoneTotal
import Derived.Test.YtnldodnpakpeeaaPkQ00
namespace Go.Proofs.Ytnldodnpakpeeaa
open Go.RowKit Vo

/-- Sets, as they lie in slices of sets. -/
abbrev Set9 : Type := { s : Nat // s < 512 }
instance : Inhabited Set9 := ⟨⟨0, by omega⟩⟩
def encS (x : Set9) : Value := .int .u64 (x.1 : Int)
def cfS (x y : Set9) : Int := ordC x.1 y.1
theorem ltS (x y : Set9) : Go.Proofs.ltOf cfS x y = before (mem x.1 9) (mem y.1 9) := by
  unfold Go.Proofs.ltOf cfS
  rw [Bool.eq_iff_iff, decide_eq_true_iff]
  exact ordC_neg
theorem swoS : Sort.SWO (Go.Proofs.ltOf cfS) where
  irrefl x := by rw [ltS]; exact before_irrefl _
  trans x y z h1 h2 := by rw [ltS] at *; exact before_trans h1 h2
  ntrans x y z h1 h2 := by
    rw [ltS] at *
    cases h : before (mem x.1 9) (mem z.1 9)
    · rfl
    · by_cases e : mem x.1 9 = mem y.1 9
      · rw [e] at h; rw [h] at h2; exact h2
      · have h3 := before_total h1 e
        have h4 := before_trans h3 h
        rw [h4] at h2; exact h2
theorem totS (x y : Set9) (h1 : Go.Proofs.ltOf cfS x y = false) (h2 : Go.Proofs.ltOf cfS y x = false) : x = y := by
  rw [ltS] at *
  by_cases e : mem x.1 9 = mem y.1 9
  · exact Subtype.ext (mem_inj (n := 9) x.2 y.2 e)
  · rw [before_total h1 e] at h2; cases h2

theorem heap_sortedS {w : World} {g n : Nat} {os : Array Obj} {cur : Array Value} {e : TypeId} {fr : Nat × Nat} (d : Array Set9) (hb : w.heap[g]? = some (.cells cur e fr)) :
    (Sort.grow (Sort.putRow encS (Sort.ahead w n) g 0 d) os).heap[g]? = some (.cells (Sort.putCells encS 0 d cur) e fr) := by
  have hg : g < w.heap.size := (Array.getElem?_eq_some_iff.1 hb).1
  rw [Sort.heap_grow_old _ _ (by simpa [Sort.putRow, Sort.mapBlock, Sort.ahead] using hg)]
  simp [Sort.putRow, Sort.mapBlock, Sort.ahead, Array.getElem?_modify, hb, Sort.onCells]
theorem grownBy_sortedS {w : World} {g n : Nat} {os : Array Obj} (d : Array Set9) : w.grownBy (Sort.grow (Sort.putRow encS (Sort.ahead w n) g 0 d) os) (some g) := by
  refine ⟨rfl, rfl, rfl, by simp [Sort.grow, Sort.putRow, Sort.mapBlock, Sort.ahead], fun k hk hne => ?_⟩
  rw [Sort.heap_grow_old _ _ (by simpa [Sort.putRow, Sort.mapBlock, Sort.ahead] using hk)]
  have : g ≠ k := fun e => hne (by rw [e])
  simp [Sort.putRow, Sort.mapBlock, Sort.ahead, Array.getElem?_modify, this]
theorem take_putCellsS (cur : Array Value) (ts : List Set9) (h : ts.length ≤ cur.size) : (Sort.putCells encS 0 ts.toArray cur).toList.take ts.length = ts.map encS := by
  apply List.ext_getElem?
  intro j
  by_cases hj : j < ts.length
  · rw [List.getElem?_take_of_lt hj, Array.getElem?_toList]
    simp [Sort.putCells, hj, show j < cur.size by omega]
  · rw [List.getElem?_take_eq_none (by omega), List.getElem?_eq_none (by simp; omega)]

/-- Sets of numbers below 512. -/
def subL : (L : List Nat) → (∀ s ∈ L, s < 512) → List Set9
  | [], _ => []
  | s :: L, h => ⟨s, h s (by simp)⟩ :: subL L (fun t ht => h t (by simp [ht]))
theorem subL_val : ∀ (L : List Nat) (h : ∀ s ∈ L, s < 512), (subL L h).map (·.1) = L
  | [], _ => rfl
  | s :: L, h => by simp [subL, subL_val L]
theorem subL_enc (L : List Nat) (h : ∀ s ∈ L, s < 512) : (subL L h).map encS = setsV L := by
  have := subL_val L h
  unfold setsV
  conv => rhs; rw [← this]
  rw [List.map_map]; rfl
theorem subL_len (L : List Nat) (h : ∀ s ∈ L, s < 512) : (subL L h).length = L.length := by
  have := congrArg List.length (subL_val L h); simpa using this

theorem eg_compare : ∀ args w, (callFunc 77 args).run Try.prog w = .ok (.enter 77 args) w := enters_of Try.func77 (by kernel_rfl) rfl
theorem cmp_lays (blk off size : Nat) (w : World) : Go.Proofs.CmpLays1 Try.prog 77 #[] encS cfS blk off size w := fun _ _ _ _ x y =>
  (compareSets_any x.1 y.1 _ x.2 y.2).mono fun _ _ ⟨he, hg⟩ => ⟨he, grown_of hg.1 hg.2⟩

set_option maxRecDepth 20000 in
set_option maxHeartbeats 2000000 in
/-- The sort: the same sets, in the order of their lists. -/
theorem sortFunc_any (S : List Nat) (base k cap : Nat) (A : Option Addr) (w : World) (hk : k = S.length) (hk5 : k ≤ 512) (hin : ∀ s ∈ S, s < 512) (hown : w.ownsRow base 107 1 (.slice A k cap) k (setsV S)) :
    Calls Try.prog 193 #[.slice A k cap, .func (.func 77) #[] #[]] w fun e w' =>
      e = .returned (.tuple #[]) ∧ ∃ S' : List Nat, S'.Perm S ∧ (S.Nodup → Sorted (S'.map fun t => mem t 9)) ∧ w'.ownsRow base 107 1 (.slice A k cap) k (setsV S') ∧ w.grownBy w' (A.map (·.block)) := by
  by_cases hz : k = 0
  · subst hz
    have hS : S = [] := List.length_eq_zero_iff.1 hk.symm
    subst hS
    refine (Go.Proofs.AnyF.slices_SortFunc_none { Try.sortL with } A cap (.func (.func 77) #[] #[]) w).mono ?_
    rintro e w' ⟨rfl, rfl⟩
    exact ⟨rfl, [], List.Perm.refl _, fun _ => List.Pairwise.nil, hown, ⟨rfl, rfl, rfl, Nat.le_refl _, fun _ _ _ => rfl⟩⟩
  · obtain ⟨g, cap', hv, hg, hc1, hc2⟩ := owns_head hown (by omega)
    obtain ⟨rfl, rfl⟩ : A = some ⟨g, 0, none⟩ ∧ cap = cap' := by simpa using hv
    rcases hown.2 with ⟨h, _⟩ | ⟨g', cap2, cur, hv2, _, hgb, r1, r2, r3, r4⟩
    · cases h
    obtain ⟨rfl, rfl⟩ : g = g' ∧ cap = cap2 := by simpa using hv2
    obtain ⟨D, hD⟩ : ∃ D, D = subL S hin := ⟨_, rfl⟩
    have hDl : D.length = k := by rw [hD, subL_len, hk]
    have hDe : D.map encS = setsV S := by rw [hD]; exact subL_enc S hin
    have hDv : D.map (·.1) = S := by rw [hD]; exact subL_val S hin
    have hlt : g < w.heap.size := (Array.getElem?_eq_some_iff.1 hgb).1
    have hH : Sort.Holds encS w g 0 D.toArray := by
      intro j hj
      have hj' : j < D.length := by simpa using hj
      refine ⟨?_, by simp [World.frozen?, hgb]⟩
      have h1 : (cur.toList.take (k * 1))[j]? = (D.map encS)[j]? := by rw [r4, hDe]
      rw [List.getElem?_take_of_lt (by omega)] at h1
      simp only [World.cell?, hgb, Nat.zero_add]
      simp only [Option.isSome_none, Bool.false_eq_true, if_false]
      rw [← Array.getElem?_toList, h1]
      simp [hj']
    have hsz : D.toArray.size < 4611686018427387904 := by
      have : D.toArray.size = k := by simpa using hDl
      omega
    have hs := Go.Proofs.Any.slices_SortFunc_total Try.sortL encS (fun _ => rfl) cfS swoS 77 #[] g 0 cap D.toArray w eg_compare (cmp_lays g 0 _ w) hH hlt hsz totS
    rw [show D.toArray.size = k from by simpa using hDl] at hs
    refine hs.mono ?_
    rintro e w' ⟨rfl, n, os, rfl⟩
    obtain ⟨ts, hts⟩ : ∃ ts, ts = D.toArray.toList.mergeSort fun x y => !(Go.Proofs.ltOf cfS) y x := ⟨_, rfl⟩
    rw [← hts]
    have hperm : ts.Perm D := by rw [hts]; simpa using List.mergeSort_perm D _
    have htl : ts.length = k := by rw [hperm.length_eq, hDl]
    refine ⟨rfl, ts.map (·.1), by rw [← hDv]; exact hperm.map _, fun hnd => ?_, ⟨by simp [setsV, htl], .inr ⟨g, cap, _, rfl, hg, heap_sortedS _ hgb, r1, r2, by simp [Sort.putCells, r3], ?_⟩⟩, grownBy_sortedS _⟩
    · have hp : ts.Pairwise (fun x y => (!(Go.Proofs.ltOf cfS) y x) = true) := by
        rw [hts]
        refine List.pairwise_mergeSort (le := fun x y => !(Go.Proofs.ltOf cfS) y x) (fun a b c h1 h2 => ?_) (fun a b => ?_) _
        · simp only [Bool.not_eq_true'] at h1 h2 ⊢
          exact swoS.ntrans _ _ _ h2 h1
        · cases h : Go.Proofs.ltOf cfS b a
          · rfl
          · have h2 : Go.Proofs.ltOf cfS a b = false := by
              cases h3 : Go.Proofs.ltOf cfS a b
              · rfl
              · rw [ltS] at h h3; rw [before_asymm h] at h3; cases h3
            rw [h2]; rfl
      have hnd2 : ts.Nodup := by
        refine hperm.symm.nodup ?_
        rw [← hDv] at hnd
        exact List.Pairwise.of_map (·.1) (fun a b h e => h (by rw [e])) hnd
      unfold Sorted
      rw [List.map_map, List.pairwise_map]
      refine (List.Pairwise.and hp hnd2).imp fun {a b} h => ?_
      obtain ⟨h1, h2⟩ := h
      simp only [Bool.not_eq_true'] at h1
      cases h3 : Go.Proofs.ltOf cfS a b
      · exact absurd (totS a b h3 h1) h2
      · rw [ltS] at h3; exact h3
    · have h := take_putCellsS cur ts (by rw [r3]; omega)
      rw [Nat.mul_one, ← htl, h]
      simp [setsV, encS]
end Go.Proofs.Ytnldodnpakpeeaa

namespace Go.Proofs.Ytnldodnpakpeeaa
open Go.RowKit Vo
attribute [local go_sem] Oper.semAt_some

theorem keeps_walks {W W' : World} (h : KeepsOthers W W') : KeepsWalks W W' := ⟨h.size, fun k o hk ho => h.same k o hk (Obj.not_cells_of_walk ho)⟩

/-- What is collected: the sets that came, in a slice of the call's own. -/
def Collects (S : List Set9 → Prop) (w w' : World) (e : Ending) : Prop :=
  ∃ (v : Value) (ss : List Set9), e = .returned v ∧ S ss ∧ w'.ownsRow w.heap.size 107 1 v ss.length (ss.map fun x => Value.int .u64 (x.1 : Int)) ∧ (v = .slice none 0 0 ↔ ss = []) ∧ Below w.heap.size w w'

set_option maxRecDepth 100000 in
set_option maxHeartbeats 2000000 in
theorem appendSeq_in (F : Fence) (n : Nat) (hf : F.fn 208) (hro : F.round = none) (hn : 3 ≤ n) (g : Nat) (lb : Array Value) (hFg : F.fn g) (eg : ∀ args w, (callFunc g args).run Try.prog w = .ok (.enter g args) w)
    (Kp : World → World → Prop) (S Sp : List Set9 → Prop) (N : Nat) (hN : N ≤ 1048576) (w : World) (hKt : ∀ {A B C : World}, Kp A B → Kp B C → Kp A C)
    (hKb : ∀ (W : World) (l : Nat) (o o' : Obj), w.heap.size + 1 ≤ l → W.heap[l]? = some o → o.isCells = false → o.isWalk = false → Kp W (W.putObj l o')) (hKp : ∀ W W', KeepsOthers W W' → Below w.heap.size W W' → Kp W W')
    (hseq : SeqStopsK F (n - 1) Try.prog g lb (fun x : Set9 => #[Value.int .u64 (x.1 : Int)]) Kp S Sp N w) :
    CallsIn F n Try.prog 208 #[.slice none 0 0, .func (.func g) #[] lb] w fun e w' => Collects S w w' e := by
  have h1 : 1 ≤ n := by omega
  obtain ⟨i0, hi, hz0, hz1, hz2⟩ := info_parts infoSet
  refine callsIn_of_wp_marks Try.func208 rfl hf ?_ hro
  simp only [Try.ntmps208, List.size_toArray, List.length_cons, List.length_nil, Nat.reduceAdd, Nat.reduceSub, Array.replicate_succ, Array.replicate_zero, List.push_toArray, List.append_toArray, List.nil_append, List.cons_append]
  gi_wp2
  have bO := Boxed.new w 93 (.slice none 0 0)
  have hB0 : Below w.heap.size w (w.alloc (.cells #[.slice none 0 0] 93)) := (Below.refl _ w).alloc (Nat.le_refl _) _
  refine wpIn_rangeFunc_ownG hro h1 (gf := g) (lb := lb) rfl hFg eg hseq hKt (fun W l o o' h => hKb W l o o' (by simpa using h)) hB0 (fun _ => rfl)
    (fun pre W => (∃ v, Boxed W w.heap.size 93 v ∧ W.ownsRow w.heap.size 107 1 v pre.length (pre.map fun x => Value.int .u64 (x.1 : Int)) ∧ (v = .slice none 0 0 ↔ pre = [])) ∧ Below w.heap.size w W)
    (fun _ _ _ => False)
    (OwnFrom.and (Own.from (holdsRow_own w.heap.size w.heap.size 93 107 1 (fun pre : List Set9 => pre.length) (fun pre => pre.map fun x => Value.int .u64 (x.1 : Int)) (fun pre v => v = .slice none 0 0 ↔ pre = [])) _) (ownFrom_below (Nat.le_refl _) (by simp)))
    (fun _ _ _ _ _ hs _ _ => hs)
    ⟨⟨_, bO, World.ownsRow_nil _ _ _ _, by simp⟩, hB0⟩
    (fun x => { tmps := #[.slice none 0 0, .func (.func g) #[] lb, .pointer (some ⟨w.heap.size, 0, none⟩), undef, .slice none 0 0, .int .u64 (x.1 : Int), .func (.func g) #[] lb, .int .u64 (x.1 : Int), undef, undef, undef, undef, undef], defers := [] }) ?assign ?body ?done ?stop
  case assign =>
    intro l x W K hK
    gi_wp2
    exact hK
  case body =>
    rintro l pre x W ⟨⟨v, hv, hrow, hnil⟩, hB⟩ hlt
    have hc := hv.cell
    gi_wp2_with (gi_at_builtin; refine wpListIn_append_own _ rfl _ _ 93 rfl w.heap.size 107 i0 (.int .u64 0) 1 8 Try.underlying93 hi hz0 hz1 hz2 rfl (by decide) _ _ _ rfl (hrow.alloc _) ⟨W.heap.size, 0, none⟩ 1 1 [.int .u64 (x.1 : Int)] rfl rfl (cell_one_new _ _ _) (by simp [Value.oneCell']) (by unfold maxLen; omega) (by omega) (by have := hB.size; simp; omega) ?_; intro v' w1 hown' hgrow _; obtain ⟨g', cap', rfl⟩ := ownsRow_succ hown'; obtain ⟨hv1, hv2, hr2, hk2, hb2⟩ := hv.appended (by decide) hrow hB.size (Nat.le_refl _) hown' hgrow; have hc1 := hv1.cell; have hf1 := hv1.frozen)
    exact ⟨hk2.from _, hKp _ _ hk2 hb2, ⟨_, hv2, by simpa using hr2, by simp⟩, hB.trans hb2⟩
  case done =>
    rintro D ys W hD hS ⟨⟨v, hv, hrow, hnil⟩, hB⟩ hK
    have hc := hv.cell
    gi_wp2
    refine ⟨by simp, .inl ⟨_, _, rfl, run_takeDeferred hK, ?_⟩⟩
    exact ⟨_, results_tmp rfl _ _ _, v, ys, rfl, hS, ownsRow_putObj hrow _ hK rfl, hnil, hB.trans (belowK_b (w := w) (Nat.le_refl _) W D _ _ (by simp at hD; omega) hK rfl rfl)⟩
  case stop =>
    rintro D c pre W _ _ h _
    exact h.elim

set_option maxHeartbeats 1000000 in
theorem collect_in (F : Fence) (n : Nat) (hf : F.fn 190) (hf2 : F.fn 208) (hro : F.round = none) (hn : 4 ≤ n) (g : Nat) (lb : Array Value) (hFg : F.fn g) (eg : ∀ args w, (callFunc g args).run Try.prog w = .ok (.enter g args) w)
    (Kp : World → World → Prop) (S Sp : List Set9 → Prop) (N : Nat) (hN : N ≤ 1048576) (w : World) (hKt : ∀ {A B C : World}, Kp A B → Kp B C → Kp A C)
    (hKb : ∀ (W : World) (l : Nat) (o o' : Obj), w.heap.size + 1 ≤ l → W.heap[l]? = some o → o.isCells = false → o.isWalk = false → Kp W (W.putObj l o')) (hKp : ∀ W W', KeepsOthers W W' → Below w.heap.size W W' → Kp W W')
    (hseq : SeqStopsK F (n - 1 - 1) Try.prog g lb (fun x : Set9 => #[Value.int .u64 (x.1 : Int)]) Kp S Sp N w) :
    CallsIn F n Try.prog 190 #[.func (.func g) #[] lb] w fun e w' => Collects S w w' e := by
  refine callsIn_of_wp Try.func190 rfl hf ?_ hro
  simp only [Try.ntmps190, List.size_toArray, List.length_cons, List.length_nil, Nat.reduceAdd, Nat.reduceSub, Array.replicate_succ, Array.replicate_zero, List.push_toArray, List.append_toArray, List.nil_append, List.cons_append]
  have h1 : 1 ≤ n := by omega
  gi_wp2_with (gi_at_call 208; refine (appendSeq_in F (n - 1) hf2 hro (by omega) g lb hFg eg Kp S Sp N hN _ hKt hKb hKp hseq).mono ?_; rintro e w' ⟨v, ss, rfl, hS, hrow, hnil, hb⟩)
  go_ret
  exact ⟨v, ss, rfl, hS, hrow, hnil, hb⟩

/-- The iterator over a slice of sets, at each loop's body that keeps what lay below n₀. -/
def upS (D : List Set9) (k : Nat) : List Set9 := D.take k
theorem upS_succ {D : List Set9} {k : Nat} (h : k < D.length) : upS D (k + 1) = upS D k ++ [D[k]] := by
  unfold upS; rw [List.take_add_one, List.getElem?_eq_getElem h]; rfl

set_option maxRecDepth 100000 in
set_option maxHeartbeats 2000000 in
theorem sliceValues1_in (F : Fence) (n : Nat) (hf : F.fn 194) (hro : F.round = none) (hn : 1 ≤ n) (l Bs n₀ : Nat) (A : Option Addr) (len cap : Nat) (D : List Set9) (hlen : len = D.length) (J Jx : List Set9 → World → Prop)
    (hY : ∀ pre x W, J pre W → pre.length < len → YieldAt F (n - 1) Try.prog l #[Value.int .u64 (x.1 : Int)] W fun e W' =>
      (e = .returned (.bool true) ∧ J (pre ++ [x]) W' ∧ Below n₀ W W') ∨ (e = .returned (.bool false) ∧ Jx (pre ++ [x]) W'))
    (W : World) (hBs : W.cell? ⟨Bs, 0, none⟩ = some (.slice A len cap)) (hc : ∀ j (h : j < D.length), ∃ b, A = some ⟨b, 0, none⟩ ∧ b < n₀ ∧ W.cell? ⟨b, j, none⟩ = some (.int .u64 (D[j].1 : Int))) (hsz : len ≤ 512) (h0 : J [] W) :
    CallsIn F n Try.prog 194 #[.func (.yield l) #[] #[], .pointer (some ⟨Bs, 0, none⟩)] W fun e W' => (∃ v, e = .returned v) ∧
      ((∃ ys, ys = D ∧ J ys W') ∨ (∃ pre, (∃ k, k ≤ len ∧ pre = upS D k) ∧ Jx pre W')) := by
  have HC := Lib.hid hc
  have HL := Lib.hid hlen
  clear hc hlen
  refine callsIn_of_wp Try.func194 rfl hf ?_ hro
  simp only [Try.ntmps194, List.size_toArray, List.length_cons, List.length_nil, Nat.reduceAdd, Nat.reduceSub, Array.replicate_succ, Array.replicate_zero, List.push_toArray, List.append_toArray, List.nil_append, List.cons_append]
  gi_wp2
  gi_loopw [4, 7] (fun _ i wr => ∃ k : Nat, k ≤ len ∧ i = .int .i64 k ∧ J (upS D k) wr ∧ Below n₀ W wr)
    (fun _ i _ => len - (intOf i).toNat)
  case atStart => exact ⟨0, Nat.zero_le _, rfl, by simpa [upS] using h0, Below.refl _ _⟩
  case round =>
    obtain ⟨k, hk, rfl, hJs, hnx⟩ := hrel
    by_cases hlt : k < len
    · have hkD : k < D.length := by have := HL.out; omega
      obtain ⟨b, rfl, hb, hcell⟩ := HC.out k hkD
      have hcx' := (hnx.cell (p := ⟨b, k, none⟩) hb).trans hcell
      obtain ⟨fn, tmps, assign, body, hy, hR⟩ := hY _ D[k] wr hJs (by simp [upS]; omega)
      have HUP := Lib.hid (upS_succ hkD)
      clear hcell
      gi_wp2
      refine hR.mono ?_
      rintro e W3 (⟨rfl, hJ3, hk3⟩ | ⟨rfl, hJx3⟩)
      · gi_wp2
        go_roundw
        case rel => exact ⟨k + 1, by omega, by simp, by rw [HUP.out]; exact hJ3, hnx.trans hk3⟩
        case measure => simp [intOf]; omega
      · gi_wp2
        refine bodyPost_ret (results_none rfl _ _ _) rfl ?_
        exact ⟨⟨_, rfl⟩, .inr ⟨_, ⟨k + 1, by omega, HUP.out.symm⟩, hJx3⟩⟩
    · obtain rfl : k = len := by omega
      gi_wp2
      go_end0
      exact ⟨⟨_, rfl⟩, .inl ⟨_, by rw [HL.out]; simp [upS], hJs⟩⟩
end Go.Proofs.Ytnldodnpakpeeaa

namespace Go.Proofs.Ytnldodnpakpeeaa
open Go.RowKit

/-- The box of one value. -/
def Box1 (t : TypeId) (w : World) (g : Nat) (v : Value) : Prop := w.heap[g]? = some (.cells #[v] t (0, 0))
namespace Box1
variable {t : TypeId} {w w' : World} {g : Nat} {v : Value}
theorem lt (h : Box1 t w g v) : g < w.heap.size := (Array.getElem?_eq_some_iff.1 h).1
theorem cell (h : Box1 t w g v) : w.cell? ⟨g, 0, none⟩ = some v := by unfold Box1 at h; simp [World.cell?, h]
theorem now (h : Box1 t w g v) (hb : Below w.heap.size w w') : Box1 t w' g v := (hb.block g h.lt).trans h
theorem drew (h : Box1 t w g v) : Box1 t w.drew g v := h
theorem alloc (h : Box1 t w g v) (o : Obj) : Box1 t (w.alloc o) g v := h.now ((Below.refl _ _).alloc (Nat.le_refl _) _)
theorem new (t : TypeId) (w : World) (v : Value) : Box1 t (w.alloc (.cells #[v] t)) w.heap.size v := heap_alloc_new w _
end Box1
end Go.Proofs.Ytnldodnpakpeeaa
