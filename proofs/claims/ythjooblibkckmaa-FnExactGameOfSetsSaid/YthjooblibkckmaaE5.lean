/- Contract of the library's sort of sets by their keys. -/
import Derived.Test.YthjooblibkckmaaE4
import Derived.Test.YthjooblibkckmaaLF
import Derived.Test.YthjooblibkckmaaR1
import Derived.Shelf.SlSortCmp.NoneTotal
namespace Go.Proofs.Ythjooblibkckmaa
open Go.RowKit Vo

/-- Sets, as they lie in slices of sets. -/
abbrev Set9 : Type := { s : Nat // s < 512 }
instance : Inhabited Set9 := ⟨⟨0, by omega⟩⟩
def encS (x : Set9) : Value := .int .u64 (x.1 : Int)
def cfS (x y : Set9) : Int := ordC x.1 y.1
theorem ltS (x y : Set9) : Go.Proofs.ltOf cfS x y = before (mem x.1 9) (mem y.1 9) := by
  unfold Go.Proofs.ltOf cfS
  rw [Bool.eq_iff_iff, decide_eq_true_iff]
  exact ordC_neg
theorem swoS : Sort.SWO (Go.Proofs.ltOf cfS) where
  irrefl x := by rw [ltS]; exact before_irrefl _
  trans x y z h1 h2 := by rw [ltS] at *; exact before_trans h1 h2
  ntrans x y z h1 h2 := by
    rw [ltS] at *
    cases h : before (mem x.1 9) (mem z.1 9)
    · rfl
    · by_cases e : mem x.1 9 = mem y.1 9
      · rw [e] at h; rw [h] at h2; exact h2
      · have h3 := before_total h1 e
        have h4 := before_trans h3 h
        rw [h4] at h2; exact h2
theorem totS (x y : Set9) (h1 : Go.Proofs.ltOf cfS x y = false) (h2 : Go.Proofs.ltOf cfS y x = false) : x = y := by
  rw [ltS] at *
  by_cases e : mem x.1 9 = mem y.1 9
  · exact Subtype.ext (mem_inj (n := 9) x.2 y.2 e)
  · rw [before_total h1 e] at h2; cases h2

theorem heap_sortedS {w : World} {g n : Nat} {os : Array Obj} {cur : Array Value} {e : TypeId} {fr : Nat × Nat} (d : Array Set9) (hb : w.heap[g]? = some (.cells cur e fr)) :
    (Sort.grow (Sort.putRow encS (Sort.ahead w n) g 0 d) os).heap[g]? = some (.cells (Sort.putCells encS 0 d cur) e fr) := by
  have hg : g < w.heap.size := (Array.getElem?_eq_some_iff.1 hb).1
  rw [Sort.heap_grow_old _ _ (by simpa [Sort.putRow, Sort.mapBlock, Sort.ahead] using hg)]
  simp [Sort.putRow, Sort.mapBlock, Sort.ahead, Array.getElem?_modify, hb, Sort.onCells]
theorem grownBy_sortedS {w : World} {g n : Nat} {os : Array Obj} (d : Array Set9) : w.grownBy (Sort.grow (Sort.putRow encS (Sort.ahead w n) g 0 d) os) (some g) := by
  refine ⟨rfl, rfl, rfl, by simp [Sort.grow, Sort.putRow, Sort.mapBlock, Sort.ahead], fun k hk hne => ?_⟩
  rw [Sort.heap_grow_old _ _ (by simpa [Sort.putRow, Sort.mapBlock, Sort.ahead] using hk)]
  have : g ≠ k := fun e => hne (by rw [e])
  simp [Sort.putRow, Sort.mapBlock, Sort.ahead, Array.getElem?_modify, this]
theorem take_putCellsS (cur : Array Value) (ts : List Set9) (h : ts.length ≤ cur.size) : (Sort.putCells encS 0 ts.toArray cur).toList.take ts.length = ts.map encS := by
  apply List.ext_getElem?
  intro j
  by_cases hj : j < ts.length
  · rw [List.getElem?_take_of_lt hj, Array.getElem?_toList]
    simp [Sort.putCells, hj, show j < cur.size by omega]
  · rw [List.getElem?_take_eq_none (by omega), List.getElem?_eq_none (by simp; omega)]

/-- Sets of numbers below 512. -/
def subL : (L : List Nat) → (∀ s ∈ L, s < 512) → List Set9
  | [], _ => []
  | s :: L, h => ⟨s, h s (by simp)⟩ :: subL L (fun t ht => h t (by simp [ht]))
theorem subL_val : ∀ (L : List Nat) (h : ∀ s ∈ L, s < 512), (subL L h).map (·.1) = L
  | [], _ => rfl
  | s :: L, h => by simp [subL, subL_val L]
theorem subL_enc (L : List Nat) (h : ∀ s ∈ L, s < 512) : (subL L h).map encS = setsV L := by
  have := subL_val L h
  unfold setsV
  conv => rhs; rw [← this]
  rw [List.map_map]; rfl
theorem subL_len (L : List Nat) (h : ∀ s ∈ L, s < 512) : (subL L h).length = L.length := by
  have := congrArg List.length (subL_val L h); simpa using this

theorem eg_compare : ∀ args w, (callFunc 132 args).run Try.prog w = .ok (.enter 132 args) w := enters_of Try.func132 (by kernel_rfl) rfl
theorem cmp_lays (blk off size : Nat) (w : World) : Go.Proofs.CmpLays1 Try.prog 132 #[] encS cfS blk off size w := fun _ _ _ _ x y =>
  (compareSets_any x.1 y.1 _ x.2 y.2).mono fun _ _ ⟨he, hg⟩ => ⟨he, grown_of hg.1 hg.2⟩

set_option maxRecDepth 20000 in
set_option maxHeartbeats 2000000 in
/-- The sort: the same sets, in the order of their lists. -/
theorem sortFunc_any (S : List Nat) (base k cap : Nat) (A : Option Addr) (w : World) (hk : k = S.length) (hk5 : k ≤ 512) (hin : ∀ s ∈ S, s < 512) (hown : w.ownsRow base 78 1 (.slice A k cap) k (setsV S)) :
    Calls Try.prog 137 #[.slice A k cap, .func (.func 132) #[] #[]] w fun e w' =>
      e = .returned (.tuple #[]) ∧ ∃ S' : List Nat, S'.Perm S ∧ (S.Nodup → Sorted (S'.map fun t => mem t 9)) ∧ w'.ownsRow base 78 1 (.slice A k cap) k (setsV S') ∧ w.grownBy w' (A.map (·.block)) := by
  by_cases hz : k = 0
  · subst hz
    have hS : S = [] := List.length_eq_zero_iff.1 hk.symm
    subst hS
    refine (Go.Proofs.AnyF.slices_SortFunc_none { Try.sortL with } A cap (.func (.func 132) #[] #[]) w).mono ?_
    rintro e w' ⟨rfl, rfl⟩
    exact ⟨rfl, [], List.Perm.refl _, fun _ => List.Pairwise.nil, hown, ⟨rfl, rfl, rfl, Nat.le_refl _, fun _ _ _ => rfl⟩⟩
  · obtain ⟨g, cap', hv, hg, hc1, hc2⟩ := owns_head hown (by omega)
    obtain ⟨rfl, rfl⟩ : A = some ⟨g, 0, none⟩ ∧ cap = cap' := by simpa using hv
    rcases hown.2 with ⟨h, _⟩ | ⟨g', cap2, cur, hv2, _, hgb, r1, r2, r3, r4⟩
    · cases h
    obtain ⟨rfl, rfl⟩ : g = g' ∧ cap = cap2 := by simpa using hv2
    obtain ⟨D, hD⟩ : ∃ D, D = subL S hin := ⟨_, rfl⟩
    have hDl : D.length = k := by rw [hD, subL_len, hk]
    have hDe : D.map encS = setsV S := by rw [hD]; exact subL_enc S hin
    have hDv : D.map (·.1) = S := by rw [hD]; exact subL_val S hin
    have hlt : g < w.heap.size := (Array.getElem?_eq_some_iff.1 hgb).1
    have hH : Sort.Holds encS w g 0 D.toArray := by
      intro j hj
      have hj' : j < D.length := by simpa using hj
      refine ⟨?_, by simp [World.frozen?, hgb]⟩
      have h1 : (cur.toList.take (k * 1))[j]? = (D.map encS)[j]? := by rw [r4, hDe]
      rw [List.getElem?_take_of_lt (by omega)] at h1
      simp only [World.cell?, hgb, Nat.zero_add]
      simp only [Option.isSome_none, Bool.false_eq_true, if_false]
      rw [← Array.getElem?_toList, h1]
      simp [hj']
    have hsz : D.toArray.size < 4611686018427387904 := by
      have : D.toArray.size = k := by simpa using hDl
      omega
    have hs := Go.Proofs.Any.slices_SortFunc_total Try.sortL encS (fun _ => rfl) cfS swoS 132 #[] g 0 cap D.toArray w eg_compare (cmp_lays g 0 _ w) hH hlt hsz totS
    rw [show D.toArray.size = k from by simpa using hDl] at hs
    refine hs.mono ?_
    rintro e w' ⟨rfl, n, os, rfl⟩
    obtain ⟨ts, hts⟩ : ∃ ts, ts = D.toArray.toList.mergeSort fun x y => !(Go.Proofs.ltOf cfS) y x := ⟨_, rfl⟩
    rw [← hts]
    have hperm : ts.Perm D := by rw [hts]; simpa using List.mergeSort_perm D _
    have htl : ts.length = k := by rw [hperm.length_eq, hDl]
    refine ⟨rfl, ts.map (·.1), by rw [← hDv]; exact hperm.map _, fun hnd => ?_, ⟨by simp [setsV, htl], .inr ⟨g, cap, _, rfl, hg, heap_sortedS _ hgb, r1, r2, by simp [Sort.putCells, r3], ?_⟩⟩, grownBy_sortedS _⟩
    · have hp : ts.Pairwise (fun x y => (!(Go.Proofs.ltOf cfS) y x) = true) := by
        rw [hts]
        refine List.pairwise_mergeSort (le := fun x y => !(Go.Proofs.ltOf cfS) y x) (fun a b c h1 h2 => ?_) (fun a b => ?_) _
        · simp only [Bool.not_eq_true'] at h1 h2 ⊢
          exact swoS.ntrans _ _ _ h2 h1
        · cases h : Go.Proofs.ltOf cfS b a
          · rfl
          · have h2 : Go.Proofs.ltOf cfS a b = false := by
              cases h3 : Go.Proofs.ltOf cfS a b
              · rfl
              · rw [ltS] at h h3; rw [before_asymm h] at h3; cases h3
            rw [h2]; rfl
      have hnd2 : ts.Nodup := by
        refine hperm.symm.nodup ?_
        rw [← hDv] at hnd
        exact List.Pairwise.of_map (·.1) (fun a b h e => h (by rw [e])) hnd
      unfold Sorted
      rw [List.map_map, List.pairwise_map]
      refine (List.Pairwise.and hp hnd2).imp fun {a b} h => ?_
      obtain ⟨h1, h2⟩ := h
      simp only [Bool.not_eq_true'] at h1
      cases h3 : Go.Proofs.ltOf cfS a b
      · exact absurd (totS a b h3 h1) h2
      · rw [ltS] at h3; exact h3
    · have h := take_putCellsS cur ts (by rw [r3]; omega)
      rw [Nat.mul_one, ← htl, h]
      simp [setsV, encS]
end Go.Proofs.Ythjooblibkckmaa
