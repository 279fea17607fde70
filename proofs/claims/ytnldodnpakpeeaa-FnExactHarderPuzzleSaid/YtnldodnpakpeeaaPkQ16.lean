/- Texts of Yh, Yj. -/
import Derived.Test.YtnldodnpakpeeaaPkQ15
import Derived.Lib.LazyBuf
import Derived.Deep.RegionLaw
import Derived.Lib.SliceRun
import Derived.Shelf.RegionOpenPlain
namespace Go.Proofs.Ytnldodnpakpeeaa
open Go.RowKit Vo

theorem cluesV_app : ∀ (D C : List Clu), cluesV (C ++ D) = cluesV C ++ cluesV D
  | [], C => by simp [cluesV]
  | c :: D, C => by
    have h1 := cluesV_app D (C ++ [c])
    have h2 := cluesV_app D ([] ++ [c])
    rw [cluesV_snoc] at h1 h2
    rw [show C ++ c :: D = C ++ [c] ++ D from by simp, h1, show c :: D = [] ++ [c] ++ D from rfl, h2]
    simp [cluesV]
/-- The clues without the one with an index. -/
def dropC (C : List Clu) (k : Nat) : List Clu := C.take k ++ C.drop (k+1)
theorem dropC_len {C : List Clu} {k : Nat} (h : k < C.length) : (dropC C k).length = C.length - 1 := by
  unfold dropC; rw [List.length_append, List.length_take, List.length_drop]; omega
theorem cAt_drop (C : List Clu) (k i : Nat) : cAt (C.drop k) i = cAt C (k + i) := by
  unfold cAt
  rw [List.getD_eq_getElem?_getD, List.getD_eq_getElem?_getD, List.getElem?_drop]
theorem cAt_front {C : List Clu} {j t : Nat} (h : t < j) : cAt (C.take j) t = cAt C t := by
  unfold cAt
  rw [List.getD_eq_getElem?_getD, List.getD_eq_getElem?_getD, List.getElem?_take, if_pos h]
theorem clF_back (C : List Clu) (k j : Nat) : clF (C.drop k) j = clF C (k * 3 + j) := by
  unfold clF
  rw [show (k * 3 + j) % 3 = j % 3 from by omega, show (k * 3 + j) / 3 = k + j / 3 from by omega, cAt_drop]
theorem kcl_front {w : World} {b0 n : Nat} {C : List Clu} (h : KCl w (some ⟨b0, 0, none⟩) n C) {j : Nat} (hj : j ≤ n) : KCl w (some ⟨b0, 0, none⟩) j (C.take j) := by
  refine ⟨by rw [List.length_take, h.1]; omega, b0, 0, fun h1 => ⟨rfl, ?_⟩⟩
  obtain ⟨b, off, hA, hc⟩ := h.get (by omega)
  injection hA with hA
  injection hA with h2 h3
  subst h2 h3
  refine ⟨hc.lt, fun i hi => ?_⟩
  rw [hc.cell i (by omega)]
  unfold clF
  rw [cAt_front (show i / 3 < j by omega)]
theorem clu_back {W : World} {n b0 k : Nat} {C : List Clu} (h : KCl W (some ⟨b0, 0, none⟩) n C) : ∀ (j : Nat) (u : Value), (cluesV (C.drop k))[j]? = some u → W.cell? ((⟨b0, k * 3, none⟩ : Addr).add j) = some u := by
  intro j u hj
  have hj3 : j < 3 * (C.drop k).length := by
    have := (List.getElem?_eq_some_iff.1 hj).1
    rwa [cluesV_len] at this
  rw [cluesV_get _ hj3] at hj
  injection hj with hj
  rw [← hj, clF_back]
  have hl := h.1
  rw [List.length_drop] at hj3
  obtain ⟨b, off, hA, hcl⟩ := h.get (by omega)
  injection hA with hA
  injection hA with h1 h2
  subst h1 h2
  have := hcl.cell (k * 3 + j) (by omega)
  rw [Nat.zero_add] at this
  rw [show (⟨b0, k * 3, none⟩ : Addr).add j = ⟨b0, k * 3 + j, none⟩ from by unfold Addr.add; split <;> simp_all]
  exact this

set_option maxRecDepth 20000 in
set_option maxHeartbeats 8000000 in
theorem pzWithout_any (b0 n cap k : Nat) (C : List Clu) (w : World) (hn : n ≤ 1048576) (hkn : k < n) (hcap : n ≤ cap) (hcm : cap ≤ 9223372036854775807) (hk : KCl w (some ⟨b0, 0, none⟩) n C) :
    Calls Try.prog 50 #[.slice (some ⟨b0, 0, none⟩) n cap, .int .i64 k] w fun e w' => ∃ B cp, e = .returned (.slice B (n-1) cp) ∧ OwnCl w' w.heap.size (.slice B (n-1) cp) (dropC C k) ∧ Below w.heap.size w w' := by
  obtain ⟨i0, hi0, hz0, hz1, hz2⟩ := info_parts infoClue
  obtain ⟨ad, had⟩ : ∃ ad : Addr, ad = if cap = k + 1 then ⟨b0, 0, none⟩ else ⟨b0, (k+1) * 3, none⟩ := ⟨_, rfl⟩
  have hlen := hk.1
  have HK := Lib.hid hk
  have HNB := Lib.hid (show ∀ W, Below w.heap.size w W → ∀ (j : Nat) (u : Value), (cluesV (C.drop (k+1)))[j]? = some u → W.cell? (ad.add j) = some u from fun W hW => by
    by_cases e : cap = k + 1
    · intro j u hj
      have : C.drop (k+1) = [] := List.drop_eq_nil_of_le (by omega)
      rw [this] at hj
      simp [cluesV] at hj
    · rw [had, if_neg e]
      exact clu_back (hk.now hW))
  have HNF := Lib.hid (show ∀ W, Below w.heap.size w W → ∀ (j : Nat) (u : Value), (cluesV (C.take k))[j]? = some u → W.cell? ((⟨b0, 0, none⟩ : Addr).add j) = some u from fun W hW => clu_news (kcl_front (hk.now hW) (by omega)))
  have HL1 := Lib.hid (show (cluesV (C.take k)).length = k * 3 from by rw [cluesV_len, List.length_take, hlen]; omega)
  have HL2 := Lib.hid (show (cluesV (C.drop (k+1))).length = (n - (k+1)) * 3 from by rw [cluesV_len, List.length_drop, hlen]; omega)
  have HAP := Lib.hid (show cluesV (dropC C k) = cluesV (C.take k) ++ cluesV (C.drop (k+1)) from cluesV_app _ _)
  have HDL := Lib.hid (show (dropC C k).length = n - 1 from by rw [dropC_len (by omega), hlen])
  have hk0 : (0 : Int) ≤ (k : Int) := by omega
  have hkc : (k : Int) ≤ (cap : Int) := by omega
  have hk1 : (k : Int) + 1 ≤ (n : Int) := by omega
  have hk1c : (k : Int) + 1 ≤ (cap : Int) := by omega
  have hk10 : (0 : Int) ≤ (k : Int) + 1 := by omega
  have hkw : IntKind.i64.wrap ((k : Int) + 1) = (k : Int) + 1 := IntWalk.i64_in _ (by omega)
  have hAa : (w.alloc (.cells #[] 130)).heap[w.heap.size]? = some (.cells #[] 130) := heap_alloc_new w _
  have B1 := Lib.hid ((Below.refl w.heap.size w).alloc (Nat.le_refl _) (.cells #[] 130))
  have B2 := Lib.hid ((Below.refl w.heap.size w).drew.alloc (Nat.le_refl _) (.cells #[] 130))
  have B3 := Lib.hid ((Below.refl w.heap.size w).alloc (Nat.le_refl _) (.cells #[] 130)).drew
  by_cases e : cap = k + 1
  · rw [if_pos e] at had
    obtain rfl : n = k + 1 := by omega
    subst e had
    have HNM := Lib.hid (show k + 0 = k + 1 - 1 from rfl)
    have hkk : (k : Int) ≤ (k : Int) + 1 := by omega
    have HL3 := Lib.hid (show (cluesV (C.drop (k+1))).length = 0 * 3 from by rw [HL2.out]; omega)
    clear hk hlen HL2
    go_enter Try.func50, Try.ntmps50
    go_wp2_with fail
    go_region_held3 (fun _ => True)
      (first | trivial | go_keep)
      (first
        | (refine step_append_newN _ ?_ (.tmp 5) (.tmp 8) _ ?_ w.heap.size 130 i0 (.agg #[.int .i64 0, .int .i64 0, .int .i64 0]) 3 24 Try.underlying26 hi0 hz0 hz1 hz2 rfl ?_ (.slice (some ⟨w.heap.size, 0, none⟩) 0 0) ?_ (own_empty (Nat.le_refl _) hAa) ⟨b0, 0, none⟩ k (k + 1) (cluesV (C.take k)) ?_ ?_ (HNF.out _ (by first | exact B1.out | exact B2.out | exact B3.out)) (cluesV_one _) ?_ ?_ (Below.size (B := w.heap.size) (w := w) (by first | exact B1.out | exact B2.out | exact B3.out)) ?_; (rfl); (rfl); (omega); (rfl); (rfl); (exact HL1.out); (unfold maxLen; omega); (omega); intro B cp w5 hown5 hgrow5 hob5; have b5 : Below w.heap.size w w5 := Below.grown (by first | exact B1.out | exact B2.out | exact B3.out) hgrow5 (Below.size (B := w.heap.size) (w := w) (by first | exact B1.out | exact B2.out | exact B3.out)) (fun j hj => by have : w.heap.size = j := (by simpa [Value.ownBlock] using hj); omega))
        | (refine step_append_atN _ ?_ (.tmp 9) (.tmp 13) _ ?_ w.heap.size 130 i0 (.agg #[.int .i64 0, .int .i64 0, .int .i64 0]) 3 24 Try.underlying26 hi0 hz0 hz1 hz2 rfl ?_ (.slice B k cp) k (cluesV (C.take k)) ?_ hown5 ⟨b0, 0, none⟩ 0 0 (cluesV (C.drop (k+1))) ?_ HL3.out (HNB.out _ b5) (cluesV_one _) ?_ ?_ b5.size ?_; (rfl); (rfl); (omega); (rfl); (first | rfl | simp); (unfold maxLen; omega); (omega); intro B7 cp7 w7 hown7 hgrow7 hob7; have b7 : Below w.heap.size w w7 := Below.grown b5 hgrow7 b5.size (fun j hj => owns_le hown5 hj))
        | fail)
    all_goals
      go_wp2
      go_ret
      exact ⟨B7, cp7, by first | rfl | (rw [HNM.out]; rfl) | (rw [← HNM.out]; rfl), by unfold OwnCl; rw [HDL.out, HAP.out, ← HNM.out]; exact hown7, b7⟩
  · rw [if_neg e] at had
    subst had
    have HNM := Lib.hid (show k + (n - (k + 1)) = n - 1 from by omega)
    clear hk hlen
    go_enter Try.func50, Try.ntmps50
    go_wp2_with fail
    go_region_held3 (fun _ => True)
      (first | trivial | go_keep)
      (first
        | (refine step_append_newN _ ?_ (.tmp 5) (.tmp 8) _ ?_ w.heap.size 130 i0 (.agg #[.int .i64 0, .int .i64 0, .int .i64 0]) 3 24 Try.underlying26 hi0 hz0 hz1 hz2 rfl ?_ (.slice (some ⟨w.heap.size, 0, none⟩) 0 0) ?_ (own_empty (Nat.le_refl _) hAa) ⟨b0, 0, none⟩ k cap (cluesV (C.take k)) ?_ ?_ (HNF.out _ (by first | exact B1.out | exact B2.out | exact B3.out)) (cluesV_one _) ?_ ?_ (Below.size (B := w.heap.size) (w := w) (by first | exact B1.out | exact B2.out | exact B3.out)) ?_; (rfl); (rfl); (omega); (rfl); (rfl); (exact HL1.out); (unfold maxLen; omega); (omega); intro B cp w5 hown5 hgrow5 hob5; have b5 : Below w.heap.size w w5 := Below.grown (by first | exact B1.out | exact B2.out | exact B3.out) hgrow5 (Below.size (B := w.heap.size) (w := w) (by first | exact B1.out | exact B2.out | exact B3.out)) (fun j hj => by have : w.heap.size = j := (by simpa [Value.ownBlock] using hj); omega))
        | (refine step_append_atN _ ?_ (.tmp 9) (.tmp 13) _ ?_ w.heap.size 130 i0 (.agg #[.int .i64 0, .int .i64 0, .int .i64 0]) 3 24 Try.underlying26 hi0 hz0 hz1 hz2 rfl ?_ (.slice B k cp) k (cluesV (C.take k)) ?_ hown5 ⟨b0, (k + 1) * 3, none⟩ (n - (k + 1)) (cap - (k + 1)) (cluesV (C.drop (k+1))) ?_ HL2.out (HNB.out _ b5) (cluesV_one _) ?_ ?_ b5.size ?_; (rfl); (rfl); (omega); (rfl); (first | rfl | simp); (unfold maxLen; omega); (omega); intro B7 cp7 w7 hown7 hgrow7 hob7; have b7 : Below w.heap.size w w7 := Below.grown b5 hgrow7 b5.size (fun j hj => owns_le hown5 hj))
        | fail)
    all_goals
      go_wp2
      go_ret
      exact ⟨B7, cp7, by first | rfl | (rw [HNM.out]; rfl) | (rw [← HNM.out]; rfl), by unfold OwnCl; rw [HDL.out, HAP.out, ← HNM.out]; exact hown7, b7⟩
end Go.Proofs.Ytnldodnpakpeeaa

namespace Go.Proofs.Ytnldodnpakpeeaa
open Go.RowKit Vo

/-- 'clear' of a slice of one element of several cells. -/
theorem run_clear_one {P : Program} (w : World) (t e ty : TypeId) (z : Value) (cs : List Value) (ht : P.underlying t = some (.slice e)) (hv : ∀ w, (zeroValue e).run P w = .ok z w) (hz : (Builtin.zeroCells z.cells 1).toList = cs) (h1 : ∀ u ∈ cs, u.oneCell' = true) (b o c : Nat)
    (hc : ∀ j, j < cs.length → (w.cell? ⟨b, o + j, none⟩).isSome = true) (hf : ∀ j, j < cs.length → w.frozen? ⟨b, o + j, none⟩ = false) :
    (Builtin.clear_ #[t] ty #[.slice (some ⟨b, o, none⟩) 1 c]).run P w = .ok (.tuple #[]) (w.setCells b o cs) := by
  have hst := run_storeCells_cells (P := P) b o cs 0 w (by simpa using hc) (by simpa using hf) h1
  simp only [Nat.add_zero] at hst
  simp [Builtin.clear_, run_underlying ht, hv, hz, hst]

theorem del_row {W : World} {base g n cap k : Nat} {C : List Clu} (hn : C.length = n) (hk : k < n) (ho : OwnCl W base (.slice (some ⟨g, 0, none⟩) n cap) C) (vs : List Value) (_hv : vs.length = 3) :
    OwnCl ((W.setCells g (k * 3) (cluesV (C.drop (k+1)))).setCells g ((n - 1) * 3) vs) base (.slice (some ⟨g, 0, none⟩) (n - 1) cap) (dropC C k) := by
  unfold OwnCl at ho ⊢
  rw [dropC_len (by omega), hn]
  rw [hn] at ho
  obtain ⟨h1, h2⟩ := ho
  rcases h2 with ⟨h2, _⟩ | ⟨g', cap', cur, hv', hb, hh, hnc, hcm, hcs, htk⟩
  · cases h2
  · obtain ⟨rfl, rfl⟩ : g = g' ∧ cap = cap' := by simpa using hv'
    have hsome : ∀ i, i < cap * 3 → cur[i]? = some (cur[i]?.getD default) := fun i hi => by
      have hi' : i < cur.size := by omega
      simp [Array.getElem?_eq_getElem hi']
    have hr : W.rowIs g 130 (cap * 3) (fun i => cur[i]?.getD default) := ⟨cur, hh, hcs, hsome⟩
    have hr1 := rowIs_setCells vs ((n-1)*3) _ _ (rowIs_setCells (cluesV (C.drop (k+1))) (k*3) W _ hr)
    obtain ⟨c, hc0, hc1, hc2⟩ := hr1
    have hcur : ∀ i, i < n * 3 → cur[i]? = some (.int .i64 (clF C i)) := by
      intro i hi
      have : (cluesV C)[i]? = some (.int .i64 (clF C i)) := cluesV_get C (by omega)
      rw [← htk, List.getElem?_take, if_pos (by omega)] at this
      simpa using this
    refine ⟨by rw [cluesV_len, dropC_len (by omega)]; omega, Or.inr ⟨g, cap, c, rfl, hb, hc0, by omega, hcm, hc1, ?_⟩⟩
    apply List.ext_getElem?
    intro i
    by_cases hi : i < (n - 1) * 3
    · rw [List.getElem?_take, if_pos hi, Array.getElem?_toList, hc2 i (by omega)]
      simp only
      rw [if_neg (by omega), dropC, cluesV_app, cluesV_len, List.length_drop]
      by_cases hik : i < k * 3
      · rw [if_neg (by omega), List.getElem?_append_left (by rw [cluesV_len, List.length_take]; omega), hcur i (by omega), cluesV_get _ (by rw [List.length_take]; omega)]
        simp only [Option.getD_some]
        unfold clF
        rw [cAt_front (show i / 3 < k by omega)]
      · rw [if_pos (by omega), List.getElem?_append_right (by rw [cluesV_len, List.length_take]; omega), cluesV_len, List.length_take, show 3 * min k C.length = k * 3 from by omega, cluesV_get _ (by rw [List.length_drop]; omega)]
        rfl
    · rw [List.getElem?_take, if_neg hi, List.getElem?_eq_none (by rw [cluesV_len, dropC_len (by omega)]; omega)]

theorem own_soft {W : World} {base g n cap : Nat} {C : List Clu} (hn : C.length = n) (ho : OwnCl W base (.slice (some ⟨g, 0, none⟩) n cap) C) : n ≤ cap ∧ cap ≤ maxLen ∧ base ≤ g ∧ g < W.heap.size ∧ ∀ j, j < cap * 3 → (W.cell? ⟨g, j, none⟩).isSome = true ∧ W.frozen? ⟨g, j, none⟩ = false := by
  unfold OwnCl at ho
  rw [hn] at ho
  obtain ⟨h1, h2⟩ := ho
  rcases h2 with ⟨h2, _⟩ | ⟨g', cap', cur, hv', hb, hh, hnc, hcm, hcs, htk⟩
  · cases h2
  · obtain ⟨rfl, rfl⟩ : g = g' ∧ cap = cap' := by simpa using hv'
    refine ⟨hnc, hcm, hb, (Array.getElem?_eq_some_iff.1 hh).1, fun j hj => ⟨?_, ?_⟩⟩
    · have hj' : j < cur.size := by omega
      simp [World.cell?, hh, hj']
    · simp [World.frozen?, hh]

set_option maxRecDepth 20000 in
set_option maxHeartbeats 4000000 in
theorem deleteClue_any (base g n cap k : Nat) (C : List Clu) (w : World) (hn : C.length = n) (hk : k < n) (hn8 : n ≤ 8) (ho : OwnCl w base (.slice (some ⟨g, 0, none⟩) n cap) C) :
    Calls Try.prog 94 #[.slice (some ⟨g, 0, none⟩) n cap, .int .i64 k, .int .i64 ((k : Int) + 1)] w fun e w' => e = .returned (.slice (some ⟨g, 0, none⟩) (n - 1) cap) ∧ ∃ vs, vs.length = 3 ∧ w' = (w.drew.setCells g (k * 3) (cluesV (C.drop (k+1)))).setCells g ((n - 1) * 3) vs := by
  obtain ⟨i0, hi0, hz0, hz1, hz2⟩ := info_parts infoClue
  obtain ⟨hnc, hcm, hb, hgl, hsoft⟩ := own_soft hn ho
  have HKC := Lib.hid ((OwnCl.cls hn ho).2.kcl hn)
  have HS := Lib.hid hsoft
  obtain ⟨news, hnews⟩ : ∃ news, news = cluesV (C.drop (k+1)) := ⟨_, rfl⟩
  rw [← hnews]
  have s1 := Lib.hid (show news.length = (n - (k+1)) * 3 from by rw [hnews, cluesV_len, List.length_drop, hn]; omega)
  obtain ⟨A, hA, hsrc⟩ : ∃ A : Addr, (if cap = k + 1 then some (⟨g, 0, none⟩ : Addr) else some ⟨g, (k + 1) * 3, none⟩) = some A ∧ ∀ (t : Nat) (u : Value), news[t]? = some u → w.drew.cell? (A.add t) = some u := by
    by_cases h : cap = k + 1
    · refine ⟨⟨g, 0, none⟩, if_pos h, fun t u hu => ?_⟩
      rw [hnews, List.drop_eq_nil_of_le (by omega)] at hu
      simp [cluesV] at hu
    · refine ⟨⟨g, (k + 1) * 3, none⟩, if_neg h, fun t u hu => ?_⟩
      rw [hnews] at hu
      exact clu_back HKC.out t u hu
  have HSRC := Lib.hid hsrc
  clear hsrc
  have hmix : Try.prog.follows Departure.mixedOrders = true := by kernel_rfl
  have s2 := Lib.hid (show ∀ u ∈ news, u.oneCell' = true from by rw [hnews]; exact cluesV_one _)
  have s3 := Lib.hid (show ∀ t, t < news.length → (w.drew.cell? ⟨g, 0 + k * 3 + t, none⟩).isSome = true ∧ w.drew.frozen? ⟨g, 0 + k * 3 + t, none⟩ = false from fun t ht => by
    have := s1.out
    exact HS.out (0 + k * 3 + t) (by omega))
  obtain ⟨W1, hW1⟩ : ∃ W1, W1 = w.drew.setCells g (0 + k * 3) news := ⟨_, rfl⟩
  have hW := Lib.hid hW1
  have hcl : ∀ ty, (Builtin.clear_ #[26] ty #[.slice (some ⟨g, (n - 1) * 3, none⟩) (n - (n - 1)) (cap - (n - 1))]).run Try.prog W1 = .ok (.tuple #[]) (W1.setCells g ((n - 1) * 3) [.int .i64 0, .int .i64 0, .int .i64 0]) :=
    fun ty => by
     rw [show n - (n - 1) = 1 from by omega]
     exact run_clear_one W1 _ _ ty (.agg #[.int .i64 0, .int .i64 0, .int .i64 0]) [.int .i64 0, .int .i64 0, .int .i64 0] Try.underlying26 Try.zeroValue130 (by simp [Builtin.zeroCells, Value.cells, List.range_succ]) (by simp [Value.oneCell']) g ((n - 1) * 3) (cap - (n - 1))
      (fun j hj => by
        simp at hj
        rw [hW1]
        exact World.isSome_setCells g news (0 + k * 3) w.drew _ (HS.out ((n - 1) * 3 + j) (by omega)).1)
      (fun j hj => by
        simp at hj
        rw [hW1, World.frozen?_setCells]
        exact (HS.out ((n - 1) * 3 + j) (by omega)).2)
  have X := Lib.hid (show W1.setCells g ((n - 1) * 3) [.int .i64 0, .int .i64 0, .int .i64 0] = (w.drew.setCells g (k * 3) news).setCells g ((n - 1) * 3) [.int .i64 0, .int .i64 0, .int .i64 0] from by rw [hW1, Nat.zero_add])
  have hk0 : (0 : Int) ≤ (k : Int) := by omega
  have hkc : (k : Int) ≤ (cap : Int) := by omega
  have hk1 : (k : Int) + 1 ≤ (n : Int) := by omega
  have hk1c : (k : Int) + 1 ≤ (cap : Int) := by omega
  have hk10 : (0 : Int) ≤ (k : Int) + 1 := by omega
  have hkk : (k : Int) ≤ (k : Int) + 1 := by omega
  have hncI : (n : Int) ≤ (cap : Int) := by omega
  have hne : ((k : Int) == (k : Int) + 1) = false := beq_false_of_ne (by omega)
  have hcn : ¬ cap = n - 1 := by omega
  have hkn1 : k + (n - (k + 1)) = n - 1 := by omega
  have HKN := Lib.hid hkn1
  clear hW1 hnews hsoft ho hkn1
  go_enter Try.func94, Try.ntmps94
  go_wp2_with fail
  go_region_law_o (refine step_append_room rfl (.tmp 22) (.tmp 25) 26 rfl 130 i0 3 Try.underlying26 hi0 hz1 g 0 k cap (by simp [Act.eval, Act.put]) A (n - (k+1)) (cap - (k+1)) news (by simp [Act.eval, Act.put]) s1.out HSRC.out s2.out (by omega) s3.out ?_; rw [← hW.out, HKN.out])
  go_wp2
  go_ret
  exact ⟨rfl, _, rfl, X.out⟩
end Go.Proofs.Ytnldodnpakpeeaa
