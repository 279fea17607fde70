/- slices.Delete of one clue. -/
import Derived.Test.YtnldodnpakpeeaaYh
import Derived.Lib.LazyBuf
import Derived.Deep.RegionLaw
import Derived.Lib.SliceRun
import Derived.Shelf.RegionOpenPlain
namespace Go.Proofs.Ytnldodnpakpeeaa
open Go.RowKit Vo

/-- 'clear' of a slice of one element of several cells. -/
theorem run_clear_one {P : Program} (w : World) (t e ty : TypeId) (z : Value) (cs : List Value) (ht : P.underlying t = some (.slice e)) (hv : ∀ w, (zeroValue e).run P w = .ok z w) (hz : (Builtin.zeroCells z.cells 1).toList = cs) (h1 : ∀ u ∈ cs, u.oneCell' = true) (b o c : Nat)
    (hc : ∀ j, j < cs.length → (w.cell? ⟨b, o + j, none⟩).isSome = true) (hf : ∀ j, j < cs.length → w.frozen? ⟨b, o + j, none⟩ = false) :
    (Builtin.clear_ #[t] ty #[.slice (some ⟨b, o, none⟩) 1 c]).run P w = .ok (.tuple #[]) (w.setCells b o cs) := by
  have hst := run_storeCells_cells (P := P) b o cs 0 w (by simpa using hc) (by simpa using hf) h1
  simp only [Nat.add_zero] at hst
  simp [Builtin.clear_, run_underlying ht, hv, hz, hst]

theorem del_row {W : World} {base g n cap k : Nat} {C : List Clu} (hn : C.length = n) (hk : k < n) (ho : OwnCl W base (.slice (some ⟨g, 0, none⟩) n cap) C) (vs : List Value) (_hv : vs.length = 3) :
    OwnCl ((W.setCells g (k * 3) (cluesV (C.drop (k+1)))).setCells g ((n - 1) * 3) vs) base (.slice (some ⟨g, 0, none⟩) (n - 1) cap) (dropC C k) := by
  unfold OwnCl at ho ⊢
  rw [dropC_len (by omega), hn]
  rw [hn] at ho
  obtain ⟨h1, h2⟩ := ho
  rcases h2 with ⟨h2, _⟩ | ⟨g', cap', cur, hv', hb, hh, hnc, hcm, hcs, htk⟩
  · cases h2
  · obtain ⟨rfl, rfl⟩ : g = g' ∧ cap = cap' := by simpa using hv'
    have hsome : ∀ i, i < cap * 3 → cur[i]? = some (cur[i]?.getD default) := fun i hi => by
      have hi' : i < cur.size := by omega
      simp [Array.getElem?_eq_getElem hi']
    have hr : W.rowIs g 130 (cap * 3) (fun i => cur[i]?.getD default) := ⟨cur, hh, hcs, hsome⟩
    have hr1 := rowIs_setCells vs ((n-1)*3) _ _ (rowIs_setCells (cluesV (C.drop (k+1))) (k*3) W _ hr)
    obtain ⟨c, hc0, hc1, hc2⟩ := hr1
    have hcur : ∀ i, i < n * 3 → cur[i]? = some (.int .i64 (clF C i)) := by
      intro i hi
      have : (cluesV C)[i]? = some (.int .i64 (clF C i)) := cluesV_get C (by omega)
      rw [← htk, List.getElem?_take, if_pos (by omega)] at this
      simpa using this
    refine ⟨by rw [cluesV_len, dropC_len (by omega)]; omega, Or.inr ⟨g, cap, c, rfl, hb, hc0, by omega, hcm, hc1, ?_⟩⟩
    apply List.ext_getElem?
    intro i
    by_cases hi : i < (n - 1) * 3
    · rw [List.getElem?_take, if_pos hi, Array.getElem?_toList, hc2 i (by omega)]
      simp only
      rw [if_neg (by omega), dropC, cluesV_app, cluesV_len, List.length_drop]
      by_cases hik : i < k * 3
      · rw [if_neg (by omega), List.getElem?_append_left (by rw [cluesV_len, List.length_take]; omega), hcur i (by omega), cluesV_get _ (by rw [List.length_take]; omega)]
        simp only [Option.getD_some]
        unfold clF
        rw [cAt_front (show i / 3 < k by omega)]
      · rw [if_pos (by omega), List.getElem?_append_right (by rw [cluesV_len, List.length_take]; omega), cluesV_len, List.length_take, show 3 * min k C.length = k * 3 from by omega, cluesV_get _ (by rw [List.length_drop]; omega)]
        rfl
    · rw [List.getElem?_take, if_neg hi, List.getElem?_eq_none (by rw [cluesV_len, dropC_len (by omega)]; omega)]

theorem own_soft {W : World} {base g n cap : Nat} {C : List Clu} (hn : C.length = n) (ho : OwnCl W base (.slice (some ⟨g, 0, none⟩) n cap) C) : n ≤ cap ∧ cap ≤ maxLen ∧ base ≤ g ∧ g < W.heap.size ∧ ∀ j, j < cap * 3 → (W.cell? ⟨g, j, none⟩).isSome = true ∧ W.frozen? ⟨g, j, none⟩ = false := by
  unfold OwnCl at ho
  rw [hn] at ho
  obtain ⟨h1, h2⟩ := ho
  rcases h2 with ⟨h2, _⟩ | ⟨g', cap', cur, hv', hb, hh, hnc, hcm, hcs, htk⟩
  · cases h2
  · obtain ⟨rfl, rfl⟩ : g = g' ∧ cap = cap' := by simpa using hv'
    refine ⟨hnc, hcm, hb, (Array.getElem?_eq_some_iff.1 hh).1, fun j hj => ⟨?_, ?_⟩⟩
    · have hj' : j < cur.size := by omega
      simp [World.cell?, hh, hj']
    · simp [World.frozen?, hh]

set_option maxRecDepth 20000 in
set_option maxHeartbeats 4000000 in
theorem deleteClue_any (base g n cap k : Nat) (C : List Clu) (w : World) (hn : C.length = n) (hk : k < n) (hn8 : n ≤ 8) (ho : OwnCl w base (.slice (some ⟨g, 0, none⟩) n cap) C) :
    Calls Try.prog 94 #[.slice (some ⟨g, 0, none⟩) n cap, .int .i64 k, .int .i64 ((k : Int) + 1)] w fun e w' => e = .returned (.slice (some ⟨g, 0, none⟩) (n - 1) cap) ∧ ∃ vs, vs.length = 3 ∧ w' = (w.drew.setCells g (k * 3) (cluesV (C.drop (k+1)))).setCells g ((n - 1) * 3) vs := by
  obtain ⟨i0, hi0, hz0, hz1, hz2⟩ := info_parts infoClue
  obtain ⟨hnc, hcm, hb, hgl, hsoft⟩ := own_soft hn ho
  have HKC := Lib.hid ((OwnCl.cls hn ho).2.kcl hn)
  have HS := Lib.hid hsoft
  obtain ⟨news, hnews⟩ : ∃ news, news = cluesV (C.drop (k+1)) := ⟨_, rfl⟩
  rw [← hnews]
  have s1 := Lib.hid (show news.length = (n - (k+1)) * 3 from by rw [hnews, cluesV_len, List.length_drop, hn]; omega)
  obtain ⟨A, hA, hsrc⟩ : ∃ A : Addr, (if cap = k + 1 then some (⟨g, 0, none⟩ : Addr) else some ⟨g, (k + 1) * 3, none⟩) = some A ∧ ∀ (t : Nat) (u : Value), news[t]? = some u → w.drew.cell? (A.add t) = some u := by
    by_cases h : cap = k + 1
    · refine ⟨⟨g, 0, none⟩, if_pos h, fun t u hu => ?_⟩
      rw [hnews, List.drop_eq_nil_of_le (by omega)] at hu
      simp [cluesV] at hu
    · refine ⟨⟨g, (k + 1) * 3, none⟩, if_neg h, fun t u hu => ?_⟩
      rw [hnews] at hu
      exact clu_back HKC.out t u hu
  have HSRC := Lib.hid hsrc
  clear hsrc
  have hmix : Try.prog.follows Departure.mixedOrders = true := by kernel_rfl
  have s2 := Lib.hid (show ∀ u ∈ news, u.oneCell' = true from by rw [hnews]; exact cluesV_one _)
  have s3 := Lib.hid (show ∀ t, t < news.length → (w.drew.cell? ⟨g, 0 + k * 3 + t, none⟩).isSome = true ∧ w.drew.frozen? ⟨g, 0 + k * 3 + t, none⟩ = false from fun t ht => by
    have := s1.out
    exact HS.out (0 + k * 3 + t) (by omega))
  obtain ⟨W1, hW1⟩ : ∃ W1, W1 = w.drew.setCells g (0 + k * 3) news := ⟨_, rfl⟩
  have hW := Lib.hid hW1
  have hcl : ∀ ty, (Builtin.clear_ #[26] ty #[.slice (some ⟨g, (n - 1) * 3, none⟩) (n - (n - 1)) (cap - (n - 1))]).run Try.prog W1 = .ok (.tuple #[]) (W1.setCells g ((n - 1) * 3) [.int .i64 0, .int .i64 0, .int .i64 0]) :=
    fun ty => by
     rw [show n - (n - 1) = 1 from by omega]
     exact run_clear_one W1 _ _ ty (.agg #[.int .i64 0, .int .i64 0, .int .i64 0]) [.int .i64 0, .int .i64 0, .int .i64 0] Try.underlying26 Try.zeroValue130 (by simp [Builtin.zeroCells, Value.cells, List.range_succ]) (by simp [Value.oneCell']) g ((n - 1) * 3) (cap - (n - 1))
      (fun j hj => by
        simp at hj
        rw [hW1]
        exact World.isSome_setCells g news (0 + k * 3) w.drew _ (HS.out ((n - 1) * 3 + j) (by omega)).1)
      (fun j hj => by
        simp at hj
        rw [hW1, World.frozen?_setCells]
        exact (HS.out ((n - 1) * 3 + j) (by omega)).2)
  have X := Lib.hid (show W1.setCells g ((n - 1) * 3) [.int .i64 0, .int .i64 0, .int .i64 0] = (w.drew.setCells g (k * 3) news).setCells g ((n - 1) * 3) [.int .i64 0, .int .i64 0, .int .i64 0] from by rw [hW1, Nat.zero_add])
  have hk0 : (0 : Int) ≤ (k : Int) := by omega
  have hkc : (k : Int) ≤ (cap : Int) := by omega
  have hk1 : (k : Int) + 1 ≤ (n : Int) := by omega
  have hk1c : (k : Int) + 1 ≤ (cap : Int) := by omega
  have hk10 : (0 : Int) ≤ (k : Int) + 1 := by omega
  have hkk : (k : Int) ≤ (k : Int) + 1 := by omega
  have hncI : (n : Int) ≤ (cap : Int) := by omega
  have hne : ((k : Int) == (k : Int) + 1) = false := beq_false_of_ne (by omega)
  have hcn : ¬ cap = n - 1 := by omega
  have hkn1 : k + (n - (k + 1)) = n - 1 := by omega
  have HKN := Lib.hid hkn1
  clear hW1 hnews hsoft ho hkn1
  go_enter Try.func94, Try.ntmps94
  go_wp2_with fail
  go_region_law_o (refine step_append_room rfl (.tmp 22) (.tmp 25) 26 rfl 130 i0 3 Try.underlying26 hi0 hz1 g 0 k cap (by simp [Act.eval, Act.put]) A (n - (k+1)) (cap - (k+1)) news (by simp [Act.eval, Act.put]) s1.out HSRC.out s2.out (by omega) s3.out ?_; rw [← hW.out, HKN.out])
  go_wp2
  go_ret
  exact ⟨rfl, _, rfl, X.out⟩
end Go.Proofs.Ytnldodnpakpeeaa
