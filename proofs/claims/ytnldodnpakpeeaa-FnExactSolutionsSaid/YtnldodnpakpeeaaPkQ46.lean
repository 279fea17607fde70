/- Texts of Yl, D2. -/
import Derived.Test.YtnldodnpakpeeaaPkQ45
import Derived.Test.YtnldodnpakpeeaaPkQ09
import Derived.Lib.LazyBuf
import Derived.Lib.SliceRun
import Derived.Outline
import Derived.Test.YtnldodnpakpeeaaPkQ38
import Derived.Test.YtnldodnpakpeeaaPkQ06
import Derived.Deep.AppendLies
import Derived.Deep.RegionHeld3
namespace Go.Proofs.Ytnldodnpakpeeaa
open Go.RowKit Vo

theorem row_of_own {w : World} {base g k cap : Nat} {e : TypeId} {xs : List Value} (h : w.ownsRow base e 1 (.slice (some ⟨g, 0, none⟩) k cap) k xs) : ∃ f, w.rowIs g e cap f ∧ (∀ i, i < k → xs[i]? = some (f i)) ∧ base ≤ g ∧ k ≤ cap ∧ cap ≤ maxLen ∧ xs.length = k := by
  obtain ⟨h1, h2⟩ := h
  rcases h2 with ⟨h2, _⟩ | ⟨g', cap', cur, hv, hg, hh, h3, h4, h5, h6⟩
  · cases h2
  · obtain ⟨rfl, rfl⟩ : g = g' ∧ cap = cap' := by simpa using hv
    refine ⟨fun i => cur[i]?.getD default, ⟨cur, hh, by omega, fun i hi => ?_⟩, fun i hi => ?_, hg, h3, h4, by omega⟩
    · have hi' : i < cur.size := by omega
      simp [Array.getElem?_eq_getElem hi']
    · have hi' : i < cur.size := by omega
      rw [← h6, List.getElem?_take, if_pos (by omega)]
      simp [Array.getElem?_eq_getElem hi']
theorem own_of_row {w : World} {base g m cap : Nat} {e : TypeId} {f : Nat → Value} {xs : List Value} (h : w.rowIs g e cap f) (hb : base ≤ g) (hm : m ≤ cap) (hc : cap ≤ maxLen) (hx : xs.length = m) (hf : ∀ i, i < m → xs[i]? = some (f i)) : w.ownsRow base e 1 (.slice (some ⟨g, 0, none⟩) m cap) m xs := by
  obtain ⟨c, hh, hcs, hcc⟩ := h
  refine ⟨by omega, Or.inr ⟨g, cap, c, rfl, hb, hh, hm, hc, by omega, ?_⟩⟩
  apply List.ext_getElem?
  intro i
  by_cases hi : i < m
  · rw [List.getElem?_take, if_pos (by omega), Array.getElem?_toList, hcc i (by omega), hf i hi]
  · rw [List.getElem?_take, if_neg (by omega), List.getElem?_eq_none (by omega)]

/-- What is kept of the first j. -/
def keepL (p : Nat → Bool) (L : List Nat) (j : Nat) : List Nat := (L.take j).filter fun s => !p s
theorem keepL_le (p : Nat → Bool) (L : List Nat) (j : Nat) : (keepL p L j).length ≤ j := Nat.le_trans (List.length_filter_le _ _) (by rw [List.length_take]; omega)
theorem keepL_succ {p : Nat → Bool} {L : List Nat} {j : Nat} (h : j < L.length) : keepL p L (j+1) = keepL p L j ++ if p (L.getD j 0) then [] else [L.getD j 0] := by
  unfold keepL
  rw [List.take_add_one, List.filter_append, List.getElem?_eq_getElem h, List.getD_eq_getElem?_getD, List.getElem?_eq_getElem h]
  simp only [Option.toList_some, Option.getD_some, List.filter_cons, List.filter_nil]
  cases p L[j] <;> simp
theorem keepL_all {p : Nat → Bool} {L : List Nat} : ∀ j, j ≤ L.length → (∀ t, t < j → p (L.getD t 0) = false) → keepL p L j = L.take j
  | 0, _, _ => rfl
  | j + 1, hj, h => by
    rw [keepL_succ (by omega), keepL_all j (by omega) (fun t ht => h t (by omega)), h j (by omega), List.take_add_one, List.getElem?_eq_getElem (by omega), List.getD_eq_getElem?_getD, List.getElem?_eq_getElem (by omega)]
    rfl
/-- The row while sets are struck. -/
def delF (p : Nat → Bool) (L : List Nat) (j t : Nat) : Nat := if t < (keepL p L j).length then (keepL p L j).getD t 0 else L.getD t 0
theorem delF_at {p : Nat → Bool} {L : List Nat} {j t : Nat} (h : j ≤ t) : delF p L j t = L.getD t 0 := if_neg (by have := keepL_le p L j; omega)
theorem delF_skip {p : Nat → Bool} {L : List Nat} {j : Nat} (h : j < L.length) (hp : p (L.getD j 0) = true) : keepL p L (j+1) = keepL p L j := by
  rw [keepL_succ h, hp]; simp
theorem delF_take {p : Nat → Bool} {L : List Nat} {j : Nat} (h : j < L.length) (hp : p (L.getD j 0) = false) : (keepL p L (j+1)).length = (keepL p L j).length + 1 ∧ ∀ t, delF p L (j+1) t = if t = (keepL p L j).length then L.getD j 0 else delF p L j t := by
  have hs : keepL p L (j+1) = keepL p L j ++ [L.getD j 0] := by rw [keepL_succ h, hp]; simp
  refine ⟨by rw [hs]; simp, fun t => ?_⟩
  unfold delF
  rw [hs]
  simp only [List.length_append, List.length_cons, List.length_nil]
  by_cases h1 : t < (keepL p L j).length
  · rw [if_pos (by omega), if_neg (by omega), if_pos h1, List.getD_eq_getElem?_getD, List.getElem?_append_left h1, ← List.getD_eq_getElem?_getD]
  · by_cases h2 : t = (keepL p L j).length
    · rw [if_pos (by omega), if_pos h2, h2, List.getD_eq_getElem?_getD, List.getElem?_append_right (Nat.le_refl _)]
      simp
    · rw [if_neg (by omega), if_neg h2, if_neg h1]
theorem keepL_whole (p : Nat → Bool) (L : List Nat) : keepL p L L.length = L.filter fun s => !p s := by unfold keepL; rw [List.take_of_length_le (Nat.le_refl _)]

set_option maxRecDepth 20000 in
set_option maxHeartbeats 2000000 in
theorem indexF_any (n : Nat) (p : Nat → Bool) (f : Nat) (first cap2 : Array Value) (S : List Nat) (base k cap : Nat) (A : Option Addr) (w : World) (hn : n ≤ 9) (hk : k = S.length) (hs : k ≤ 1048576) (hS : ∀ t ∈ S, t < 2^n) (h1 : w.ownsRow base 107 1 (.slice A k cap) k (setsV S)) (ha : Asks p f first cap2 n w) :
    Calls Try.prog 156 #[.slice A k cap, .func (.func f) first cap2] w fun e w' => ((∃ j : Nat, j < k ∧ e = .returned (.int .i64 j) ∧ p (S.getD j 0) = true ∧ ∀ t, t < j → p (S.getD t 0) = false) ∨ (e = .returned (.int .i64 (-1)) ∧ ∀ t, t < k → p (S.getD t 0) = false)) ∧ Below w.heap.size w w' := by
  have h512 := pow_lt (n := n) (by omega)
  have HC1 := Lib.hid (fun W (hb : Below w.heap.size w W) => setCells hk (fun t ht => Nat.lt_of_lt_of_le (hS t ht) (by omega)) (owns_now h1 hb))
  have HG := Lib.hid (fun W s (h : s < 2^n) hb => ha.gives W s h hb)
  have HSn := Lib.hid (show ∀ j, j < k → S.getD j 0 < 2^n from fun j hj => hS _ (getD_mem (by omega)))
  have eg := ha.enters
  clear h1 hk hS ha h512
  go_enter Try.func156, Try.ntmps156
  go_wp2_with fail
  go_loopw [5, 8] (fun _ i wr => ∃ j : Nat, j ≤ k ∧ i = .int .i64 j ∧ (∀ t, t < j → p (S.getD t 0) = false) ∧ Below w.heap.size w wr) (fun _ i _ => k - (intOf i).toNat)
  case atStart => exact ⟨0, Nat.zero_le _, rfl, fun _ h => by omega, Below.refl _ _⟩
  case round =>
    obtain ⟨j, hj, rfl, hno, hb⟩ := hrel
    have HS := Lib.hid hno
    clear hno
    by_cases hlt : j < k
    · obtain ⟨g, rfl, hcell, ht5⟩ := HC1.out wr hb j hlt
      have HSJ := Lib.hid (show p (S.getD j 0) = false → ∀ t, t < j + 1 → p (S.getD t 0) = false from fun h t ht => by
        by_cases e : t = j
        · subst e; exact h
        · exact HS.out t (by omega))
      have HGT := Lib.hid (HG.out wr _ (HSn.out j hlt) hb)
      have HYJ := Lib.hid (show p (S.getD j 0) = true → p (S.getD j 0) = true from fun h => h)
      obtain ⟨t, hte⟩ : ∃ t, t = S.getD j 0 := ⟨_, rfl⟩
      rw [← hte] at HGT hcell ht5
      have HTE := Lib.hid hte
      clear hte
      cases hp : p t with
      | true =>
        have HW := Lib.hid (show p (S.getD j 0) = true from by rw [← HTE.out]; exact hp)
        rw [hp] at HGT
        clear hp
        go_wp2_with (go_at_fn f; refine HGT.out.mono ?_; rintro e w' ⟨rfl, hb'⟩)
        go_ret
        exact ⟨Or.inl ⟨j, hlt, rfl, HW.out, HS.out⟩, bfrom hb hb'⟩
      | false =>
        have HW := Lib.hid (HSJ.out (by rw [← HTE.out]; exact hp))
        rw [hp] at HGT
        clear hp
        go_wp2_with (go_at_fn f; refine HGT.out.mono ?_; rintro e w' ⟨rfl, hb'⟩)
        go_roundw
        case rel => exact ⟨j + 1, by omega, by go_num, HW.out, bfrom hb hb'⟩
        case measure => simp [intOf]; omega
    · obtain rfl : j = k := by omega
      go_wp2
      go_ret
      exact ⟨Or.inr ⟨rfl, HS.out⟩, hb⟩

set_option maxRecDepth 20000 in
set_option maxHeartbeats 4000000 in
/-- slices.DeleteFunc of a row of one's own. -/
theorem deleteA_any (n : Nat) (p : Nat → Bool) (f : Nat) (first cap2 : Array Value) (L : List Nat) (base k cap g : Nat) (w : World) (hn : n ≤ 9) (hk : k = L.length) (hk5 : k ≤ 512) (hL : ∀ t ∈ L, t < 2^n) (hown : w.ownsRow base 107 1 (.slice (some ⟨g, 0, none⟩) k cap) k (setsV L))
    (ha : (∀ args W, (callFunc f args).run Try.prog W = .ok (.enter f args) W) ∧ ∀ (W : World) (s : Nat), s < 2^n → Below base w W → Calls Try.prog f (first.push (.int .u64 s) ++ cap2) W fun e W' => e = .returned (.bool (p s)) ∧ Below W.heap.size W W') :
    Calls Try.prog 155 #[.slice (some ⟨g, 0, none⟩) k cap, .func (.func f) first cap2] w fun e w' => e = .returned (.slice (some ⟨g, 0, none⟩) (L.filter fun s => !p s).length cap) ∧ w'.ownsRow base 107 1 (.slice (some ⟨g, 0, none⟩) (L.filter fun s => !p s).length cap) (L.filter fun s => !p s).length (setsV (L.filter fun s => !p s)) ∧ Below base w w' := by
  obtain ⟨f0, hrow, hf0, hbg, hkc, hcm, hxl⟩ := row_of_own hown
  have hgl := hrow.lt
  have h512 := pow_lt (n := n) (by omega)
  obtain ⟨eg, hg⟩ := ha
  have HG := Lib.hid hg
  have HI := Lib.hid (indexF_any n p f first cap2 L base k cap _ w hn hk (by omega) hL hown ⟨eg, fun W s hs hb => hg W s hs (hb.mono (by omega))⟩)
  have HLn := Lib.hid (show ∀ j, j < k → L.getD j 0 < 2^n from fun j hj => hL _ (getD_mem (by omega)))
  have HF0 := Lib.hid (show ∀ j, j < k → f0 j = .int .u64 (L.getD j 0 : Nat) from fun j hj => by
    have h := hf0 j hj
    have hj' : j < L.length := by omega
    simp [setsV, hj'] at h
    rw [← h, List.getD_eq_getElem?_getD, List.getElem?_eq_getElem hj']
    rfl)
  have HROW := Lib.hid hrow
  have HKL := Lib.hid hk
  have HOWN := Lib.hid hown
  have HSUC := Lib.hid (fun j (h : j < k) => (⟨fun hp => delF_skip (p := p) (by omega) hp, fun hp => delF_take (p := p) (by omega) hp⟩ : (p (L.getD j 0) = true → keepL p L (j+1) = keepL p L j) ∧ (p (L.getD j 0) = false → _)))
  have HLE := Lib.hid (keepL_le p L)
  have HW := Lib.hid (show keepL p L k = L.filter fun s => !p s from by rw [hk]; exact keepL_whole p L)
  have HAL := Lib.hid (show ∀ j, j ≤ k → (∀ t, t < j → p (L.getD t 0) = false) → (keepL p L j) = L.take j from fun j hj h => keepL_all j (by omega) h)
  have htk := Lib.hid (show ∀ j, j ≤ k → (L.take j).length = j from fun j hj => by rw [List.length_take]; omega)
  obtain ⟨M, hM⟩ : ∃ M, M = L.filter fun s => !p s := ⟨_, rfl⟩
  rw [← hM] at HW ⊢
  have hclz : ∀ ty W (m o : Nat), 0 < m → o + m ≤ cap → (∃ ff, W.rowIs g 107 cap ff) → ∀ c, (Builtin.clear_ #[93] ty #[.slice (some ⟨g, o, none⟩) m c]).run Try.prog W = .ok (.tuple #[]) (W.setCells g o (List.replicate m (.int .u64 0))) := fun ty W m o hm ho ⟨ff, hff⟩ c =>
    Lib.run_clear_slice W _ _ ty (.int .u64 0) Try.underlying93 Try.zeroValue107 rfl rfl g o m c hm (fun j hj => by rw [hff.cell (by omega)]; rfl) (fun j hj => hff.frozen _)
  have HCL := Lib.hid hclz
  clear hM hown hrow hf0 hk hL hg hclz hxl h512
  go_enter Try.func155, Try.ntmps155
  go_wp2_with fail
  refine HI.out.mono ?_
  rintro e w1 ⟨h, hb1⟩
  have hb1' := hb1.mono (show base ≤ w.heap.size by omega)
  rcases h with ⟨j0, hj0, rfl, hp0, hno⟩ | ⟨rfl, hno⟩
  · have HNO := Lib.hid hno
    have HP0 := Lib.hid hp0
    have hne : ((j0 : Int) == -1) = false := beq_false_of_ne (by omega)
    have HR1 := Lib.hid (HROW.out.of_block (hb1.block g hgl))
    have hgz := hb1.size
    clear hno hp0 HI
    go_wp2_with fail
    go_loopw [5, 6, 7] (fun i j _ wr => ∃ (t : Nat) (ff : Nat → Value), t ≤ k ∧ j0 < t ∧ i = .int .i64 ((keepL p L t).length : Nat) ∧ (keepL p L t).length < t ∧ j = .int .i64 t ∧ wr.rowIs g 107 cap ff ∧ (∀ q, q < k → ff q = .int .u64 (delF p L t q : Nat)) ∧ Below base w wr ∧ w1.heap.size ≤ wr.heap.size) (fun _ j _ _ => k - (intOf j).toNat)
    case atStart =>
      have h1 := (HSUC.out j0 hj0).1 HP0.out
      have h2 := HAL.out j0 (by omega) HNO.out
      refine ⟨j0 + 1, f0, by omega, by omega, by rw [h1, h2, htk.out j0 (by omega)], by rw [h1, h2, htk.out j0 (by omega)]; omega, by go_num, HR1.out, fun q hq => ?_, hb1', Nat.le_refl _⟩
      rw [HF0.out q hq]
      congr 2
      unfold delF
      rw [h1, h2, htk.out j0 (by omega)]
      split
      · rw [List.getD_eq_getElem?_getD, List.getD_eq_getElem?_getD, List.getElem?_take, if_pos (by omega)]
      · rfl
    case round =>
      obtain ⟨t, ff, ht, hjt, rfl, hlt2, rfl, hrw, hff, hbr, hzr⟩ := hrel
      obtain ⟨i, hi⟩ : ∃ i, i = (keepL p L t).length := ⟨_, rfl⟩
      have HI' := Lib.hid hi
      rw [← hi] at hlt2 ⊢
      have HFF := Lib.hid hff
      have HRW := Lib.hid hrw
      have HBR := Lib.hid hbr
      clear hi hff hrw hbr
      by_cases hlt : t < k
      · have hc : wr.cell? ⟨g, t, none⟩ = some (.int .u64 (L.getD t 0 : Nat)) := by rw [HRW.out.cell (show t < cap by omega), HFF.out t hlt, delF_at (Nat.le_refl _)]
        obtain ⟨hyes, hnot⟩ := HSUC.out t hlt
        have HYES := Lib.hid hyes
        have HNOT := Lib.hid hnot
        have HCA := Lib.hid (HG.out wr (L.getD t 0) (HLn.out t hlt) HBR.out)
        obtain ⟨s, hs⟩ : ∃ s, s = L.getD t 0 := ⟨_, rfl⟩
        rw [← hs] at hc HYES HNOT HCA
        have HSS := Lib.hid hs
        clear hs hyes hnot
        cases hp : p s with
        | true =>
          have HK1 := Lib.hid (HYES.out hp)
          rw [hp] at HCA
          clear hp
          go_wp2_with (go_at_fn f; refine HCA.out.mono ?_; rintro e w' ⟨rfl, hb'⟩)
          go_roundw
          case rel =>
            refine ⟨t + 1, ff, by omega, by omega, by rw [HK1.out, ← HI'.out], by rw [HK1.out, ← HI'.out]; omega, by go_num, HRW.out.of_block (hb'.block g HRW.out.lt), fun q hq => ?_, HBR.out.trans (hb'.mono (by omega)), Nat.le_trans hzr hb'.size⟩
            rw [HFF.out q hq]
            unfold delF
            rw [HK1.out]
          case measure => simp [intOf]; omega
        | false =>
          obtain ⟨hK1, hK2⟩ := HNOT.out hp
          have HK1 := Lib.hid hK1
          have HK2 := Lib.hid hK2
          rw [hp] at HCA
          clear hp hK1 hK2
          go_wp2_with (go_at_fn f; refine HCA.out.mono ?_; rintro e w' ⟨rfl, hb'⟩; have hfz' := (HRW.out.of_block (hb'.block g HRW.out.lt)).frozen i; have hci' := (HRW.out.of_block (hb'.block g HRW.out.lt)).cell (show i < cap by omega))
          go_roundw
          case rel =>
            refine ⟨t + 1, _, by omega, by omega, by rw [HK1.out, ← HI'.out]; go_num, by rw [HK1.out, ← HI'.out]; omega, by go_num, (HRW.out.of_block (hb'.block g HRW.out.lt)).set i _, fun q hq => ?_, (HBR.out.trans (hb'.mono (by omega))).setCell (by exact hbg) _, by simp; exact Nat.le_trans hzr hb'.size⟩
            rw [HK2.out q, ← HI'.out]
            by_cases e : q = i
            · rw [if_pos e, if_pos e]
            · rw [if_neg e, if_neg e, HFF.out q hq]
          case measure => simp [intOf]; omega
      · obtain rfl : t = k := by omega
        have hti : 0 < t - i := by omega
        have hcn : ¬ cap = i := by omega
        have hic : (i : Int) ≤ (cap : Int) := by omega
        have hit : (i : Int) ≤ (t : Int) := by omega
        have HCC := Lib.hid (fun ty c => HCL.out ty wr (t - i) i hti (by omega) ⟨ff, HRW.out⟩ c)
        have hcc := HCC.out
        go_wp2
        go_ret
        have hMi : M.length = i := by rw [← HW.out, HI'.out]
        rw [hMi]
        refine ⟨rfl, own_of_row (rowIs_setCells _ i _ _ HRW.out) hbg (by omega) hcm (by simp [setsV, hMi]) (fun q hq => ?_), below_setCells hbg _ _ _ HBR.out⟩
        rw [if_neg (by omega), HFF.out q (by omega)]
        have hq' : q < M.length := by omega
        simp only [setsV, List.getElem?_map, List.getElem?_eq_getElem hq', Option.map_some]
        unfold delF
        rw [HW.out, if_pos hq', List.getD_eq_getElem?_getD, List.getElem?_eq_getElem hq']
        rfl
  · have HNO := Lib.hid hno
    have hM' := Lib.hid (show M = L from by rw [← HW.out, HAL.out k (Nat.le_refl _) HNO.out, List.take_of_length_le (by have := HKL.out; omega)])
    have HO1 := Lib.hid (owns_now HOWN.out hb1)
    clear hno HI
    go_wp2
    go_ret
    rw [hM'.out, ← HKL.out]
    exact ⟨rfl, HO1.out, hb1'⟩

set_option maxRecDepth 20000 in
set_option maxHeartbeats 1000000 in
theorem setsThat1_any (p : Nat → Bool) (k : Nat) (first cap : Array Value) (h s : Nat) (W : World) (eg : ∀ args W, (callFunc k args).run Try.prog W = .ok (.enter k args) W) (hbox : W.cell? ⟨h, 0, none⟩ = some (.func (.func k) first cap)) (hg : Calls Try.prog k (first.push (.int .u64 s) ++ cap) W fun e W' => e = .returned (.bool (p s)) ∧ Below W.heap.size W W') :
    Calls Try.prog 154 #[.int .u64 s, .pointer (some ⟨h, 0, none⟩)] W fun e W' => e = .returned (.bool (!p s)) ∧ Below W.heap.size W W' := by
  have HG := Lib.hid hg
  obtain ⟨r, hr⟩ : ∃ r, r = p s := ⟨_, rfl⟩
  rw [← hr] at HG ⊢
  clear hg hr
  go_enter Try.func154, Try.ntmps154
  go_wp2_with (go_at_fn k; refine HG.out.mono ?_; rintro e w' ⟨rfl, hb'⟩)
  go_ret
  exact ⟨rfl, hb'⟩
theorem setsThat1_enters : ∀ args W, (callFunc 154 args).run Try.prog W = .ok (.enter 154 args) W := enters_of Try.func154 (by kernel_rfl) rfl

set_option maxRecDepth 20000 in
set_option maxHeartbeats 2000000 in
theorem setsThat_any (n : Nat) (p : Nat → Bool) (k : Nat) (first cap : Array Value) (w : World) (hn : n ≤ 9) (ha : Asks p k first cap n w) :
    Calls Try.prog 109 #[.int .i64 n, .func (.func k) first cap] w fun e w' => SetsAt w.heap.size ((inOrder n).filter p) w w' e := by
  have b0 := below1 w (.cells #[.func (.func k) first cap] 92)
  have hbox : (w.alloc (.cells #[.func (.func k) first cap] 92)).cell? ⟨w.heap.size, 0, none⟩ = some (.func (.func k) first cap) := by
    have h := heap_alloc_new w (.cells #[.func (.func k) first cap] 92)
    unfold World.cell?
    rw [h]
    rfl
  have hlen : (inOrder n).length ≤ 512 := by
    have h2 := inOrder_len n
    have := pow_lt (n := n) (by omega)
    omega
  have hin : ∀ t ∈ inOrder n, t < 2^n := fun t ht => mem_inOrder.1 ht
  have HA := Lib.hid ha
  have eg := ha.enters
  have HS := Lib.hid (setsInOrder_any n (w.alloc (.cells #[.func (.func k) first cap] 92)) (by omega))
  have HF := Lib.hid (show ((inOrder n).filter fun s => !(!p s)) = (inOrder n).filter p from by simp)
  have hszb : w.heap.size < (w.alloc (.cells #[.func (.func k) first cap] 92)).heap.size := by simp
  have HD := Lib.hid (fun (w1 : World) (g cp : Nat) (hb1 : Below (w.alloc (.cells #[.func (.func k) first cap] 92)).heap.size (w.alloc (.cells #[.func (.func k) first cap] 92)) w1) (ho : w1.ownsRow (w.alloc (.cells #[.func (.func k) first cap] 92)).heap.size 107 1 (.slice (some ⟨g, 0, none⟩) (inOrder n).length cp) (inOrder n).length (setsV (inOrder n))) =>
    deleteA_any n (fun s => !p s) 154 #[] #[.pointer (some ⟨w.heap.size, 0, none⟩)] (inOrder n) _ _ cp g w1 hn rfl hlen hin ho ⟨setsThat1_enters, fun W s hs hb => by
      have hb2 : Below (w.alloc (.cells #[.func (.func k) first cap] 92)).heap.size (w.alloc (.cells #[.func (.func k) first cap] 92)) W := hb1.trans hb
      exact setsThat1_any p k first cap w.heap.size s W eg ((hb2.cell (p := ⟨w.heap.size, 0, none⟩) hszb).trans hbox) (HA.out.gives W s hs (bfrom b0 hb2))⟩)
  rw [HF.out] at HD
  have HNE := Lib.hid (show 0 < (inOrder n).length from List.length_pos_of_mem (mem_inOrder.2 (Nat.pos_of_ne_zero (by simp : (2:Nat)^n ≠ 0))))
  have hnpos := HNE.out
  clear ha
  go_enter Try.func109, Try.ntmps109
  go_wp2_with fail
  refine HS.out.mono ?_
  rintro e w1 ⟨A, cp, rfl, hown, hb1⟩
  obtain ⟨g, cp', hv, hg1, hg2, hg3⟩ := owns_head hown hnpos
  obtain ⟨rfl, rfl⟩ : A = some ⟨g, 0, none⟩ ∧ cp = cp' := by simpa using hv
  have HDD := Lib.hid (HD.out w1 g cp hb1 hown)
  have HB1 := Lib.hid hb1
  generalize (inOrder n).length = N at *
  clear hown hb1 hv
  go_wp2_with fail
  refine HDD.out.mono ?_
  rintro e w2 ⟨rfl, ho2, hb2⟩
  have HO2 := Lib.hid ho2
  clear ho2
  go_wp2
  go_ret
  exact ⟨_, _, rfl, owns_less HO2.out (by simp), b0.trans ((HB1.out.trans hb2).mono (by simp))⟩
end Go.Proofs.Ytnldodnpakpeeaa

namespace Go.Proofs.Ytnldodnpakpeeaa
open Go.RowKit Vo

/-- A slice in a block of the call's own that holds n integers. -/
def OwnAt (n : Nat) (ws : List Int) (w w' : World) (e : Ending) : Prop :=
  ∃ g cap, e = .returned (.slice (some ⟨g, 0, none⟩) n cap) ∧ w.heap.size ≤ g ∧ Ints w' g n ws ∧ Below w.heap.size w w'

set_option maxHeartbeats 1000000 in
theorem l1Own_any (b off n cap : Nat) (ws : List Int) (w : World) (h1 : 1 ≤ n) (h9 : n ≤ 9) (hsl : Sl w b off n ws) :
    Calls Try.prog 117 #[.slice (some ⟨b, off, none⟩) n cap] w fun e w' => OwnAt n ws w w' e := by
  have HSL := Lib.hid hsl
  have hbl := hsl.lt
  clear hsl
  obtain ⟨i0, hi0, hz0, hz1, hz2⟩ := info_parts infoInt
  obtain ⟨cs, hcs⟩ : ∃ cs, cs = (List.range n).map fun j => Value.int .i64 (ws.getD j 0) := ⟨_, rfl⟩
  have HCL := Lib.hid (show cs.length = n * 1 from by rw [hcs]; simp)
  have HCO := Lib.hid (show ∀ v ∈ cs, v.oneCell' = true from by rw [hcs]; intro v hv; simp at hv; obtain ⟨j, _, rfl⟩ := hv; rfl)
  have HCJ := Lib.hid (show ∀ j v, cs[j]? = some v → (w.alloc (.cells #[] 3)).cell? ((⟨b, off, none⟩ : Addr).add j) = some v from by
    intro j v hv
    rw [hcs] at hv
    rcases Nat.lt_or_ge j n with hj | hj
    · rw [List.getElem?_map, List.getElem?_range hj] at hv
      simp at hv
      have e : (⟨b, off, none⟩ : Addr).add j = ⟨b, off + j, none⟩ := by unfold Addr.add; split <;> simp_all
      rw [e, (HSL.out.alloc _).cell j hj, ← hv]; simp
    · rw [List.getElem?_eq_none (by simp; omega)] at hv; cases hv)
  have HCS := Lib.hid hcs
  clear hcs
  go_enter Try.func117, Try.ntmps117
  go_wp2_with (at_builtin; refine wpList_append_lies _ rfl _ _ _ rfl w.heap.size 3 i0 _ 1 8 Try.underlying35 hi0 hz0 hz1 hz2 rfl (by decide) (.slice (some ⟨w.heap.size, 0, none⟩) 0 0) 0 [] rfl (World.ownsRow_lit w #[] 0 (Nat.le_refl _) (by unfold maxLen; omega) rfl) ⟨b, off, none⟩ n cap cs rfl HCL.out HCJ.out HCO.out (by omega) (by unfold maxLen; omega) (by omega) (by simp) (w.heap.size + 1) (by simp) ?_; intro gg cap2 w4 hown4 hgrow hat hlt4)
  simp only [Nat.zero_add, List.nil_append] at hown4
  have hge : w.heap.size ≤ gg := owns_le hown4 rfl
  go_ret
  refine ⟨gg, cap2, rfl, hge, ?_, (below1 w (.cells #[] 3)).grown hgrow (by simp) fun j hj => by simp [Value.ownBlock] at hj; omega⟩
  refine Own.of_own hown4 fun i hi => ?_
  rw [HCS.out, List.getElem?_map, List.getElem?_range hi]; rfl

end Go.Proofs.Ytnldodnpakpeeaa
