/- Contract of the program's united. For the seats of tied cards. -/
import Derived.Test.YtgilbenbaefgfabDoorRg
import Derived.Test.YtgilbenbaefgfabDoorPs
import Derived.Deep.RegionHeld3
import Derived.Outline
import Derived.Test.YtgilbenbaefgfabDoorPv
import Derived.Test.YtgilbenbaefgfabDoorD1
import Derived.Test.YtgilbenbaefgfabDoorG2
import Derived.Test.YtgilbenbaefgfabDoorR3
import Derived.Deep.RegionLawGrows
import Derived.Maps.AppendAt
import Derived.ScopeJumps
import Derived.WalkMore
import Derived.Scope
namespace Go.Proofs.YtgilbenbaefgfabDoor
open Go.RowKit Vo

theorem FromI.next {s i left : Nat} (h : FromI s i left) (h0 : 0 < left) (hl : left < 512) : FromI s (firstN left + 1) (out left (firstN left)) := by
  intro j
  have h9 := (first_in h0 hl).1
  obtain ⟨hi, hb⟩ := h.hit h0 hl
  have hgap : ∀ j, i ≤ j → j < firstN left → s.testBit j = false := fun j h1 h2 => h.gap h0 hl h1 h2
  have hj := h j
  generalize firstN left = t at *
  by_cases h64 : j < 64
  · rw [testBit_out (by omega) h64, hj]
    rcases Nat.lt_trichotomy j t with h1 | h1 | h1
    · rw [show decide (t + 1 ≤ j) = false from decide_eq_false (by omega)]
      by_cases h2 : i ≤ j
      · rw [hgap j h2 h1]; simp
      · rw [decide_eq_false h2]; simp
    · subst h1
      rw [show decide (j + 1 ≤ j) = false from decide_eq_false (by omega)]
      simp
    · rw [decide_eq_true (show i ≤ j by omega), decide_eq_true (show t + 1 ≤ j by omega), decide_eq_true (show j ≠ t by omega)]
      simp
  · have h2 : left < 2^j := Nat.lt_of_lt_of_le hl (show 2^9 ≤ 2^j from Nat.pow_le_pow_right (by omega) (by omega))
    have h3 : out left t < 2^j := Nat.lt_of_le_of_lt (out_le _ _) h2
    rw [Nat.testBit_lt_two_pow h2, decide_eq_true (show i ≤ j by omega), Bool.true_and] at hj
    rw [Nat.testBit_lt_two_pow h3, ← hj, Bool.and_false]
theorem wp_scope_again {P : Program} {a : Act} {w : World} {Q : Exit → Act → World → Prop} {c code : Code} (l : Nat) (J : Act → World → Prop) (μ : Act → World → Nat) (hf : findLabel c l = some (.seq .skip code))
    (pass : ∀ a w, J a w → code.wp P (Exit.jump l (fun a' w' => J a' w' ∧ μ a' w' < μ a w) Q) a w)
    (first : (∀ a w, J a w → code.wp P (Exit.jump l J Q) a w) → c.wp P (Exit.jump l J Q) a w) : (Code.scope c).wp P Q a w :=
  wp_scope_jumps l J μ hf (first fun a w h b k cs => by
    obtain ⟨e, a', w', hq, har⟩ := pass a w h b k cs
    refine ⟨e, a', w', ?_, har⟩
    cases e with
    | goto l' => exact ⟨hq.1, hq.2.1⟩
    | _ => exact hq) fun a w h => wp_seq (wp_skip (pass a w h))

set_option maxRecDepth 20000 in
set_option maxHeartbeats 4000000 in
theorem merged_any (b off n cap s : Nat) (ws : List Int) (w : World) (h1 : 1 ≤ n) (h9 : n ≤ 9) (hcap : n ≤ cap) (hs0 : 0 < s) (hs : s < 2^n) (hok : InK 0 1000 ws n) (hsl : Sl w b off n ws) (hT : Tab w) :
    Calls Tryd.prog 53 #[.slice (some ⟨b, off, none⟩) n cap, .int .u64 s] w fun e w' => IntsAt (mrgL ws s (firstN s) (wtK ws s n) n) w w' e := by
  obtain ⟨i0, hi0, hz0, hz1, hz2⟩ := infoIntParts
  have h512 : s < 512 := Nat.lt_of_lt_of_le hs (Nat.pow_le_pow_right (n := 2) (by omega) h9)
  have HF := Lib.hid (first_in hs0 h512)
  have hfn : firstN s < n := by
    apply Nat.lt_of_not_le
    intro h
    have h2 := HF.out.2.1
    rw [Nat.testBit_lt_two_pow (Nat.lt_of_lt_of_le hs (Nat.pow_le_pow_right (n := 2) (by omega) h))] at h2
    cases h2
  have HSL := Lib.hid hsl
  have HOK := Lib.hid hok
  have HT := Lib.hid hT
  have HFC := Lib.hid (first_any s h512 hs0 w hT)
  obtain ⟨f, hf⟩ : ∃ f, f = firstN s := ⟨_, rfl⟩
  rw [← hf] at hfn HF HFC ⊢
  obtain ⟨X, hX⟩ : ∃ X, X = wtK ws s n := ⟨_, rfl⟩
  have HOF := Lib.hid (show ∀ W, Sl W b off n ws → Calls Tryd.prog 57 #[.slice (some ⟨b, off, none⟩) n cap, .int .u64 s] W fun e w' => e = .returned (.int .i64 X) ∧ W = w' from fun W h => by rw [hX]; exact ofB_any b off n cap ws s W (by omega) h512 (InK.up hok (by omega)) h)
  rw [← hX]
  have HFF := Lib.hid hf
  have HCU := Lib.hid (fun W (h : Sl W b off n ws) => cut_cells h (show 0 + f ≤ n by omega))
  have HFR := Lib.hid (show FromI s (f + 1) (out s f) from by rw [hf]; exact FromI.next (show FromI s 0 s from fun j => by simp) hs0 h512)
  have HML := Lib.hid (show mrgL ws s f X (f + 1) = ((List.range f).map fun i => ws.getD i 0) ++ [X] from by rw [mrgL_at, hf, mrgL_head hs0 h512 (Nat.le_refl _)])
  clear hsl hok hT hf hX
  go_enter Tryd.func53, Tryd.ntmps53
  go_wp2
  refine wp_scope_again 0 (fun a' w' => ∃ (i left : Nat) (A : Option Addr) (ln cp : Nat) (ii : Int) (u9 u10 u11 u12 u13 u14 u15 u16 u17 u18 u19 u20 u21 u22 u23 u24 u25 u26 u27 u28 u29 u30 u31 u32 u33 u34 u35 u36 u37 u38 u39 u40 u41 u42 u43 u44 u45 : Value), a' = { tmps := #[.slice (some ⟨b, off, none⟩) n cap, .int .u64 s, undef, undef, .slice none 0 0, .int .i64 f, .slice A ln cp, .int .i64 ii, .int .u64 left, u9, u10, u11, u12, u13, u14, u15, u16, u17, u18, u19, u20, u21, u22, u23, u24, u25, u26, u27, u28, u29, u30, u31, u32, u33, u34, u35, u36, u37, u38, u39, u40, u41, u42, u43, u44, u45], defers := [] } ∧ ii = i ∧ ln = (mrgL ws s f X i).length ∧ f < i ∧ i ≤ n ∧ left < 2^n ∧ FromI s i left ∧ w'.ownsRow w.heap.size 3 1 (.slice A ln cp) ln ((mrgL ws s f X i).map (Value.int .i64)) ∧ Below w.heap.size w w') (fun a' _ => n - (intOf (a'.tmps.getD 7 undef)).toNat) rfl ?_ ?_
  · rintro a' w' ⟨i, left, A, ln, cp, ii, u9, u10, u11, u12, u13, u14, u15, u16, u17, u18, u19, u20, u21, u22, u23, u24, u25, u26, u27, u28, u29, u30, u31, u32, u33, u34, u35, u36, u37, u38, u39, u40, u41, u42, u43, u44, u45, rfl, rfl, hln, hfi, hin, hl, hfrom, hown, hb⟩
    have HO := Lib.hid hown
    have HLN := Lib.hid hln
    have HFI := Lib.hid hfrom
    have hlen : ln ≤ 9 := by have := mrgL_le ws s f X i; omega
    have hl5 : left < 512 := Nat.lt_of_lt_of_le hl (Nat.pow_le_pow_right (n := 2) (by omega) h9)
    clear hown hln hfrom
    have hii : (0 : Int) ≤ i := by omega
    have hini : (i : Int) ≤ n := by omega
    by_cases h0 : left = 0
    · subst h0
      have HMN := Lib.hid (show mrgL ws s f X n = mrgL ws s f X i ++ (List.range (n - i)).map fun j => ws.getD (i + j) 0 from by
        have h := mrgL_more ws s f X i (n - i) fun j h1 h2 => ⟨by omega, HFI.out.none h1⟩
        rw [show i + (n - i) = n by omega] at h
        exact h)
      by_cases hci : cap = i
      · obtain rfl : i = n := by omega
        subst hci
        go_wp2_with (at_builtin; refine wpList_append_own_at _ rfl _ _ _ rfl w.heap.size 3 i0 _ 1 8 Tryd.underlying72 hi0 hz0 hz1 hz2 rfl (by decide) (.slice A ln cp) ln _ rfl HO.out ⟨b, off, none⟩ 0 0 [] rfl rfl (by intro j u hu; cases hu) (by intro u hu; cases hu) (by unfold maxLen; omega) (by omega) hb.size ?_; intro v1 w4 hown4 hgrow4 hnil4 hat4; obtain ⟨B, cpB, rfl⟩ := owns_slice hown4)
        simp only [Exit.jump]
        go_ret
        exact ⟨B, cpB, by rw [← HLN.out]; rfl, by rw [← HLN.out]; simpa using hown4, hb.grown hgrow4 hb.size fun i hi => owns_le HO.out hi⟩
      · go_wp2_with (at_builtin; refine wpList_append_own_at _ rfl _ _ _ rfl w.heap.size 3 i0 _ 1 8 Tryd.underlying72 hi0 hz0 hz1 hz2 rfl (by decide) (.slice A ln cp) ln ((mrgL ws s f X i).map (Value.int .i64)) rfl HO.out ⟨b, off + i, none⟩ (n - i) (cap - i) (cut ws i (n - i)) rfl (by rw [cut_len]; omega) (cut_cells (HSL.out.now hb) (by omega) (off + i) rfl) (cut_one _ _ _) (by unfold maxLen; omega) (by omega) hb.size ?_; intro v1 w4 hown4 hgrow4 hnil4 hat4; obtain ⟨B, cpB, rfl⟩ := owns_slice hown4)
        simp only [Exit.jump]
        go_ret
        refine ⟨B, cpB, ?_, ?_, hb.grown hgrow4 hb.size fun i hi => owns_le HO.out hi⟩
        · rw [HMN.out, HLN.out]
          simp
        · have e : (mrgL ws s f X n).map (Value.int .i64) = (mrgL ws s f X i).map (Value.int .i64) ++ cut ws i (n - i) := by
            rw [HMN.out, List.map_append, List.map_map, cut]
            congr 1
          have e2 : (mrgL ws s f X n).length = ln + (n - i) := by rw [HMN.out, HLN.out]; simp
          rw [e, e2]
          exact hown4
    · have hpos : 0 < left := Nat.pos_of_ne_zero h0
      obtain ⟨hit, hst⟩ := HFI.out.hit hpos hl5
      have ht9 := (first_in hpos hl5).1
      have htn : firstN left < n := by
        apply Nat.lt_of_not_le
        intro h
        have h2 := (first_in hpos hl5).2.1
        rw [Nat.testBit_lt_two_pow (Nat.lt_of_lt_of_le hl (Nat.pow_le_pow_right (n := 2) (by omega) h))] at h2
        cases h2
      have HGAP := Lib.hid (fun j h1 h2 => HFI.out.gap hpos hl5 (j := j) h1 h2)
      have HNX := Lib.hid (FromI.next HFI.out hpos hl5)
      have HFC2 := Lib.hid (first_any left hl5 hpos w' (HT.out.now hb))
      obtain ⟨t, ht⟩ : ∃ t, t = firstN left := ⟨_, rfl⟩
      rw [← ht] at hit hst ht9 htn HGAP HNX HFC2
      clear ht
      have HMT := Lib.hid (show mrgL ws s f X (t + 1) = mrgL ws s f X i ++ (List.range (t - i)).map fun j => ws.getD (i + j) 0 from by
        rw [mrgL_skip (by omega) hst]
        have h := mrgL_more ws s f X i (t - i) fun j h1 h2 => ⟨by omega, HGAP.out j h1 (by omega)⟩
        rw [show i + (t - i) = t by omega] at h
        exact h)
      have hti : (i : Int) ≤ t := by omega
      have htc : (t : Int) ≤ cap := by omega
      have hlb : ((left : Int) == 0) = false := by simp; omega
      go_wp2_with fail
      refine HFC2.out.mono ?_
      rintro e w2 ⟨rfl, rfl⟩
      go_wp2_with (first
        | (at_builtin; refine wpList_append_own_at _ rfl _ _ _ rfl w.heap.size 3 i0 _ 1 8 Tryd.underlying72 hi0 hz0 hz1 hz2 rfl (by decide) (.slice A ln cp) ln ((mrgL ws s f X i).map (Value.int .i64)) rfl HO.out ⟨b, off + i, none⟩ (t - i) (cap - i) (cut ws i (t - i)) rfl (by rw [cut_len]; omega) (cut_cells (HSL.out.now hb) (by omega) (off + i) rfl) (cut_one _ _ _) (by unfold maxLen; omega) (by omega) hb.size ?_; intro v1 w4 hown4 hgrow4 hnil4 hat4; obtain ⟨B, cpB, rfl⟩ := owns_slice hown4)
        | (go_at_call 64; refine (without_any left t _ (by omega) hl5).mono ?_; rintro e w5 ⟨rfl, rfl⟩)
        | fail)
      go_step3
      refine ⟨rfl, ⟨t + 1, out left t, B, ln + (t - i), cpB, (t : Int) + 1, _, _, _, _, _, _, _, _, _, _, _, _, _, _, _, _, _, _, _, _, _, _, _, _, _, _, _, _, _, _, _, _, _, _, _, _, _, rfl, by omega, ?_, by omega, by omega, Nat.lt_of_le_of_lt (out_le _ _) hl, HNX.out, ?_, hb.grown hgrow4 hb.size fun i hi => owns_le HO.out hi⟩, ?_⟩
      · rw [HMT.out, HLN.out]
        simp
      · have e : (mrgL ws s f X (t + 1)).map (Value.int .i64) = (mrgL ws s f X i).map (Value.int .i64) ++ cut ws i (t - i) := by
          rw [HMT.out, List.map_append, List.map_map, cut]
          congr 1
        rw [e]
        exact hown4
      · simp [intOf]
        omega
  · intro again
    go_wp2_with fail
    refine HFC.out.mono ?_
    rintro e w1 ⟨rfl, rfl⟩
    go_wp2_with fail
    have hfc : (f : Int) ≤ cap := by omega
    have hf0 : (0 : Int) ≤ f := by omega
    have hff : (f : Int) ≤ f := Int.le_refl _
    go_region_law (first
      | (refine step_append_grows (by rfl) _ _ _ (by rfl) 3 i0 (.int .i64 0) 1 8 Tryd.underlying72 hi0 hz0 hz1 hz2 rfl (by omega) (some ⟨b, off, none⟩) f f (cut ws 0 f) (by rfl) (by intro h; cases h) (by rw [cut_len]; omega) (by intro b' hb' j u hu; cases hb'; exact HCU.out _ (HSL.out.drew.alloc _) _ (by omega) j u hu) ⟨w.heap.size, 0, none⟩ 1 1 [.int .i64 X] (by rfl) (by rfl) (World.news_of_block (cs := #[.int .i64 X]) (t := 3) (fr := (0, 0)) (heap_alloc_new _ _)) (by simp [Value.oneCell']) (by omega) (by unfold maxLen; omega) (by omega) ?_; intro v6 w6 hown6 hgrow6)
      | (go_simp; go_at_call 57; refine (HOF.out _ HSL.out.drew).mono ?_; rintro e w4 ⟨rfl, rfl⟩)
      | fail)
    all_goals
      simp only [Act.put, List.setIfInBounds_toArray, List.set_cons_zero, List.set_cons_succ, List.getElem_toArray, List.getElem_cons_zero, List.getElem_cons_succ]
      obtain ⟨gB, cpB, rfl, hgB⟩ : ∃ g c, v6 = .slice (some ⟨g, 0, none⟩) (f + 1) c ∧ w.heap.size ≤ g := by
        obtain ⟨g, c, hv, hg, _⟩ := hown6.form (by omega)
        exact ⟨g, c, hv, Nat.le_trans (by simp) hg⟩
      go_wp2_with fail
      refine (without_any s f _ (by omega) h512).mono ?_
      rintro e w7 ⟨rfl, rfl⟩
      go_wp2_with fail
      go_step3
      rename_i K hK
      refine hK _ _ (again _ _ ⟨f + 1, out s f, some ⟨gB, 0, none⟩, f + 1, cpB, (f : Int) + 1, _, _, _, _, _, _, _, _, _, _, _, _, _, _, _, _, _, _, _, _, _, _, _, _, _, _, _, _, _, _, _, _, _, _, _, _, _, rfl, by omega, ?_, Nat.lt_succ_self _, hfn, ?_, HFR.out, ?_, ?_⟩)
      · rw [HML.out]
        simp
      · exact Nat.lt_of_le_of_lt (out_le _ _) hs
      · rw [HML.out]
        have h := owns_less hown6 (show w.heap.size ≤ _ by simp)
        have e : cut ws 0 f ++ [Value.int .i64 X] = (((List.range f).map fun i => ws.getD i 0) ++ [X]).map (Value.int .i64) := by
          rw [List.map_append, List.map_map, cut]
          congr 1
          apply List.map_congr_left
          intro j _
          rw [Nat.zero_add]
          rfl
        rw [← e]
        exact h
      · exact ((below1 w _).drew).grown hgrow6 (by simp) fun i hi => by cases hi
end Go.Proofs.YtgilbenbaefgfabDoor

namespace Go.Proofs.YtgilbenbaefgfabDoor
open Go.RowKit Vo

theorem boxU_put {t : TypeId} {w : World} {g : Nat} {u v : Value} (h : BoxT t w g u v) (a b : Value) : BoxT t ((w.setCell ⟨g, 0, none⟩ a).setCell ⟨g, 1, none⟩ b) g a b := by
  unfold BoxT at *
  simp [World.setCell, Array.getElem?_modify, h]
theorem box3U_far {t : TypeId} {w : World} {g : Nat} {a b c : Value} (h : Box3 t w g a b c) {p : Addr} (hp : g ≠ p.block) (u : Value) : Box3 t (w.setCell p u) g a b c := (Below.heap_setCell w p u g hp).trans h
theorem box3U_cells2 {t : TypeId} {w : World} {g : Nat} {a b c : Value} (h : Box3 t w g a b c) {p p' : Addr} (hp : g ≠ p.block) (hp' : g ≠ p'.block) (u u' : Value) :
    ((w.setCell p u).setCell p' u').cell? ⟨g, 0, none⟩ = some a ∧ ((w.setCell p u).setCell p' u').cell? ⟨g, 1, none⟩ = some b ∧ ((w.setCell p u).setCell p' u').cell? ⟨g, 2, none⟩ = some c := (box3U_far (box3U_far h hp u) hp' u').cells
theorem box3U_c2 {t : TypeId} {w : World} {g g' : Nat} {a b c : Value} (h : Box3 t w g a b c) (hn : g ≠ g') (x y z : Value) :
    (((w.setCell ⟨g', 0, none⟩ x).setCell ⟨g', 1, none⟩ y).setCell ⟨g', 2, none⟩ z).cell? ⟨g, 2, none⟩ = some c :=
  (box3U_far (box3U_far (box3U_far h (p := ⟨g', 0, none⟩) hn x) (p := ⟨g', 1, none⟩) hn y) (p := ⟨g', 2, none⟩) hn z).cells.2.2
theorem first_lt {s n : Nat} (h0 : 0 < s) (h9 : n ≤ 9) (hs : s < 2^n) : firstN s < n := by
  apply Nat.lt_of_not_le
  intro h
  have h512 : s < 512 := Nat.lt_of_lt_of_le hs (Nat.pow_le_pow_right (n := 2) (by omega) h9)
  have h2 := (first_in h0 h512).2.1
  rw [Nat.testBit_lt_two_pow (Nat.lt_of_lt_of_le hs (Nat.pow_le_pow_right (n := 2) (by omega) h))] at h2
  cases h2
/-- The weights of the union of a set. -/
def uniL (ws : List Int) (n s : Nat) : List Int := mrgL ws s (firstN s) (wtK ws s n) n
theorem uniL_le (ws : List Int) (n s : Nat) : (uniL ws n s).length ≤ n := mrgL_le _ _ _ _ _
theorem uniL_pos {ws : List Int} {n s : Nat} (h0 : 0 < s) (h9 : n ≤ 9) (hs : s < 2^n) : 1 ≤ (uniL ws n s).length :=
  List.length_pos_of_mem (mrgL_has ws s (wtK ws s n) (first_lt h0 h9 hs))

set_option maxRecDepth 20000 in
set_option maxHeartbeats 8000000 in
theorem united_any (q : Int) (b off n s : Nat) (ws : List Int) (w : World) (hg : Vo.Good q ws n) (h0 : 0 < s) (hs : s < 2^n) (hsl : Sl w b off n ws) (hT : Tab w) :
    Calls Tryd.prog 39 #[.agg #[.int .i64 q, .slice (some ⟨b, off, none⟩) n n, .int .u64 s]] w fun e w' => PartyAt (decide (wtK ws s n ≤ 1000)) q (uniL ws n s).length (uniL ws n s) (2^firstN s) w w' e := by
  have hn9 := hg.hi
  have hn1 := hg.lo
  have h512 : s < 512 := Nat.lt_of_lt_of_le hs (Nat.pow_le_pow_right (n := 2) (by omega) hn9)
  have hfn := first_lt h0 hn9 hs
  have HOK := Lib.hid (show goodB q (uniL ws n s) (uniL ws n s).length = decide (wtK ws s n ≤ 1000) from mrg_good hg h0 h512 hfn)
  have HMG := Lib.hid (show ∀ W, Sl W b off n ws → Tab W → Calls Tryd.prog 53 #[.slice (some ⟨b, off, none⟩) n n, .int .u64 s] W fun e w' => IntsAt (uniL ws n s) W w' e from fun W h1 h2 => merged_any b off n n s ws W hn1 hn9 (Nat.le_refl _) h0 hs hg.ok h1 h2)
  simp only [IntsAt] at HMG
  have HFC := Lib.hid (fun W h => first_any s h512 h0 W h)
  have hm1 := uniL_pos (ws := ws) h0 hn9 hs
  have hm9 := uniL_le ws n s
  have HSL := Lib.hid hsl
  have HT := Lib.hid hT
  obtain ⟨ok, hok⟩ : ∃ z, z = decide (wtK ws s n ≤ 1000) := ⟨_, rfl⟩
  rw [← hok] at HOK ⊢
  clear hok hg hsl hT
  obtain ⟨f, hf⟩ : ∃ z, z = firstN s := ⟨_, rfl⟩
  simp only [← hf] at HFC
  rw [← hf] at hfn ⊢
  clear hf
  obtain ⟨L, hL⟩ : ∃ z, z = uniL ws n s := ⟨_, rfl⟩
  simp only [← hL] at HMG HOK
  rw [← hL] at hm1 hm9 ⊢
  clear hL
  have HINT := Lib.hid (show ∀ (W : World) (base gg cp : Nat), W.ownsRow base 3 1 (.slice (some ⟨gg, 0, none⟩) L.length cp) L.length (L.map (Value.int .i64)) → Ints W gg L.length L from fun W base gg cp h => Own.of_own h fun i hi => by simp [List.getD_eq_getElem?_getD, hi])
  obtain ⟨m, hm⟩ : ∃ z, z = L.length := ⟨_, rfl⟩
  simp only [← hm] at HMG HINT
  rw [← hm] at HOK hm1 hm9 ⊢
  clear hm
  have HMB0 := Lib.hid (fun A cB W => member_any q A m cB f W (by omega))
  obtain ⟨P, hP⟩ : ∃ z, z = 2^f := ⟨_, rfl⟩
  simp only [← hP] at HMB0
  rw [← hP]
  clear hP
  have hb0 : Below w.heap.size w ((w.alloc (.cells #[.int .i64 q, .slice (some ⟨b, off, none⟩) n n, .int .u64 s] 60)).alloc (.cells #[.int .i64 0, .slice none 0 0, .int .u64 0] 60)) := (below1 w _).alloc (by simp) _
  have hx := (Box3.new 60 w (.int .i64 q) (.slice (some ⟨b, off, none⟩) n n) (.int .u64 s)).alloc (.cells #[.int .i64 0, .slice none 0 0, .int .u64 0] 60)
  have hr := Box3.new 60 (w.alloc (.cells #[.int .i64 q, .slice (some ⟨b, off, none⟩) n n, .int .u64 s] 60)) (.int .i64 0) (.slice none 0 0) (.int .u64 0)
  simp only [World.size_alloc] at hr
  obtain ⟨w0, hw0⟩ : ∃ z, z = (w.alloc (.cells #[.int .i64 q, .slice (some ⟨b, off, none⟩) n n, .int .u64 s] 60)).alloc (.cells #[.int .i64 0, .slice none 0 0, .int .u64 0] 60) := ⟨_, rfl⟩
  have hsz0 : w.heap.size + 1 < w0.heap.size := by rw [hw0]; simp
  rw [← hw0] at hb0 hx hr
  have HWW := Lib.hid hw0
  clear hw0
  have HB0 := Lib.hid (show Below w0.heap.size w0 w0.drew from (Below.refl _ w0).drew)
  have HB1 := Lib.hid (show Below w0.heap.size w0 (w0.alloc (.cells #[.int .i64 0, .slice none 0 0] 28)).drew from ((Below.refl _ w0).alloc (Nat.le_refl _) _).drew)
  have HBX1 := Lib.hid (show BoxT 28 (w0.alloc (.cells #[.int .i64 0, .slice none 0 0] 28)).drew w0.heap.size (.int .i64 0) (.slice none 0 0) from Box.new w0 (.int .i64 0) (.slice none 0 0))
  obtain ⟨c0, c1, c2⟩ := hx.cells
  obtain ⟨c3, c4, c5⟩ := (hx.alloc (.cells #[.int .i64 0, .slice none 0 0] 28)).drew.cells
  go_enter Tryd.func39, Tryd.ntmps39
  go_wp2_with fail
  rw [← HWW.out]
  go_region_held3 (fun w' => w'.cell? ⟨w.heap.size, 0, none⟩ = some (.int .i64 q) ∧ w'.cell? ⟨w.heap.size, 1, none⟩ = some (.slice (some ⟨b, off, none⟩) n n) ∧ w'.cell? ⟨w.heap.size, 2, none⟩ = some (.int .u64 s))
    (first | with_reducible exact ⟨c0, c1, c2⟩ | with_reducible exact ⟨a0, a1, a2⟩ | with_reducible exact ⟨k0, k1, k2⟩ | with_reducible exact (hx.alloc _).cells | with_reducible exact (hx.alloc _).drew.cells | with_reducible exact (hxA.alloc _).cells | with_reducible exact (hxB.alloc _).cells | with_reducible exact box3U_cells2 hxB (p := ⟨w0.heap.size, 0, none⟩) (p' := ⟨w0.heap.size, 1, none⟩) (show w.heap.size ≠ w0.heap.size by omega) (show w.heap.size ≠ w0.heap.size by omega) _ _ | with_reducible exact box3U_cells2 hxB (p := ⟨wA.heap.size, 0, none⟩) (p' := ⟨wA.heap.size, 1, none⟩) (show w.heap.size ≠ wA.heap.size by omega) (show w.heap.size ≠ wA.heap.size by omega) _ _ | go_keep)
    (first
      | (go_at_call 52; refine (weights_any _ _ _ _ _).mono ?_; rintro e wA ⟨rfl, hbA⟩; (first | (with_reducible have gA := bfrom HB0.out hbA) | (with_reducible have gA := bfrom HB1.out hbA)); have hzA := gA.size; have hxA := hx.now gA; obtain ⟨a0, a1, a2⟩ := hxA.cells; obtain ⟨a3, a4, a5⟩ := (hxA.alloc (.cells #[.int .i64 0, .slice none 0 0] 28)).cells; try (with_reducible have hnA := HBX1.out.now hbA); try (obtain ⟨p0, p1⟩ := hnA.cells; obtain ⟨q0, q1⟩ := frozen2 hnA))
      | (go_at_call 53; with_reducible refine (HMG.out wA (HSL.out.now (bfrom hb0 gA)) (HT.out.now (bfrom hb0 gA))).mono ?_; rintro e wB ⟨B, cB, rfl, hownB, hbB⟩; have gB := bfrom gA hbB; have hxB := hx.now gB; obtain ⟨k0, k1, k2⟩ := hxB.cells; obtain ⟨k3, k4, k5⟩ := (hxB.alloc (.cells #[.int .i64 0, .slice none 0 0] 28)).cells; have HOB := Lib.hid hownB; have hBle : ∀ i, (Value.slice B m cB).ownBlock = some i → wA.heap.size ≤ i := fun i hi => owns_le hownB hi; try (have hnB := hnA.now hbB; obtain ⟨r0, r1⟩ := hnB.cells; obtain ⟨s0, s1⟩ := frozen2 hnB))
      | (go_at_call 53; refine (HMG.out (wA.alloc (.cells #[.int .i64 0, .slice none 0 0] 28)) ((HSL.out.now (bfrom hb0 gA)).alloc _) ((HT.out.now (bfrom hb0 gA)).now (below1 _ _))).mono ?_; rintro e wB ⟨B, cB, rfl, hownB, hbB⟩; have gB := bfrom (gA.alloc hzA (.cells #[.int .i64 0, .slice none 0 0] 28)) hbB; have hxB := hx.now gB; obtain ⟨k0, k1, k2⟩ := hxB.cells; obtain ⟨k3, k4, k5⟩ := (hxB.alloc (.cells #[.int .i64 0, .slice none 0 0] 28)).cells; have HOB := Lib.hid hownB; have hBle : ∀ i, (Value.slice B m cB).ownBlock = some i → wA.heap.size + 1 ≤ i := fun i hi => (by have := owns_le hownB hi; simpa using this); have hnM := (Box.new wA (.int .i64 0) (.slice none 0 0)).now hbB; obtain ⟨r0, r1⟩ := hnM.cells; obtain ⟨s0, s1⟩ := frozen2 hnM)
      | fail)
  all_goals
    obtain ⟨gg, cB', hv, hgg, _, _⟩ := owns_head HOB.out (by omega)
    obtain ⟨rfl, rfl⟩ : B = some ⟨gg, 0, none⟩ ∧ cB = cB' := by simpa using hv
    have HI4 := Lib.hid (HINT.out _ _ _ _ HOB.out)
    have hgge := hBle gg rfl
    have hrB := hr.now gB
    have hgB := bfrom hb0 gB
    have hzB := gB.size
    clear hv hBle
  all_goals (first
    | (have hb9 := boxU_put (show BoxT 28 wB wA.heap.size (.int .i64 0) (.slice none 0 0) from hnM) (.int .i64 q) (.slice (some ⟨gg, 0, none⟩) m cB)
       have hne : gg ≠ wA.heap.size := by omega
       have hrn : w.heap.size + 1 ≠ wA.heap.size := by omega
       have hxn : w.heap.size ≠ wA.heap.size := by omega
       have hx9 := box3U_far (box3U_far hxB (p := ⟨wA.heap.size, 0, none⟩) hxn (.int .i64 q)) (p := ⟨wA.heap.size, 1, none⟩) hxn (.slice (some ⟨gg, 0, none⟩) m cB)
       have hr9 := box3U_far (box3U_far hrB (p := ⟨wA.heap.size, 0, none⟩) hrn (.int .i64 q)) (p := ⟨wA.heap.size, 1, none⟩) hrn (.slice (some ⟨gg, 0, none⟩) m cB)
       have hI9 := Own.far (Own.far HI4.out (p := ⟨wA.heap.size, 0, none⟩) hne (.int .i64 q)) (p := ⟨wA.heap.size, 1, none⟩) hne (.slice (some ⟨gg, 0, none⟩) m cB)
       have g9 := (hgB.setCell (p := ⟨wA.heap.size, 0, none⟩) (show w.heap.size ≤ wA.heap.size by omega) (.int .i64 q)).setCell (p := ⟨wA.heap.size, 1, none⟩) (show w.heap.size ≤ wA.heap.size by omega) (.slice (some ⟨gg, 0, none⟩) m cB)
       obtain ⟨W9, hW9⟩ : ∃ W9, W9 = (wB.setCell ⟨wA.heap.size, 0, none⟩ (.int .i64 q)).setCell ⟨wA.heap.size, 1, none⟩ (.slice (some ⟨gg, 0, none⟩) m cB) := ⟨_, rfl⟩
       rw [← hW9] at hb9 hx9 hr9 hI9 g9 ⊢
       clear hW9
       obtain ⟨nb, hnb⟩ : ∃ nb, nb = wA.heap.size := ⟨_, rfl⟩
       rw [← hnb] at hb9 hrn hxn ⊢
       clear hnb)
    | (have hb9 := boxU_put (show BoxT 28 wB w0.heap.size (.int .i64 0) (.slice none 0 0) from hnB) (.int .i64 q) (.slice (some ⟨gg, 0, none⟩) m cB)
       have hlA : w0.heap.size < wA.heap.size := hnA.lt
       have hne : gg ≠ w0.heap.size := by omega
       have hrn : w.heap.size + 1 ≠ w0.heap.size := by omega
       have hxn : w.heap.size ≠ w0.heap.size := by omega
       have hx9 := box3U_far (box3U_far hxB (p := ⟨w0.heap.size, 0, none⟩) hxn (.int .i64 q)) (p := ⟨w0.heap.size, 1, none⟩) hxn (.slice (some ⟨gg, 0, none⟩) m cB)
       have hr9 := box3U_far (box3U_far hrB (p := ⟨w0.heap.size, 0, none⟩) hrn (.int .i64 q)) (p := ⟨w0.heap.size, 1, none⟩) hrn (.slice (some ⟨gg, 0, none⟩) m cB)
       have hI9 := Own.far (Own.far HI4.out (p := ⟨w0.heap.size, 0, none⟩) hne (.int .i64 q)) (p := ⟨w0.heap.size, 1, none⟩) hne (.slice (some ⟨gg, 0, none⟩) m cB)
       have g9 := (hgB.setCell (p := ⟨w0.heap.size, 0, none⟩) (show w.heap.size ≤ w0.heap.size by omega) (.int .i64 q)).setCell (p := ⟨w0.heap.size, 1, none⟩) (show w.heap.size ≤ w0.heap.size by omega) (.slice (some ⟨gg, 0, none⟩) m cB)
       obtain ⟨W9, hW9⟩ : ∃ W9, W9 = (wB.setCell ⟨w0.heap.size, 0, none⟩ (.int .i64 q)).setCell ⟨w0.heap.size, 1, none⟩ (.slice (some ⟨gg, 0, none⟩) m cB) := ⟨_, rfl⟩
       rw [← hW9] at hb9 hx9 hr9 hI9 g9 ⊢
       clear hW9
       obtain ⟨nb, hnb⟩ : ∃ nb, nb = w0.heap.size := ⟨_, rfl⟩
       rw [← hnb] at hb9 hrn hxn ⊢
       clear hnb)
    | (have hb9 := Box.new wB (.int .i64 q) (.slice (some ⟨gg, 0, none⟩) m cB)
       have hx9 := hxB.alloc (.cells #[.int .i64 q, .slice (some ⟨gg, 0, none⟩) m cB] 28)
       have hr9 := hrB.alloc (.cells #[.int .i64 q, .slice (some ⟨gg, 0, none⟩) m cB] 28)
       have hI9 := Own.alloc HI4.out (.cells #[.int .i64 q, .slice (some ⟨gg, 0, none⟩) m cB] 28)
       have g9 := hgB.alloc hgB.size (.cells #[.int .i64 q, .slice (some ⟨gg, 0, none⟩) m cB] 28)
       have hrn : w.heap.size + 1 ≠ wB.heap.size := by omega
       have hxn : w.heap.size ≠ wB.heap.size := by omega
       obtain ⟨W9, hW9⟩ : ∃ W9, W9 = wB.alloc (.cells #[.int .i64 q, .slice (some ⟨gg, 0, none⟩) m cB] 28) := ⟨_, rfl⟩
       rw [← hW9] at hb9 hx9 hr9 hI9 g9 ⊢
       clear hW9
       obtain ⟨nb, hnb⟩ : ∃ nb, nb = wB.heap.size := ⟨_, rfl⟩
       rw [← hnb] at hb9 hrn hxn ⊢
       clear hnb)
    | fail)
  all_goals
    have hI9d := Own.drew hI9
    have HFD := Lib.hid (show ∀ wD, Below W9.drew.heap.size W9.drew wD → (Box wD nb (.int .i64 q) (.slice (some ⟨gg, 0, none⟩) m cB) ∧ Box3 60 wD w.heap.size (.int .i64 q) (.slice (some ⟨b, off, none⟩) n n) (.int .u64 s) ∧ Box3 60 wD (w.heap.size + 1) (.int .i64 0) (.slice none 0 0) (.int .u64 0) ∧ Below w.heap.size w wD ∧ Ints wD gg m L) from fun wD hb => ⟨hb9.drew.now hb, hx9.drew.now hb, hr9.drew.now hb, bfrom g9.drew hb, Own.below hI9d hb (Own.lt hI9d)⟩)
    have HT9 := Lib.hid (show Tab W9.drew from HT.out.now g9.drew)
    have hk9 := And.intro hx9.cells.2.2 (kept3a hb9 hr9)
    have hk9d := And.intro hx9.drew.cells.2.2 (kept3a hb9.drew hr9.drew)
    have HMB := Lib.hid (fun W => HMB0.out (some ⟨gg, 0, none⟩) cB W)
    clear hI9d
    clear hxB hrB hgB gB gA hbA hbB hownB hI9 g9 k0 k1 k2 k3 k4 k5 a0 a1 a2 a3 a4 a5 c0 c1 c2 c3 c4 c5
    cases ok with
    | true =>
      have HCH := Lib.hid (fun W (h : Ints W gg m L) => checkedP_yes q (some ⟨gg, 0, none⟩) m cB P L W (by omega) (Known.of (Ints.sl h)) HOK.out)
      go_wp2_with fail
      go_region_held3 (fun w' => w'.cell? ⟨w.heap.size, 2, none⟩ = some (.int .u64 s) ∧ w'.cell? ⟨nb, 0, none⟩ = some (.int .i64 q) ∧ w'.cell? ⟨nb, 1, none⟩ = some (.slice (some ⟨gg, 0, none⟩) m cB) ∧ (w'.cell? ⟨w.heap.size + 1, 0, none⟩).isSome = true ∧ (w'.cell? ⟨w.heap.size + 1, 1, none⟩).isSome = true ∧ (w'.cell? ⟨w.heap.size + 1, 2, none⟩).isSome = true ∧ w'.frozen? ⟨w.heap.size + 1, 0, none⟩ = false ∧ w'.frozen? ⟨w.heap.size + 1, 1, none⟩ = false ∧ w'.frozen? ⟨w.heap.size + 1, 2, none⟩ = false)
        (first | with_reducible exact hk9 | with_reducible exact hk9d | with_reducible exact hkD | with_reducible exact hkE | with_reducible exact hkF | go_keep)
        (first
          | (go_at_call 55; with_reducible refine (HFC.out _ HT9.out).mono ?_; rintro e wC ⟨rfl, rfl⟩)
          | (go_at_call 54; refine (HMB.out _).mono ?_; rintro e wD ⟨rfl, hbD⟩; obtain ⟨hbD', hxD, hrD, gD, hID⟩ := HFD.out _ hbD; have HID := Lib.hid hID; clear hID; have hkD := And.intro hxD.cells.2.2 (kept3a hbD' hrD))
          | (go_at_call 56; refine (HCH.out wD HID.out).mono ?_; rintro e wE ⟨rfl, hbE⟩; obtain ⟨hbE', hxE, hrE, gE, hIE⟩ := HFD.out _ (bfrom hbD hbE); have HIE := Lib.hid hIE; clear hIE; have hkE := And.intro hxE.cells.2.2 (kept3a hbE' hrE); have hkF := And.intro (box3U_c2 hxE (g' := w.heap.size + 1) (by omega) (.int .i64 q) (.slice (some ⟨gg, 0, none⟩) m cB) (.int .u64 P)) (kept3 (a := (.int .i64 q)) (b := (.slice (some ⟨gg, 0, none⟩) m cB)) (c := (.int .u64 P)) hbE' hrE (Ne.symm hrn)); obtain ⟨d0, d1, d2⟩ := hrE.cells; obtain ⟨f0, f1, f2⟩ := frozen_box3 hrE)
          | fail)
      all_goals
        have hrF := hrE.put (.int .i64 q) (.slice (some ⟨gg, 0, none⟩) m cB) (.int .u64 P)
        obtain ⟨e0, e1, e2⟩ := hrF.cells
        go_wp2
        refine bodyPost_ret (v := .tuple #[.agg #[.int .i64 q, .slice (some ⟨gg, 0, none⟩) m cB, .int .u64 P], .bool true]) (by simp [results, Tryd.results39, go_sem, e0, e1, e2]) rfl ?_
        have hgr : gg ≠ w.heap.size + 1 := by omega
        exact ⟨_, _, rfl, Or.inr ⟨gg, rfl, by omega, ((HIE.out.far (by simpa using hgr) _).far (by simpa using hgr) _).far (by simpa using hgr) _⟩, ((gE.setCell (by simp) _).setCell (by simp) _).setCell (by simp) _⟩
    | false =>
      have HCH := Lib.hid (fun W (h : Ints W gg m L) => checkedP_no q (some ⟨gg, 0, none⟩) m cB P L W (by omega) (Known.of (Ints.sl h)) HOK.out)
      go_wp2_with fail
      go_region_held3 (fun w' => w'.cell? ⟨w.heap.size, 2, none⟩ = some (.int .u64 s) ∧ w'.cell? ⟨nb, 0, none⟩ = some (.int .i64 q) ∧ w'.cell? ⟨nb, 1, none⟩ = some (.slice (some ⟨gg, 0, none⟩) m cB) ∧ (w'.cell? ⟨w.heap.size + 1, 0, none⟩).isSome = true ∧ (w'.cell? ⟨w.heap.size + 1, 1, none⟩).isSome = true ∧ (w'.cell? ⟨w.heap.size + 1, 2, none⟩).isSome = true ∧ w'.frozen? ⟨w.heap.size + 1, 0, none⟩ = false ∧ w'.frozen? ⟨w.heap.size + 1, 1, none⟩ = false ∧ w'.frozen? ⟨w.heap.size + 1, 2, none⟩ = false)
        (first | with_reducible exact hk9 | with_reducible exact hk9d | with_reducible exact hkD | with_reducible exact hkE | with_reducible exact hkF | go_keep)
        (first
          | (go_at_call 55; with_reducible refine (HFC.out _ HT9.out).mono ?_; rintro e wC ⟨rfl, rfl⟩)
          | (go_at_call 54; refine (HMB.out _).mono ?_; rintro e wD ⟨rfl, hbD⟩; obtain ⟨hbD', hxD, hrD, gD, hID⟩ := HFD.out _ hbD; have HID := Lib.hid hID; clear hID; have hkD := And.intro hxD.cells.2.2 (kept3a hbD' hrD))
          | (go_at_call 56; refine (HCH.out wD HID.out).mono ?_; rintro e wE ⟨rfl, hbE⟩; obtain ⟨hbE', hxE, hrE, gE, hIE⟩ := HFD.out _ (bfrom hbD hbE); have HIE := Lib.hid hIE; clear hIE; have hkE := And.intro hxE.cells.2.2 (kept3a hbE' hrE); have hkF := And.intro (box3U_c2 hxE (g' := w.heap.size + 1) (by omega) (.int .i64 0) (.slice none 0 0) (.int .u64 0)) (kept3 (a := (.int .i64 0)) (b := (.slice none 0 0)) (c := (.int .u64 0)) hbE' hrE (Ne.symm hrn)); obtain ⟨d0, d1, d2⟩ := hrE.cells; obtain ⟨f0, f1, f2⟩ := frozen_box3 hrE)
          | fail)
      all_goals
        have hrF := hrE.put (.int .i64 0) (.slice none 0 0) (.int .u64 0)
        obtain ⟨e0, e1, e2⟩ := hrF.cells
        go_wp2
        refine bodyPost_ret (v := .tuple #[.agg #[.int .i64 0, .slice none 0 0, .int .u64 0], .bool false]) (by simp [results, Tryd.results39, go_sem, e0, e1, e2]) rfl ?_
        exact PartyAt.fail (((gE.setCell (by simp) _).setCell (by simp) _).setCell (by simp) _)
