/- Contract of the program's merged. For the seats of tied cards. -/
import Derived.Test.YtkckefjpkhjeaabDoorRg
import Derived.Test.YtkckefjpkhjeaabDoorPv
import Derived.Test.YtkckefjpkhjeaabDoorD1
import Derived.Test.YtkckefjpkhjeaabDoorG2
import Derived.Test.YtkckefjpkhjeaabDoorR3
import Derived.Deep.RegionLawGrows
import Derived.Maps.AppendAt
import Derived.Outline
import Derived.ScopeJumps
import Derived.WalkMore
import Derived.Scope
namespace Go.Proofs.YtkckefjpkhjeaabDoor
open Go.RowKit Vo

theorem FromI.next {s i left : Nat} (h : FromI s i left) (h0 : 0 < left) (hl : left < 512) : FromI s (firstN left + 1) (out left (firstN left)) := by
  intro j
  have h9 := (first_in h0 hl).1
  obtain ⟨hi, hb⟩ := h.hit h0 hl
  have hgap : ∀ j, i ≤ j → j < firstN left → s.testBit j = false := fun j h1 h2 => h.gap h0 hl h1 h2
  have hj := h j
  generalize firstN left = t at *
  by_cases h64 : j < 64
  · rw [testBit_out (by omega) h64, hj]
    rcases Nat.lt_trichotomy j t with h1 | h1 | h1
    · rw [show decide (t + 1 ≤ j) = false from decide_eq_false (by omega)]
      by_cases h2 : i ≤ j
      · rw [hgap j h2 h1]; simp
      · rw [decide_eq_false h2]; simp
    · subst h1
      rw [show decide (j + 1 ≤ j) = false from decide_eq_false (by omega)]
      simp
    · rw [decide_eq_true (show i ≤ j by omega), decide_eq_true (show t + 1 ≤ j by omega), decide_eq_true (show j ≠ t by omega)]
      simp
  · have h2 : left < 2^j := Nat.lt_of_lt_of_le hl (show 2^9 ≤ 2^j from Nat.pow_le_pow_right (by omega) (by omega))
    have h3 : out left t < 2^j := Nat.lt_of_le_of_lt (out_le _ _) h2
    rw [Nat.testBit_lt_two_pow h2, decide_eq_true (show i ≤ j by omega), Bool.true_and] at hj
    rw [Nat.testBit_lt_two_pow h3, ← hj, Bool.and_false]
theorem wp_scope_again {P : Program} {a : Act} {w : World} {Q : Exit → Act → World → Prop} {c code : Code} (l : Nat) (J : Act → World → Prop) (μ : Act → World → Nat) (hf : findLabel c l = some (.seq .skip code))
    (pass : ∀ a w, J a w → code.wp P (Exit.jump l (fun a' w' => J a' w' ∧ μ a' w' < μ a w) Q) a w)
    (first : (∀ a w, J a w → code.wp P (Exit.jump l J Q) a w) → c.wp P (Exit.jump l J Q) a w) : (Code.scope c).wp P Q a w :=
  wp_scope_jumps l J μ hf (first fun a w h b k cs => by
    obtain ⟨e, a', w', hq, har⟩ := pass a w h b k cs
    refine ⟨e, a', w', ?_, har⟩
    cases e with
    | goto l' => exact ⟨hq.1, hq.2.1⟩
    | _ => exact hq) fun a w h => wp_seq (wp_skip (pass a w h))

set_option maxRecDepth 20000 in
set_option maxHeartbeats 4000000 in
theorem merged_any (b off n cap s : Nat) (ws : List Int) (w : World) (h1 : 1 ≤ n) (h9 : n ≤ 9) (hcap : n ≤ cap) (hs0 : 0 < s) (hs : s < 2^n) (hok : InK 0 1000 ws n) (hsl : Sl w b off n ws) (hT : Tab w) :
    Calls Tryd.prog 70 #[.slice (some ⟨b, off, none⟩) n cap, .int .u64 s] w fun e w' => IntsAt (mrgL ws s (firstN s) (wtK ws s n) n) w w' e := by
  obtain ⟨i0, hi0, hz0, hz1, hz2⟩ := infoIntParts
  have h512 : s < 512 := Nat.lt_of_lt_of_le hs (Nat.pow_le_pow_right (n := 2) (by omega) h9)
  have HF := Lib.hid (first_in hs0 h512)
  have hfn : firstN s < n := by
    apply Nat.lt_of_not_le
    intro h
    have h2 := HF.out.2.1
    rw [Nat.testBit_lt_two_pow (Nat.lt_of_lt_of_le hs (Nat.pow_le_pow_right (n := 2) (by omega) h))] at h2
    cases h2
  have HSL := Lib.hid hsl
  have HOK := Lib.hid hok
  have HT := Lib.hid hT
  have HFC := Lib.hid (first_any s h512 hs0 w hT)
  obtain ⟨f, hf⟩ : ∃ f, f = firstN s := ⟨_, rfl⟩
  rw [← hf] at hfn HF HFC ⊢
  obtain ⟨X, hX⟩ : ∃ X, X = wtK ws s n := ⟨_, rfl⟩
  have HOF := Lib.hid (show ∀ W, Sl W b off n ws → Calls Tryd.prog 88 #[.slice (some ⟨b, off, none⟩) n cap, .int .u64 s] W fun e w' => e = .returned (.int .i64 X) ∧ W = w' from fun W h => by rw [hX]; exact ofB_any b off n cap ws s W (by omega) h512 (InK.up hok (by omega)) h)
  rw [← hX]
  have HFF := Lib.hid hf
  have HCU := Lib.hid (fun W (h : Sl W b off n ws) => cut_cells h (show 0 + f ≤ n by omega))
  have HFR := Lib.hid (show FromI s (f + 1) (out s f) from by rw [hf]; exact FromI.next (show FromI s 0 s from fun j => by simp) hs0 h512)
  have HML := Lib.hid (show mrgL ws s f X (f + 1) = ((List.range f).map fun i => ws.getD i 0) ++ [X] from by rw [mrgL_at, hf, mrgL_head hs0 h512 (Nat.le_refl _)])
  clear hsl hok hT hf hX
  go_enter Tryd.func70, Tryd.ntmps70
  go_wp2
  refine wp_scope_again 0 (fun a' w' => ∃ (i left : Nat) (A : Option Addr) (ln cp : Nat) (ii : Int) (u9 u10 u11 u12 u13 u14 u15 u16 u17 u18 u19 u20 u21 u22 u23 u24 u25 u26 u27 u28 u29 u30 u31 u32 u33 u34 u35 u36 u37 u38 u39 u40 u41 u42 u43 u44 u45 : Value), a' = { tmps := #[.slice (some ⟨b, off, none⟩) n cap, .int .u64 s, undef, undef, .slice none 0 0, .int .i64 f, .slice A ln cp, .int .i64 ii, .int .u64 left, u9, u10, u11, u12, u13, u14, u15, u16, u17, u18, u19, u20, u21, u22, u23, u24, u25, u26, u27, u28, u29, u30, u31, u32, u33, u34, u35, u36, u37, u38, u39, u40, u41, u42, u43, u44, u45], defers := [] } ∧ ii = i ∧ ln = (mrgL ws s f X i).length ∧ f < i ∧ i ≤ n ∧ left < 2^n ∧ FromI s i left ∧ w'.ownsRow w.heap.size 3 1 (.slice A ln cp) ln ((mrgL ws s f X i).map (Value.int .i64)) ∧ Below w.heap.size w w') (fun a' _ => n - (intOf (a'.tmps.getD 7 undef)).toNat) rfl ?_ ?_
  · rintro a' w' ⟨i, left, A, ln, cp, ii, u9, u10, u11, u12, u13, u14, u15, u16, u17, u18, u19, u20, u21, u22, u23, u24, u25, u26, u27, u28, u29, u30, u31, u32, u33, u34, u35, u36, u37, u38, u39, u40, u41, u42, u43, u44, u45, rfl, rfl, hln, hfi, hin, hl, hfrom, hown, hb⟩
    have HO := Lib.hid hown
    have HLN := Lib.hid hln
    have HFI := Lib.hid hfrom
    have hlen : ln ≤ 9 := by have := mrgL_le ws s f X i; omega
    have hl5 : left < 512 := Nat.lt_of_lt_of_le hl (Nat.pow_le_pow_right (n := 2) (by omega) h9)
    clear hown hln hfrom
    have hii : (0 : Int) ≤ i := by omega
    have hini : (i : Int) ≤ n := by omega
    by_cases h0 : left = 0
    · subst h0
      have HMN := Lib.hid (show mrgL ws s f X n = mrgL ws s f X i ++ (List.range (n - i)).map fun j => ws.getD (i + j) 0 from by
        have h := mrgL_more ws s f X i (n - i) fun j h1 h2 => ⟨by omega, HFI.out.none h1⟩
        rw [show i + (n - i) = n by omega] at h
        exact h)
      by_cases hci : cap = i
      · obtain rfl : i = n := by omega
        subst hci
        go_wp2_with (at_builtin; refine wpList_append_own_at _ rfl _ _ _ rfl w.heap.size 3 i0 _ 1 8 Tryd.underlying84 hi0 hz0 hz1 hz2 rfl (by decide) (.slice A ln cp) ln _ rfl HO.out ⟨b, off, none⟩ 0 0 [] rfl rfl (by intro j u hu; cases hu) (by intro u hu; cases hu) (by unfold maxLen; omega) (by omega) hb.size ?_; intro v1 w4 hown4 hgrow4 hnil4 hat4; obtain ⟨B, cpB, rfl⟩ := owns_slice hown4)
        simp only [Exit.jump]
        go_ret
        exact ⟨B, cpB, by rw [← HLN.out]; rfl, by rw [← HLN.out]; simpa using hown4, hb.grown hgrow4 hb.size fun i hi => owns_le HO.out hi⟩
      · go_wp2_with (at_builtin; refine wpList_append_own_at _ rfl _ _ _ rfl w.heap.size 3 i0 _ 1 8 Tryd.underlying84 hi0 hz0 hz1 hz2 rfl (by decide) (.slice A ln cp) ln ((mrgL ws s f X i).map (Value.int .i64)) rfl HO.out ⟨b, off + i, none⟩ (n - i) (cap - i) (cut ws i (n - i)) rfl (by rw [cut_len]; omega) (cut_cells (HSL.out.now hb) (by omega) (off + i) rfl) (cut_one _ _ _) (by unfold maxLen; omega) (by omega) hb.size ?_; intro v1 w4 hown4 hgrow4 hnil4 hat4; obtain ⟨B, cpB, rfl⟩ := owns_slice hown4)
        simp only [Exit.jump]
        go_ret
        refine ⟨B, cpB, ?_, ?_, hb.grown hgrow4 hb.size fun i hi => owns_le HO.out hi⟩
        · rw [HMN.out, HLN.out]
          simp
        · have e : (mrgL ws s f X n).map (Value.int .i64) = (mrgL ws s f X i).map (Value.int .i64) ++ cut ws i (n - i) := by
            rw [HMN.out, List.map_append, List.map_map, cut]
            congr 1
          have e2 : (mrgL ws s f X n).length = ln + (n - i) := by rw [HMN.out, HLN.out]; simp
          rw [e, e2]
          exact hown4
    · have hpos : 0 < left := Nat.pos_of_ne_zero h0
      obtain ⟨hit, hst⟩ := HFI.out.hit hpos hl5
      have ht9 := (first_in hpos hl5).1
      have htn : firstN left < n := by
        apply Nat.lt_of_not_le
        intro h
        have h2 := (first_in hpos hl5).2.1
        rw [Nat.testBit_lt_two_pow (Nat.lt_of_lt_of_le hl (Nat.pow_le_pow_right (n := 2) (by omega) h))] at h2
        cases h2
      have HGAP := Lib.hid (fun j h1 h2 => HFI.out.gap hpos hl5 (j := j) h1 h2)
      have HNX := Lib.hid (FromI.next HFI.out hpos hl5)
      have HFC2 := Lib.hid (first_any left hl5 hpos w' (HT.out.now hb))
      obtain ⟨t, ht⟩ : ∃ t, t = firstN left := ⟨_, rfl⟩
      rw [← ht] at hit hst ht9 htn HGAP HNX HFC2
      clear ht
      have HMT := Lib.hid (show mrgL ws s f X (t + 1) = mrgL ws s f X i ++ (List.range (t - i)).map fun j => ws.getD (i + j) 0 from by
        rw [mrgL_skip (by omega) hst]
        have h := mrgL_more ws s f X i (t - i) fun j h1 h2 => ⟨by omega, HGAP.out j h1 (by omega)⟩
        rw [show i + (t - i) = t by omega] at h
        exact h)
      have hti : (i : Int) ≤ t := by omega
      have htc : (t : Int) ≤ cap := by omega
      have hlb : ((left : Int) == 0) = false := by simp; omega
      go_wp2_with fail
      refine HFC2.out.mono ?_
      rintro e w2 ⟨rfl, rfl⟩
      go_wp2_with (first
        | (at_builtin; refine wpList_append_own_at _ rfl _ _ _ rfl w.heap.size 3 i0 _ 1 8 Tryd.underlying84 hi0 hz0 hz1 hz2 rfl (by decide) (.slice A ln cp) ln ((mrgL ws s f X i).map (Value.int .i64)) rfl HO.out ⟨b, off + i, none⟩ (t - i) (cap - i) (cut ws i (t - i)) rfl (by rw [cut_len]; omega) (cut_cells (HSL.out.now hb) (by omega) (off + i) rfl) (cut_one _ _ _) (by unfold maxLen; omega) (by omega) hb.size ?_; intro v1 w4 hown4 hgrow4 hnil4 hat4; obtain ⟨B, cpB, rfl⟩ := owns_slice hown4)
        | (go_at_call 91; refine (without_any left t _ (by omega) hl5).mono ?_; rintro e w5 ⟨rfl, rfl⟩)
        | fail)
      go_step3
      refine ⟨rfl, ⟨t + 1, out left t, B, ln + (t - i), cpB, (t : Int) + 1, _, _, _, _, _, _, _, _, _, _, _, _, _, _, _, _, _, _, _, _, _, _, _, _, _, _, _, _, _, _, _, _, _, _, _, _, _, rfl, by omega, ?_, by omega, by omega, Nat.lt_of_le_of_lt (out_le _ _) hl, HNX.out, ?_, hb.grown hgrow4 hb.size fun i hi => owns_le HO.out hi⟩, ?_⟩
      · rw [HMT.out, HLN.out]
        simp
      · have e : (mrgL ws s f X (t + 1)).map (Value.int .i64) = (mrgL ws s f X i).map (Value.int .i64) ++ cut ws i (t - i) := by
          rw [HMT.out, List.map_append, List.map_map, cut]
          congr 1
        rw [e]
        exact hown4
      · simp [intOf]
        omega
  · intro again
    go_wp2_with fail
    refine HFC.out.mono ?_
    rintro e w1 ⟨rfl, rfl⟩
    go_wp2_with fail
    have hfc : (f : Int) ≤ cap := by omega
    have hf0 : (0 : Int) ≤ f := by omega
    have hff : (f : Int) ≤ f := Int.le_refl _
    go_region_law (first
      | (refine step_append_grows (by rfl) _ _ _ (by rfl) 3 i0 (.int .i64 0) 1 8 Tryd.underlying84 hi0 hz0 hz1 hz2 rfl (by omega) (some ⟨b, off, none⟩) f f (cut ws 0 f) (by rfl) (by intro h; cases h) (by rw [cut_len]; omega) (by intro b' hb' j u hu; cases hb'; exact HCU.out _ (HSL.out.drew.alloc _) _ (by omega) j u hu) ⟨w.heap.size, 0, none⟩ 1 1 [.int .i64 X] (by rfl) (by rfl) (World.news_of_block (cs := #[.int .i64 X]) (t := 3) (fr := (0, 0)) (heap_alloc_new _ _)) (by simp [Value.oneCell']) (by omega) (by unfold maxLen; omega) (by omega) ?_; intro v6 w6 hown6 hgrow6)
      | (go_simp; go_at_call 88; refine (HOF.out _ HSL.out.drew).mono ?_; rintro e w4 ⟨rfl, rfl⟩)
      | fail)
    all_goals
      simp only [Act.put, List.setIfInBounds_toArray, List.set_cons_zero, List.set_cons_succ, List.getElem_toArray, List.getElem_cons_zero, List.getElem_cons_succ]
      obtain ⟨gB, cpB, rfl, hgB⟩ : ∃ g c, v6 = .slice (some ⟨g, 0, none⟩) (f + 1) c ∧ w.heap.size ≤ g := by
        obtain ⟨g, c, hv, hg, _⟩ := hown6.form (by omega)
        exact ⟨g, c, hv, Nat.le_trans (by simp) hg⟩
      go_wp2_with fail
      refine (without_any s f _ (by omega) h512).mono ?_
      rintro e w7 ⟨rfl, rfl⟩
      go_wp2_with fail
      go_step3
      rename_i K hK
      refine hK _ _ (again _ _ ⟨f + 1, out s f, some ⟨gB, 0, none⟩, f + 1, cpB, (f : Int) + 1, _, _, _, _, _, _, _, _, _, _, _, _, _, _, _, _, _, _, _, _, _, _, _, _, _, _, _, _, _, _, _, _, _, _, _, _, _, rfl, by omega, ?_, Nat.lt_succ_self _, hfn, ?_, HFR.out, ?_, ?_⟩)
      · rw [HML.out]
        simp
      · exact Nat.lt_of_le_of_lt (out_le _ _) hs
      · rw [HML.out]
        have h := owns_less hown6 (show w.heap.size ≤ _ by simp)
        have e : cut ws 0 f ++ [Value.int .i64 X] = (((List.range f).map fun i => ws.getD i 0) ++ [X]).map (Value.int .i64) := by
          rw [List.map_append, List.map_map, cut]
          congr 1
          apply List.map_congr_left
          intro j _
          rw [Nat.zero_add]
          rfl
        rw [← e]
        exact h
      · exact ((below1 w _).drew).grown hgrow6 (by simp) fun i hi => by cases hi
end Go.Proofs.YtkckefjpkhjeaabDoor
