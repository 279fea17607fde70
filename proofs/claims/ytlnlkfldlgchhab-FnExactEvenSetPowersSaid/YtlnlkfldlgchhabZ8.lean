/- Contracts of the model's counts of least winning sets. -/
import Derived.Test.YtlnlkfldlgchhabT4
import Derived.Test.YtlnlkfldlgchhabZ4
import Derived.Test.YtlnlkfldlgchhabN7
import Derived.Outline
namespace Go.Proofs.Ytlnlkfldlgchhab
open Go.RowKit Vo

/-- How often i is in a list. -/
def cntI (l : List Int) (i : Nat) : Nat := l.countP fun z => z == (i : Int)
theorem cntI_more (l : List Int) (t z : Nat) (h : l[t]? = some (z : Int)) (i : Nat) : cntI (l.take (t+1)) i = cntI (l.take t) i + if i = z then 1 else 0 := by
  unfold cntI
  rw [List.take_add_one, h, List.countP_append]
  congr 1
  by_cases e : i = z
  · subst e; simp
  · rw [if_neg e]; simp; omega
theorem cntI_mem {s i : Nat} (hi : i < 9) : cntI (mem s 9) i = if s.testBit i then 1 else 0 := by
  have : ∀ k, cntI (mem s k) i = if i < k ∧ s.testBit i = true then 1 else 0 := by
    intro k
    induction k with
    | zero => simp [cntI, mem]
    | succ k ih =>
      unfold cntI at ih ⊢
      simp only [mem, List.countP_append, ih]
      by_cases e : i = k
      · subst e
        cases s.testBit i <;> simp
      · have h1 : ((if s.testBit k = true then [((k : Nat) : Int)] else []).countP fun z => z == (i : Int)) = 0 := by
          cases s.testBit k
          · rfl
          · simp; omega
        rw [h1]
        by_cases h2 : i < k
        · simp [h2, show i < k + 1 by omega]
        · simp [h2, show ¬ i < k + 1 by omega]
  rw [this 9]
  simp [hi]
theorem cntI_le (l : List Int) (t i : Nat) (h : l.length ≤ 9) : cntI (l.take t) i ≤ 9 := by
  unfold cntI
  have h1 := List.countP_le_length (p := fun z => z == (i : Int)) (l := l.take t)
  have h2 := List.length_take_le t l
  have h3 : (l.take t).length ≤ l.length := by rw [List.length_take]; omega
  omega

set_option maxRecDepth 20000 in
set_option maxHeartbeats 4000000 in
theorem shCounts_any (n lo hi : Nat) (v : Value) (S : List Nat) (w : World) (hn : n < 10) (hSL : S.length ≤ 512) (hS : ∀ s ∈ S, s < 2^n) (hh : hi ≤ w.heap.size) (hr : RSS0 (setsL S) lo hi v w) :
    Calls Try.prog 99 #[.int .i64 n, v] w fun e w' => e = .returned (.slice (some ⟨w.heap.size, 0, none⟩) n n) ∧ Own w' w.heap.size 3 n (fun i => .int .i64 (gainL (fun _ => 1) S i : Nat)) ∧ Below w.heap.size w w' := by
  obtain ⟨A4, cap4, rfl, hr⟩ := hr
  rw [setsL_len] at hr ⊢
  have HR := Lib.hid hr
  clear hr
  have hmk := run_make_row' (P := Try.prog) 22 3 (.int .i64 0) 8 Try.underlying22 infoInt rfl .i64 .i64 n (by omega) (by omega)
  have HBN := Lib.hid (show ∀ j, j < S.length → ∀ z, (S.getD j 0).testBit z = true → z < n from fun j hj z hz => by
    rcases Nat.lt_or_ge z n with h | h
    · exact h
    · have hs : S.getD j 0 < 2^n := hS _ (by rw [List.getD_eq_getElem?_getD, List.getElem?_eq_getElem hj]; exact List.getElem_mem hj)
      rw [Nat.testBit_lt_two_pow (Nat.lt_of_lt_of_le hs (Nat.pow_le_pow_right (by omega) h))] at hz; cases hz)
  have HST := Lib.hid (fun j h i => gainL_succ (fun _ => 1) S i j h)
  have HLE := Lib.hid (show ∀ j i, gainL (fun _ => 1) (S.take j) i ≤ 512 from fun j i => by
    have := gainL_take_le (g := fun _ => 1) (B := 1) (fun _ => Nat.le_refl _) S i j
    omega)
  have HTS := Lib.hid (List.take_length (l := S))
  have b2 := below1 w (.cells (madeCells #[.int .i64 0] n) 3)
  have HU := Lib.hid (show Own (w.alloc (.cells (madeCells #[.int .i64 0] n) 3)) w.heap.size 3 n (fun _ => .int .i64 0) from (Own.of_row (World.rowIs_made w (.int .i64 0) n 3)))
  obtain ⟨m, hmS⟩ : ∃ m, m = S.length := ⟨_, rfl⟩
  have HMS := Lib.hid hmS
  rw [← hmS] at HR HBN hSL HST HTS ⊢
  clear hmS hS
  have HOLD := Lib.hid (show ∀ k, lo ≤ k → k < hi → (w.alloc (.cells (madeCells #[.int .i64 0] n) 3)).heap[k]? = w.heap[k]? from fun k _ h2 => Below.heap_alloc w _ k (by omega))
  go_enter Try.func99, Try.ntmps99
  go_wp2_with fail
  go_loopw [7, 9, 14] (fun _ _ i wr => ∃ j : Nat, j ≤ m ∧ i = .int .i64 j ∧ Own wr w.heap.size 3 n (fun i => .int .i64 (gainL (fun _ => 1) (S.take j) i : Nat)) ∧ (∀ k, lo ≤ k → k < hi → wr.heap[k]? = w.heap[k]?) ∧ Below w.heap.size w wr) (fun _ _ i _ => m - (intOf i).toNat)
  case atStart => exact ⟨0, Nat.zero_le _, rfl, HU.out.congr fun i _ => by simp [gainL], HOLD.out, b2⟩
  case round =>
    obtain ⟨j, hj, rfl, hou, hsm, hbr⟩ := hrel
    have HOU := Lib.hid hou
    have HSM := Lib.hid hsm
    clear hou hsm
    by_cases hlt : j < m
    · obtain ⟨g, f, rfl, hg1, hg2, hof, hri⟩ : ∃ g f, A4 = some ⟨g, 0, none⟩ ∧ lo ≤ g ∧ g < hi ∧ Own w g 22 m f ∧ ∀ i, i < m → RI ((setsL S).getD i []) lo hi (f i) w := by
        rcases HR.out with h | h
        · omega
        · exact h
      have hcell : wr.cell? ⟨g, j, none⟩ = some (f j) := (hof.of_block (HSM.out g hg1 hg2)).cell hlt
      have hrj := hri j hlt
      have hsj : (setsL S).getD j [] = mem (S.getD j 0) 9 := by
        rw [List.getD_eq_getElem?_getD, List.getD_eq_getElem?_getD, setsL, List.getElem?_map, List.getElem?_eq_getElem (by have := HMS.out; omega)]; rfl
      rw [hsj] at hrj
      have HBJ := Lib.hid (HBN.out j hlt)
      have HS1 := Lib.hid (HST.out j hlt)
      have HL1 := Lib.hid (HLE.out j)
      obtain ⟨s, hs⟩ : ∃ s, S.getD j 0 = s := ⟨_, rfl⟩
      rw [hs] at hrj HBJ HS1
      clear hs hsj hri hof
      obtain ⟨xa, xc, hfj, hxa⟩ := hrj
      rw [hfj] at hcell
      clear hfj
      obtain ⟨l, hl⟩ : ∃ l, l = (mem s 9).length := ⟨_, rfl⟩
      have hl9 : l ≤ 9 := by have := mem_len s 9; omega
      have HXA := Lib.hid hxa
      have HAT := Lib.hid (show ∀ t, t < l → ∃ z : Nat, (mem s 9)[t]? = some (z : Int) ∧ z < n from fun t ht => by
        obtain ⟨z, h1, _, h3⟩ := mem_at (s := s) (t := t) (by omega)
        exact ⟨z, h1, HBJ.out z h3⟩)
      have HTK := Lib.hid (show (mem s 9).take l = mem s 9 from by rw [hl, List.take_length])
      have HCL := Lib.hid (fun t i => cntI_le (mem s 9) t i (mem_len s 9))
      obtain ⟨F, hF⟩ : ∃ F : Nat → Nat, F = fun i => gainL (fun _ => 1) (S.take j) i := ⟨_, rfl⟩
      have HOUF := Lib.hid (show Own wr w.heap.size 3 n (fun i => .int .i64 (F i : Nat)) from by rw [hF]; exact HOU.out)
      have HFL := Lib.hid (show ∀ i, F i ≤ 512 from fun i => by rw [hF]; exact HL1.out i)
      have HFS := Lib.hid (show ∀ i, gainL (fun _ => 1) (S.take (j+1)) i = F i + if s.testBit i then 1 else 0 from fun i => by rw [hF]; exact HS1.out i)
      rw [← hl] at HXA hcell
      clear hl hxa HOU HL1 HS1 hF
      go_wp2_with fail
      go_loopw [9, 20] (fun _ i wr => ∃ t : Nat, t ≤ l ∧ i = .int .i64 t ∧ Own wr w.heap.size 3 n (fun i => .int .i64 (F i + cntI ((mem s 9).take t) i : Nat)) ∧ (∀ k, lo ≤ k → k < hi → wr.heap[k]? = w.heap[k]?) ∧ Below w.heap.size w wr) (fun _ i _ => l - (intOf i).toNat)
      case atStart => exact ⟨0, Nat.zero_le _, rfl, HOUF.out.congr fun i _ => by simp [cntI], HSM.out, hbr⟩
      case round =>
        obtain ⟨t, ht, rfl, hou2, hsm2, hbr2⟩ := hrel
        have HO2 := Lib.hid hou2
        have HSM2 := Lib.hid hsm2
        clear hou2 hsm2
        by_cases htl : t < l
        · obtain ⟨z, hz, hzn⟩ := HAT.out t htl
          obtain ⟨g5, rfl, hg51, hg52, hi5⟩ : ∃ g, xa = some ⟨g, 0, none⟩ ∧ lo ≤ g ∧ g < hi ∧ Ints w g l (mem s 9) := by
            rcases HXA.out with h | h
            · omega
            · exact h
          have hcell5 : wr.cell? ⟨g5, t, none⟩ = some (.int .i64 z) := by
            have h1 := (Own.of_block hi5 (HSM2.out g5 hg51 hg52)).cell htl
            rw [h1, List.getD_eq_getElem?_getD, hz]; rfl
          have hold := HO2.out.cell hzn
          have hfr := HO2.out.frozen z
          have hgu := HO2.out.lt
          have hfz := HFL.out z
          have hcz := HCL.out t z
          have HAM := Lib.hid (cntI_more (mem s 9) t z hz)
          obtain ⟨X, hX⟩ : ∃ X : Nat, X = F z + cntI ((mem s 9).take t) z := ⟨_, rfl⟩
          have hXl : X ≤ 600 := by omega
          rw [← hX] at hold
          have HXE := Lib.hid hX
          have HSET := Lib.hid (HO2.out.set z (.int .i64 ((X : Int) + 1)))
          have b7 := hbr2.setCell (p := ⟨w.heap.size, z, none⟩) (Nat.le_refl _) (.int .i64 ((X : Int) + 1))
          clear hi5 hz hcell hX hfz hcz
          go_wp2_with fail
          go_roundw
          case rel =>
            refine ⟨t + 1, by omega, by go_num, HSET.out.congr fun i hi => ?_, fun k k1 k2 => (Below.heap_setCell _ _ _ k (by show k ≠ w.heap.size; omega)).trans (HSM2.out k k1 k2), b7⟩
            rw [HAM.out i]
            by_cases e : i = z
            · rw [if_pos e, if_pos e, e, HXE.out]; simp; omega
            · rw [if_neg e, if_neg e]; simp
          case measure => simp [intOf]; omega
        · obtain rfl : l = t := by omega
          go_wp2_with fail
          go_roundw
          case rel =>
            refine ⟨j + 1, by omega, by go_num, HO2.out.congr fun i hi => ?_, HSM2.out, hbr2⟩
            rw [HTK.out, cntI_mem (by omega), HFS.out i]
          case measure => simp [intOf]; omega
    · obtain rfl : m = j := by omega
      have hgl := HOU.out.lt
      go_wp2
      go_ret
      exact ⟨rfl, by have h := HOU.out; rw [HTS.out] at h; exact h, hbr⟩

set_option maxRecDepth 20000 in
set_option maxHeartbeats 4000000 in
theorem sLeastSetCounts_ans (q : Int) (A : Option Addr) (n cap : Nat) (ws : List Int) (w : World) (hm : n ≤ 9223372036854775807) (hk : Known w A n ws) :
    Calls Try.prog 51 #[.agg #[.int .i64 q, .slice A n cap]] w fun e w' => Ans (RS (leastSetCountsL q ws n)) (goodB q ws n) w w' e := by
  have HK := Lib.hid hk
  clear hk
  have hx := Box.new w (.int .i64 q) (.slice A n cap)
  have hb0 := below1 w (.cells #[.int .i64 q, .slice A n cap] 29)
  by_cases hg : Vo.Good q ws n
  · obtain ⟨b, off, rfl, hsl⟩ := HK.out.get hg.lo
    have HSL := Lib.hid hsl
    have HOK := Lib.hid hg.ok
    have HGB := Lib.hid (goodB_true hg)
    have hn9 := hg.hi
    have hn10 : n < 10 := by omega
    have HV := Lib.hid (show leastSetCountsL q ws n = perL (gainL (fun _ => 1) (lwL q ws n)) n from okL_yes HGB.out)
    have HL := Lib.hid (lwL_len (q := q) (ws := ws) hn9)
    have HIN := Lib.hid (show ∀ s ∈ lwL q ws n, s < 2^n from fun s h => (lwL_mem h).1)
    have HLW := Lib.hid (show (inOrder n).filter (leastP (winB q ws n) n) = lwL q ws n from rfl)
    clear hg hsl
    go_enter Try.func51, Try.ntmps51
    go_wp2_with fail
    refine (voGood_any q _ n cap ws _ hm (HK.out.now hb0)).mono ?_
    rintro e w1 ⟨rfl, hb⟩
    rw [HGB.out]
    have g1 := bfrom hb0 hb
    have hs1 := Lib.hid (HSL.out.now g1)
    have hx1 := hx.now hb
    obtain ⟨hc0, hc1⟩ := hx1.cells
    go_wp2_with fail
    go_region_held3 (fun w' => w'.cell? ⟨w.heap.size, 0, none⟩ = some (.int .i64 q) ∧ w'.cell? ⟨w.heap.size, 1, none⟩ = some (.slice (some ⟨b, off, none⟩) n cap))
      (first | exact hd | exact hd2 | exact hd3 | exact hx1.cells | go_keep)
      (first
        | (go_at_call 59; refine (voWins_any q b off n cap ws _ hn10 HOK.out hs1.out.drew).mono ?_; rintro e w2 ⟨g, cap2, rfl, hg, hown, hb2⟩; have HO := Lib.hid hown; clear hown; have hd := (hx1.drew.now hb2).cells)
        | (go_at_call 58; refine (voLeast_any (winB q ws n) n g cap2 _ hn10 HO.out).mono ?_; rintro e w3 ⟨v3, rfl, hr3, hb3⟩; rw [HLW.out] at hr3; have HR3 := Lib.hid hr3; clear hr3; have hd2 := ((hx1.drew.now hb2).now hb3).cells)
        | (go_at_call 99; refine (shCounts_any n _ _ v3 (lwL q ws n) _ hn10 HL.out HIN.out (Nat.le_refl _) HR3.out).mono ?_; rintro e w4 ⟨rfl, ho4, hb4⟩; have HO4 := Lib.hid ho4; clear ho4; have hd3 := (((hx1.drew.now hb2).now hb3).now hb4).cells))
    all_goals
      have g2 := bfrom (bfrom (bfrom g1.drew hb2) hb3) hb4
      have hz3 := (bfrom (bfrom g1.drew hb2) hb3).size
      have hgl := HO4.out.lt
      go_wp2
      go_ret2
      rw [HGB.out, HV.out]
      have hl := perL_len (gainL (fun _ => 1) (lwL q ws n)) n
      refine ⟨_, rfl, RS.lies ⟨_, n, by rw [hl]; rfl, Or.inr ⟨w3.heap.size, rfl, by omega, hgl, ?_⟩⟩ (Nat.le_refl _), g2⟩
      rw [hl]
      exact HO4.out.congr fun i hi => by rw [perL_get hi]
  · have HGB := Lib.hid (goodB_false hg)
    clear hg
    go_enter Try.func51, Try.ntmps51
    go_wp2_with fail
    refine (voGood_any q A n cap ws _ hm (HK.out.now hb0)).mono ?_
    rintro e w1 ⟨rfl, hb⟩
    rw [HGB.out]
    go_wp2
    go_ret2
    rw [show leastSetCountsL q ws n = [] from okL_no HGB.out, HGB.out]
    exact (PairAt.none_ (bfrom hb0 hb)).ans
end Go.Proofs.Ytlnlkfldlgchhab
