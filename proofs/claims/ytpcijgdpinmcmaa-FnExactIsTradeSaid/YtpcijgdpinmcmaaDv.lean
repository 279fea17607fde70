/- How many of some sets each member is in, the program's tallyOf. -/
import Derived.Test.YtpcijgdpinmcmaaE4
import Derived.Test.YtpcijgdpinmcmaaI3
import Derived.Test.YtpcijgdpinmcmaaT4
import Derived.Test.YtpcijgdpinmcmaaDt
import Derived.Outline
namespace Go.Proofs.Ytpcijgdpinmcmaa
open Go.RowKit Vo

/-- In how many of the first i sets is k? -/
def tlN (S : List Nat) : Nat → Nat → Nat
  | 0, _ => 0
  | i+1, k => tlN S i k + if (S.getD i 0).testBit k then 1 else 0
theorem tlN_le (S : List Nat) (k : Nat) : ∀ i, tlN S i k ≤ i
  | 0 => Nat.le_refl _
  | i+1 => by have := tlN_le S k i; unfold tlN; split <;> omega
def tlV (S : List Nat) : Value := .agg #[.int .i64 (tlN S S.length 0 : Nat), .int .i64 (tlN S S.length 1 : Nat), .int .i64 (tlN S S.length 2 : Nat), .int .i64 (tlN S S.length 3 : Nat), .int .i64 (tlN S S.length 4 : Nat), .int .i64 (tlN S S.length 5 : Nat), .int .i64 (tlN S S.length 6 : Nat), .int .i64 (tlN S S.length 7 : Nat), .int .i64 (tlN S S.length 8 : Nat)]
theorem mem_count (s k : Nat) : ∀ n, (mem s n).count (k : Int) = if k < n ∧ s.testBit k = true then 1 else 0
  | 0 => by simp [mem]
  | n+1 => by
    rw [mem_step, List.count_append, mem_count s k n]
    by_cases e : k = n
    · subst e
      cases h : s.testBit k <;> simp
    · have e2 : ¬ (n : Int) = (k : Int) := by omega
      have e3 : (k < n + 1 ∧ s.testBit k = true) ↔ (k < n ∧ s.testBit k = true) := by
        constructor
        · rintro ⟨a, b⟩; exact ⟨by omega, b⟩
        · rintro ⟨a, b⟩; exact ⟨by omega, b⟩
      simp only [e3]
      cases h : s.testBit n <;> simp [e2]
/-- The tally amid a set. -/
def tlD (S : List Nat) (i j k : Nat) : Nat := tlN S i k + ((mem (S.getD i 0) 9).take j).count (k : Int)
theorem tlD_zero (S : List Nat) (i k : Nat) : tlD S i 0 k = tlN S i k := by unfold tlD; simp
theorem tlD_end (S : List Nat) (i k : Nat) (hk : k < 9) : tlD S i (mem (S.getD i 0) 9).length k = tlN S (i+1) k := by
  unfold tlD
  rw [List.take_length, mem_count]
  show _ = tlN S i k + _
  simp [hk]
theorem tlD_le (S : List Nat) (i j k : Nat) : tlD S i j k ≤ i + 1 := by
  unfold tlD
  have h1 := tlN_le S k i
  have h2 : ((mem (S.getD i 0) 9).take j).count (k : Int) ≤ (mem (S.getD i 0) 9).count (k : Int) := (List.take_sublist j _).count_le _
  rw [mem_count] at h2
  split at h2 <;> omega
theorem tlD_step (S : List Nat) (i j k y : Nat) (hy : (mem (S.getD i 0) 9)[j]? = some (y : Int)) : tlD S i (j+1) k = tlD S i j k + if k = y then 1 else 0 := by
  unfold tlD
  rw [List.take_add_one, hy, List.count_append, Nat.add_assoc]
  congr 2
  by_cases e : k = y
  · subst e; simp
  · have e2 : ¬ (y : Int) = (k : Int) := by omega
    simp [e, e2]

set_option maxRecDepth 20000 in
set_option maxHeartbeats 4000000 in
theorem tally_any (S : List Nat) (base n cap : Nat) (A : Option Addr) (w : World) (hk : n = S.length) (hs : n ≤ 1048576) (hS : ∀ t ∈ S, t < 512) (h1 : w.ownsRow base 94 1 (.slice A n cap) n (setsV S)) :
    Calls Try.prog 82 #[.slice A n cap] w fun e w' => e = .returned (tlV S) ∧ Below w.heap.size w w' := by
  obtain ⟨z9, hz9⟩ : ∃ z, z = Obj.cells #[.int .i64 0, .int .i64 0, .int .i64 0, .int .i64 0, .int .i64 0, .int .i64 0, .int .i64 0, .int .i64 0, .int .i64 0] 112 := ⟨_, rfl⟩
  have hzown : ∀ W : World, Own (W.alloc z9) W.heap.size 112 9 (fun _ => .int .i64 0) := fun W => ⟨_, by rw [hz9]; exact heap_alloc_new W _, by simp, fun i hi => by
    rcases i with _ | _ | _ | _ | _ | _ | _ | _ | _ | i
    all_goals first | rfl | omega⟩
  have HR0 := Lib.hid ((hzown w).alloc z9)
  have HX0 := Lib.hid (hzown (w.alloc z9))
  have h0 : Below w.heap.size w ((w.alloc z9).alloc z9) := (below1 w z9).alloc (by simp) z9
  have HC1 := Lib.hid (fun W (hb : Below w.heap.size w W) => setCells hk hS (owns_now h1 hb))
  rw [hz9] at HR0 HX0 h0
  simp only [World.size_alloc] at HX0
  have HT0 := Lib.hid (fun i k => tlD_zero S i k)
  have HTE := Lib.hid (fun i k hk => tlD_end S i k hk)
  have HTL := Lib.hid (fun i j k => tlD_le S i j k)
  have HTS := Lib.hid (fun i j k y hy => tlD_step S i j k y hy)
  have HLV := Lib.hid (show tlV S = .agg #[.int .i64 (tlN S n 0 : Nat), .int .i64 (tlN S n 1 : Nat), .int .i64 (tlN S n 2 : Nat), .int .i64 (tlN S n 3 : Nat), .int .i64 (tlN S n 4 : Nat), .int .i64 (tlN S n 5 : Nat), .int .i64 (tlN S n 6 : Nat), .int .i64 (tlN S n 7 : Nat), .int .i64 (tlN S n 8 : Nat)] from by unfold tlV; rw [hk])
  clear hzown hz9 h1 hk hS
  go_enter Try.func82, Try.ntmps82
  go_wp2_with fail
  go_loopw [5, 7, 10] (fun _ _ x wr => ∃ i : Nat, i ≤ n ∧ x = .int .i64 i ∧ Own wr (w.heap.size + 1) 112 9 (fun k => .int .i64 (tlN S i k : Nat)) ∧ Own wr w.heap.size 112 9 (fun _ => .int .i64 0) ∧ Below w.heap.size w wr) (fun _ _ x _ => n - (intOf x).toNat)
  case atStart => exact ⟨0, Nat.zero_le _, rfl, HX0.out.congr fun k _ => rfl, HR0.out, h0⟩
  case round =>
    obtain ⟨i, hi, rfl, hown, hres, hbr⟩ := hrel
    have HO := Lib.hid hown
    have HR := Lib.hid hres
    clear hown hres
    by_cases hlt : i < n
    · obtain ⟨g0, rfl, hcell, ht5⟩ := HC1.out wr hbr i hlt
      have HTS := Lib.hid (fun j k y hy => HTS.out i j k y hy)
      have HTEi := Lib.hid (fun k hk => HTE.out i k hk)
      have HML := Lib.hid (fun j (h : j < (mem (S.getD i 0) 9).length) => mem_at h)
      have hm9 := mem_len (S.getD i 0) 9
      have HLA := Lib.hid (list_any (S.getD i 0) wr ht5)
      obtain ⟨s, hs'⟩ : ∃ s, s = S.getD i 0 := ⟨_, rfl⟩
      rw [← hs'] at hcell HLA hm9 ht5
      simp only [← hs'] at HTS HTEi HML
      clear hs'
      obtain ⟨M, hM⟩ : ∃ M, M = mem s 9 := ⟨_, rfl⟩
      rw [← hM] at HLA hm9
      simp only [← hM] at HTS HTEi HML
      clear hM
      obtain ⟨m, hm⟩ : ∃ m, m = M.length := ⟨_, rfl⟩
      have HM := Lib.hid hm
      rw [← hm] at hm9
      simp only [← hm] at HTEi HML
      clear hm
      obtain ⟨wo, hwo⟩ : ∃ z, z = wr := ⟨_, rfl⟩
      subst hwo
      go_wp2_with fail
      refine HLA.out.mono ?_
      rintro e w1 ⟨B, cpb, rfl, hown1, hb1⟩
      rw [← HM.out] at hown1 ⊢
      have HO1 := Lib.hid hown1
      have HX1 := Lib.hid ((Own.below HO.out hb1 HO.out.lt).congr (f' := fun k => .int .i64 (tlD S i 0 k : Nat)) fun k _ => by rw [HT0.out])
      have HR1 := Lib.hid (Own.below HR.out hb1 HR.out.lt)
      have hxlt := HO.out.lt
      have hz1 := hb1.size
      have g1 := bfrom hbr hb1
      clear hown1
      go_wp2_with fail
      go_loopw [7, 17] (fun _ x wi => ∃ j : Nat, j ≤ m ∧ x = .int .i64 j ∧ Own wi (w.heap.size + 1) 112 9 (fun k => .int .i64 (tlD S i j k : Nat)) ∧ (∀ b, b < w1.heap.size → b ≠ w.heap.size + 1 → wi.heap[b]? = w1.heap[b]?) ∧ Below w.heap.size w wi) (fun _ x _ => m - (intOf x).toNat)
      case atStart => exact ⟨0, Nat.zero_le _, rfl, HX1.out, fun _ _ _ => rfl, g1⟩
      case round =>
        obtain ⟨j, hj, rfl, hown, hsame, hbi⟩ := hrel
        have HOI := Lib.hid hown
        have HSI := Lib.hid hsame
        clear hown hsame
        by_cases hlj : j < m
        · obtain ⟨g, cap', hv, hgb, _, _⟩ := owns_head HO1.out (by omega)
          obtain ⟨rfl, rfl⟩ : B = some ⟨g, 0, none⟩ ∧ cpb = cap' := by simpa using hv
          obtain ⟨y, hy, hy9, _⟩ := HML.out j hlj
          have hOw : Own w1 g 3 m (fun t => .int .i64 (M.getD t 0)) := Own.of_own HO1.out (fun t ht => by
            have : t < M.length := by have := HM.out; omega
            simp [List.getD_eq_getElem?_getD, this])
          have hcj : wr.cell? ⟨g, j, none⟩ = some (.int .i64 (y : Nat)) := by
            have h2 : Own wr g 3 m (fun t => .int .i64 (M.getD t 0)) := hOw.of_block (HSI.out g hOw.lt (by omega))
            rw [h2.cell hlj, List.getD_eq_getElem?_getD, hy]; rfl
          have hold := HOI.out.cell (i := y) hy9
          have hfr := HOI.out.frozen y
          have hbd := HTL.out i j y
          have HST := Lib.hid (HOI.out.set y (.int .i64 (tlD S i j y + 1 : Nat)))
          have HSS := Lib.hid (fun k => HTS.out j k y hy)
          obtain ⟨d, hd⟩ : ∃ d, d = tlD S i j y := ⟨_, rfl⟩
          rw [← hd] at hold hbd HST
          have HD := Lib.hid hd
          clear hd hv hOw hy
          have hyl : (y : Int) < 9 := by omega
          have hwr : IntKind.i64.wrap ((d : Int) + 1) = ((d + 1 : Nat) : Int) := by rw [IntWalk.i64_in _ (by omega)]; omega
          go_wp2
          go_roundw
          case rel =>
            refine ⟨j + 1, by omega, by go_num, HST.out.congr fun k hk => ?_, fun b hb hne => (Below.heap_setCell _ _ _ b hne).trans (HSI.out b hb hne), hbi.setCell (by simp) _⟩
            rw [HSS.out k]
            by_cases e : k = y
            · subst e; rw [if_pos rfl, if_pos rfl, HD.out]
            · rw [if_neg e, if_neg e]; rfl
          case measure => simp [intOf]; omega
        · obtain rfl : j = m := by omega
          go_wp2
          go_roundw
          case rel => exact ⟨i + 1, by omega, by go_num, HOI.out.congr fun k hk => by rw [HTEi.out k hk], HR1.out.of_block (HSI.out _ HR1.out.lt (by omega)), hbi⟩
          case measure => simp [intOf]; omega
    · obtain rfl : i = n := by omega
      obtain ⟨T, hT⟩ : ∃ T, T = tlN S i := ⟨_, rfl⟩
      have HLT := Lib.hid HLV.out
      simp only [← hT] at HO HLT
      clear hT
      have hX := HO.out
      have hR := HR.out
      have x0 := hX.cell (i := 0) (by omega)
      have x1 := hX.cell (i := 1) (by omega)
      have x2 := hX.cell (i := 2) (by omega)
      have x3 := hX.cell (i := 3) (by omega)
      have x4 := hX.cell (i := 4) (by omega)
      have x5 := hX.cell (i := 5) (by omega)
      have x6 := hX.cell (i := 6) (by omega)
      have x7 := hX.cell (i := 7) (by omega)
      have x8 := hX.cell (i := 8) (by omega)
      have r0 := hR.cell (i := 0) (by omega)
      have r1 := hR.cell (i := 1) (by omega)
      have r2 := hR.cell (i := 2) (by omega)
      have r3 := hR.cell (i := 3) (by omega)
      have r4 := hR.cell (i := 4) (by omega)
      have r5 := hR.cell (i := 5) (by omega)
      have r6 := hR.cell (i := 6) (by omega)
      have r7 := hR.cell (i := 7) (by omega)
      have r8 := hR.cell (i := 8) (by omega)
      have f0 := hR.frozen 0
      have f1 := hR.frozen 1
      have f2 := hR.frozen 2
      have f3 := hR.frozen 3
      have f4 := hR.frozen 4
      have f5 := hR.frozen 5
      have f6 := hR.frozen 6
      have f7 := hR.frozen 7
      have f8 := hR.frozen 8
      have H9 := Lib.hid (hR.nine (.int .i64 (T 0 : Nat)) (.int .i64 (T 1 : Nat)) (.int .i64 (T 2 : Nat)) (.int .i64 (T 3 : Nat)) (.int .i64 (T 4 : Nat)) (.int .i64 (T 5 : Nat)) (.int .i64 (T 6 : Nat)) (.int .i64 (T 7 : Nat)) (.int .i64 (T 8 : Nat)))
      have G9 := Lib.hid (show Below w.heap.size w (((((((((wr.setCell ⟨w.heap.size, 0, none⟩ (.int .i64 (T 0 : Nat))).setCell ⟨w.heap.size, 1, none⟩ (.int .i64 (T 1 : Nat))).setCell ⟨w.heap.size, 2, none⟩ (.int .i64 (T 2 : Nat))).setCell ⟨w.heap.size, 3, none⟩ (.int .i64 (T 3 : Nat))).setCell ⟨w.heap.size, 4, none⟩ (.int .i64 (T 4 : Nat))).setCell ⟨w.heap.size, 5, none⟩ (.int .i64 (T 5 : Nat))).setCell ⟨w.heap.size, 6, none⟩ (.int .i64 (T 6 : Nat))).setCell ⟨w.heap.size, 7, none⟩ (.int .i64 (T 7 : Nat))).setCell ⟨w.heap.size, 8, none⟩ (.int .i64 (T 8 : Nat))) from (((((((((hbr.setCell (p := ⟨w.heap.size, 0, none⟩) (Nat.le_refl _) (.int .i64 (T 0 : Nat))).setCell (p := ⟨w.heap.size, 1, none⟩) (Nat.le_refl _) (.int .i64 (T 1 : Nat))).setCell (p := ⟨w.heap.size, 2, none⟩) (Nat.le_refl _) (.int .i64 (T 2 : Nat))).setCell (p := ⟨w.heap.size, 3, none⟩) (Nat.le_refl _) (.int .i64 (T 3 : Nat))).setCell (p := ⟨w.heap.size, 4, none⟩) (Nat.le_refl _) (.int .i64 (T 4 : Nat))).setCell (p := ⟨w.heap.size, 5, none⟩) (Nat.le_refl _) (.int .i64 (T 5 : Nat))).setCell (p := ⟨w.heap.size, 6, none⟩) (Nat.le_refl _) (.int .i64 (T 6 : Nat))).setCell (p := ⟨w.heap.size, 7, none⟩) (Nat.le_refl _) (.int .i64 (T 7 : Nat))).setCell (p := ⟨w.heap.size, 8, none⟩) (Nat.le_refl _) (.int .i64 (T 8 : Nat))))
      clear hX hR
      go_wp2
      generalize (((((((((wr.setCell ⟨w.heap.size, 0, none⟩ (.int .i64 (T 0 : Nat))).setCell ⟨w.heap.size, 1, none⟩ (.int .i64 (T 1 : Nat))).setCell ⟨w.heap.size, 2, none⟩ (.int .i64 (T 2 : Nat))).setCell ⟨w.heap.size, 3, none⟩ (.int .i64 (T 3 : Nat))).setCell ⟨w.heap.size, 4, none⟩ (.int .i64 (T 4 : Nat))).setCell ⟨w.heap.size, 5, none⟩ (.int .i64 (T 5 : Nat))).setCell ⟨w.heap.size, 6, none⟩ (.int .i64 (T 6 : Nat))).setCell ⟨w.heap.size, 7, none⟩ (.int .i64 (T 7 : Nat))).setCell ⟨w.heap.size, 8, none⟩ (.int .i64 (T 8 : Nat))) = wf at H9 G9 ⊢
      have e0 := H9.out.cell (i := 0) (by omega)
      have e1 := H9.out.cell (i := 1) (by omega)
      have e2 := H9.out.cell (i := 2) (by omega)
      have e3 := H9.out.cell (i := 3) (by omega)
      have e4 := H9.out.cell (i := 4) (by omega)
      have e5 := H9.out.cell (i := 5) (by omega)
      have e6 := H9.out.cell (i := 6) (by omega)
      have e7 := H9.out.cell (i := 7) (by omega)
      have e8 := H9.out.cell (i := 8) (by omega)
      clear x0 x1 x2 x3 x4 x5 x6 x7 x8 r0 r1 r2 r3 r4 r5 r6 r7 r8 f0 f1 f2 f3 f4 f5 f6 f7 f8
      refine bodyPost_ret (v := .agg #[.int .i64 (T 0 : Nat), .int .i64 (T 1 : Nat), .int .i64 (T 2 : Nat), .int .i64 (T 3 : Nat), .int .i64 (T 4 : Nat), .int .i64 (T 5 : Nat), .int .i64 (T 6 : Nat), .int .i64 (T 7 : Nat), .int .i64 (T 8 : Nat)]) (by simp [results, Try.results82, go_sem, e0, e1, e2, e3, e4, e5, e6, e7, e8]) rfl ⟨by rw [HLT.out], G9.out⟩
end Go.Proofs.Ytpcijgdpinmcmaa
