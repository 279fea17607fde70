/- Texts of Ge, E1. -/
import Derived.Test.YtnldodnpakpeeaaGreatPkQ13
import Derived.Test.YtnldodnpakpeeaaGreatPkQ00
namespace Go.Proofs.YtnldodnpakpeeaaGreat
open Go.RowKit Vo

set_option maxRecDepth 20000 in
set_option maxHeartbeats 4000000 in
theorem pzClue0_any (n : Nat) (a b : Int) (w : World) (_h1 : 1 ≤ n) (_hn : n ≤ 4) :
    Calls Tryz.prog 38 #[.int .i64 n, .agg #[.int .i64 0, .int .i64 a, .int .i64 b]] w fun e w' => e = .returned (.bool (clueB n (0, a, b))) ∧ Below w.heap.size w w' := by
  have b0 := below1 w (.cells #[.int .i64 0, .int .i64 a, .int .i64 b] 62)
  obtain ⟨c0, c1, c2⟩ := (Bx3.new 62 w (.int .i64 0) (.int .i64 a) (.int .i64 b)).cells
  have HI := Lib.hid (fun (x lo hi : Int) W => l1In_any x lo hi W)
  have HA := Lib.hid (fun W => voAll_any n W (by omega))
  have HR := Lib.hid (show clueB n (0, a, b) = (inB a 0 ((2^n - 1 : Nat) : Int) && inB b 0 1) from rfl)
  generalize ((2^n - 1 : Nat) : Int) = Q at *
  rw [HR.out]
  clear HR
  cases ha : inB a 0 Q with
  | true =>
    have HT := Lib.hid ha
    rw [Bool.true_and]
    clear ha
    go_enter Tryz.func38, Tryz.ntmps38
    go_wp2_with fail
    go_region_held3 (fun w' => w'.cell? ⟨w.heap.size, 1, none⟩ = some (.int .i64 a) ∧ w'.cell? ⟨w.heap.size, 2, none⟩ = some (.int .i64 b))
      (first | exact ⟨c1, c2⟩ | go_keep)
      (first
        | (go_at_call 53; refine (HA.out _).mono ?_; rintro e w2 ⟨rfl, rfl⟩)
        | (go_at_call 52; with_reducible refine (HI.out a 0 Q _).mono ?_; rintro e w2 ⟨rfl, rfl⟩; rw [HT.out])
        | (go_at_call 52; with_reducible refine (HI.out b 0 1 _).mono ?_; rintro e w2 ⟨rfl, rfl⟩)
        | fail)
    go_wp2
    go_ret
    exact ⟨rfl, b0.drew⟩
  | false =>
    have HT := Lib.hid ha
    rw [Bool.false_and]
    clear ha
    go_enter Tryz.func38, Tryz.ntmps38
    go_wp2_with fail
    first
      | (go_region_with (first
        | (go_at_call 53; refine (HA.out _).mono ?_; rintro e w2 ⟨rfl, rfl⟩)
        | (go_at_call 52; with_reducible refine (HI.out a 0 Q _).mono ?_; rintro e w2 ⟨rfl, rfl⟩; rw [HT.out])
        | fail))
      | fail
    all_goals
      go_wp2
      go_ret
      exact ⟨rfl, b0.drew⟩

set_option maxRecDepth 20000 in
set_option maxHeartbeats 4000000 in
theorem pzClue1_any (n : Nat) (a b : Int) (w : World) (_h1 : 1 ≤ n) (_hn : n ≤ 4) :
    Calls Tryz.prog 38 #[.int .i64 n, .agg #[.int .i64 1, .int .i64 a, .int .i64 b]] w fun e w' => e = .returned (.bool (clueB n (1, a, b))) ∧ Below w.heap.size w w' := by
  have b0 := below1 w (.cells #[.int .i64 1, .int .i64 a, .int .i64 b] 62)
  obtain ⟨c0, c1, c2⟩ := (Bx3.new 62 w (.int .i64 1) (.int .i64 a) (.int .i64 b)).cells
  have HI := Lib.hid (fun (x lo hi : Int) W => l1In_any x lo hi W)
  have HR := Lib.hid (show clueB n (1, a, b) = (inB a 1 15 && decide (b = 0)) from rfl)
  rw [HR.out]
  clear HR
  cases ha : inB a 1 15 with
  | true =>
    have HT := Lib.hid ha
    rw [Bool.true_and]
    clear ha
    by_cases hb : b = 0
    · subst hb
      go_enter Tryz.func38, Tryz.ntmps38
      go_wp2_with fail
      refine (HI.out a 1 15 _).mono ?_
      rintro e w2 ⟨rfl, rfl⟩
      rw [HT.out]
      go_wp2
      go_ret
      exact ⟨rfl, b0⟩
    · rw [decide_eq_false hb]
      go_enter Tryz.func38, Tryz.ntmps38
      go_wp2_with fail
      refine (HI.out a 1 15 _).mono ?_
      rintro e w2 ⟨rfl, rfl⟩
      rw [HT.out]
      go_wp2
      go_ret
      exact ⟨by first | rfl | simp [hb], b0⟩
  | false =>
    have HT := Lib.hid ha
    rw [Bool.false_and]
    clear ha
    go_enter Tryz.func38, Tryz.ntmps38
    go_wp2_with fail
    refine (HI.out a 1 15 _).mono ?_
    rintro e w2 ⟨rfl, rfl⟩
    rw [HT.out]
    go_wp2
    go_ret
    exact ⟨rfl, b0⟩

set_option maxRecDepth 20000 in
set_option maxHeartbeats 4000000 in
theorem pzClue4_any (n : Nat) (a b : Int) (w : World) (_h1 : 1 ≤ n) (_hn : n ≤ 4) :
    Calls Tryz.prog 38 #[.int .i64 n, .agg #[.int .i64 4, .int .i64 a, .int .i64 b]] w fun e w' => e = .returned (.bool (clueB n (4, a, b))) ∧ Below w.heap.size w w' := by
  have b0 := below1 w (.cells #[.int .i64 4, .int .i64 a, .int .i64 b] 62)
  obtain ⟨c0, c1, c2⟩ := (Bx3.new 62 w (.int .i64 4) (.int .i64 a) (.int .i64 b)).cells
  have HI := Lib.hid (fun (x lo hi : Int) W => l1In_any x lo hi W)
  have HR := Lib.hid (show clueB n (4, a, b) = (inB a 0 1 && decide (b = 0)) from rfl)
  rw [HR.out]
  clear HR
  cases ha : inB a 0 1 with
  | true =>
    have HT := Lib.hid ha
    rw [Bool.true_and]
    clear ha
    by_cases hb : b = 0
    · subst hb
      go_enter Tryz.func38, Tryz.ntmps38
      go_wp2_with fail
      refine (HI.out a 0 1 _).mono ?_
      rintro e w2 ⟨rfl, rfl⟩
      rw [HT.out]
      go_wp2
      go_ret
      exact ⟨rfl, b0⟩
    · rw [decide_eq_false hb]
      go_enter Tryz.func38, Tryz.ntmps38
      go_wp2_with fail
      refine (HI.out a 0 1 _).mono ?_
      rintro e w2 ⟨rfl, rfl⟩
      rw [HT.out]
      go_wp2
      go_ret
      exact ⟨by first | rfl | simp [hb], b0⟩
  | false =>
    have HT := Lib.hid ha
    rw [Bool.false_and]
    clear ha
    go_enter Tryz.func38, Tryz.ntmps38
    go_wp2_with fail
    refine (HI.out a 0 1 _).mono ?_
    rintro e w2 ⟨rfl, rfl⟩
    rw [HT.out]
    go_wp2
    go_ret
    exact ⟨rfl, b0⟩

set_option maxRecDepth 20000 in
set_option maxHeartbeats 4000000 in
theorem pzClue5_any (n : Nat) (a b : Int) (w : World) (_h1 : 1 ≤ n) (_hn : n ≤ 4) :
    Calls Tryz.prog 38 #[.int .i64 n, .agg #[.int .i64 5, .int .i64 a, .int .i64 b]] w fun e w' => e = .returned (.bool (clueB n (5, a, b))) ∧ Below w.heap.size w w' := by
  have b0 := below1 w (.cells #[.int .i64 5, .int .i64 a, .int .i64 b] 62)
  obtain ⟨c0, c1, c2⟩ := (Bx3.new 62 w (.int .i64 5) (.int .i64 a) (.int .i64 b)).cells
  have HI := Lib.hid (fun (x lo hi : Int) W => l1In_any x lo hi W)
  have HR := Lib.hid (show clueB n (5, a, b) = (inB a 0 1 && decide (b = 0)) from rfl)
  rw [HR.out]
  clear HR
  cases ha : inB a 0 1 with
  | true =>
    have HT := Lib.hid ha
    rw [Bool.true_and]
    clear ha
    by_cases hb : b = 0
    · subst hb
      go_enter Tryz.func38, Tryz.ntmps38
      go_wp2_with fail
      refine (HI.out a 0 1 _).mono ?_
      rintro e w2 ⟨rfl, rfl⟩
      rw [HT.out]
      go_wp2
      go_ret
      exact ⟨rfl, b0⟩
    · rw [decide_eq_false hb]
      go_enter Tryz.func38, Tryz.ntmps38
      go_wp2_with fail
      refine (HI.out a 0 1 _).mono ?_
      rintro e w2 ⟨rfl, rfl⟩
      rw [HT.out]
      go_wp2
      go_ret
      exact ⟨by first | rfl | simp [hb], b0⟩
  | false =>
    have HT := Lib.hid ha
    rw [Bool.false_and]
    clear ha
    go_enter Tryz.func38, Tryz.ntmps38
    go_wp2_with fail
    refine (HI.out a 0 1 _).mono ?_
    rintro e w2 ⟨rfl, rfl⟩
    rw [HT.out]
    go_wp2
    go_ret
    exact ⟨rfl, b0⟩

set_option maxRecDepth 20000 in
set_option maxHeartbeats 4000000 in
theorem pzClue2_any (n : Nat) (a b : Int) (w : World) (_h1 : 1 ≤ n) (_hn : n ≤ 4) :
    Calls Tryz.prog 38 #[.int .i64 n, .agg #[.int .i64 2, .int .i64 a, .int .i64 b]] w fun e w' => e = .returned (.bool (clueB n (2, a, b))) ∧ Below w.heap.size w w' := by
  have b0 := below1 w (.cells #[.int .i64 2, .int .i64 a, .int .i64 b] 62)
  obtain ⟨c0, c1, c2⟩ := (Bx3.new 62 w (.int .i64 2) (.int .i64 a) (.int .i64 b)).cells
  have HI := Lib.hid (fun (x lo hi : Int) W => l1In_any x lo hi W)
  have HR := Lib.hid (show clueB n (2, a, b) = (inB a 0 ((n : Int) - 1) && inB b 0 1) from rfl)
  rw [HR.out]
  clear HR
  cases ha : inB a 0 ((n : Int) - 1) with
  | true =>
    have HT := Lib.hid ha
    rw [Bool.true_and]
    clear ha
    go_enter Tryz.func38, Tryz.ntmps38
    go_wp2_with fail
    refine (HI.out a 0 ((n : Int) - 1) _).mono ?_
    rintro e w2 ⟨rfl, rfl⟩
    rw [HT.out]
    go_wp2_with fail
    refine (HI.out b 0 1 _).mono ?_
    rintro e w2 ⟨rfl, rfl⟩
    go_wp2
    go_ret
    exact ⟨rfl, b0⟩
  | false =>
    have HT := Lib.hid ha
    rw [Bool.false_and]
    clear ha
    go_enter Tryz.func38, Tryz.ntmps38
    go_wp2_with fail
    refine (HI.out a 0 ((n : Int) - 1) _).mono ?_
    rintro e w2 ⟨rfl, rfl⟩
    rw [HT.out]
    go_wp2
    go_ret
    exact ⟨rfl, b0⟩

set_option maxRecDepth 20000 in
set_option maxHeartbeats 4000000 in
theorem pzClue3_any (n : Nat) (a b : Int) (w : World) (_h1 : 1 ≤ n) (_hn : n ≤ 4) :
    Calls Tryz.prog 38 #[.int .i64 n, .agg #[.int .i64 3, .int .i64 a, .int .i64 b]] w fun e w' => e = .returned (.bool (clueB n (3, a, b))) ∧ Below w.heap.size w w' := by
  have b0 := below1 w (.cells #[.int .i64 3, .int .i64 a, .int .i64 b] 62)
  obtain ⟨c0, c1, c2⟩ := (Bx3.new 62 w (.int .i64 3) (.int .i64 a) (.int .i64 b)).cells
  have HI := Lib.hid (fun (x lo hi : Int) W => l1In_any x lo hi W)
  have HR := Lib.hid (show clueB n (3, a, b) = (inB a 0 ((n : Int) - 1) && inB b 0 8) from rfl)
  rw [HR.out]
  clear HR
  cases ha : inB a 0 ((n : Int) - 1) with
  | true =>
    have HT := Lib.hid ha
    rw [Bool.true_and]
    clear ha
    go_enter Tryz.func38, Tryz.ntmps38
    go_wp2_with fail
    refine (HI.out a 0 ((n : Int) - 1) _).mono ?_
    rintro e w2 ⟨rfl, rfl⟩
    rw [HT.out]
    go_wp2_with fail
    refine (HI.out b 0 8 _).mono ?_
    rintro e w2 ⟨rfl, rfl⟩
    go_wp2
    go_ret
    exact ⟨rfl, b0⟩
  | false =>
    have HT := Lib.hid ha
    rw [Bool.false_and]
    clear ha
    go_enter Tryz.func38, Tryz.ntmps38
    go_wp2_with fail
    refine (HI.out a 0 ((n : Int) - 1) _).mono ?_
    rintro e w2 ⟨rfl, rfl⟩
    rw [HT.out]
    go_wp2
    go_ret
    exact ⟨rfl, b0⟩

set_option maxHeartbeats 1000000 in
theorem pzClue_any (n : Nat) (k a b : Int) (w : World) (h1 : 1 ≤ n) (hn : n ≤ 4) :
    Calls Tryz.prog 38 #[.int .i64 n, .agg #[.int .i64 k, .int .i64 a, .int .i64 b]] w fun e w' => e = .returned (.bool (clueB n (k, a, b))) ∧ Below w.heap.size w w' := by
  by_cases hk : 0 ≤ k ∧ k ≤ 5
  · have h : k = 0 ∨ k = 1 ∨ k = 2 ∨ k = 3 ∨ k = 4 ∨ k = 5 := by omega
    rcases h with rfl | rfl | rfl | rfl | rfl | rfl
    · exact pzClue0_any n a b w h1 hn
    · exact pzClue1_any n a b w h1 hn
    · exact pzClue2_any n a b w h1 hn
    · exact pzClue3_any n a b w h1 hn
    · exact pzClue4_any n a b w h1 hn
    · exact pzClue5_any n a b w h1 hn
  · rw [clueB_no hk]
    have b0 := below1 w (.cells #[.int .i64 k, .int .i64 a, .int .i64 b] 62)
    have h0 : ¬ k = 0 := by omega
    have h1 : ¬ k = 1 := by omega
    have h2 : ¬ k = 2 := by omega
    have h3 : ¬ k = 3 := by omega
    have h4 : ¬ k = 4 := by omega
    have h5 : ¬ k = 5 := by omega
    go_enter Tryz.func38, Tryz.ntmps38
    go_wp2
    go_ret
    exact ⟨rfl, b0⟩

/-- Is there such a clue? -/
def isClueB (m : Int) (c : Clu) : Bool := inB m 1 4 && clueB m.toNat c
theorem isClueB_no {m : Int} {c : Clu} (h : inB m 1 4 = false) : isClueB m c = false := by unfold isClueB; rw [h]; rfl
theorem isClueB_yes {n : Nat} {c : Clu} (h : inB (n : Int) 1 4 = true) : isClueB (n : Int) c = clueB n c := by unfold isClueB; rw [h, Int.toNat_natCast]; rfl
theorem in14 {m : Int} (h : inB m 1 4 = true) : ∃ n : Nat, m = (n : Int) ∧ 1 ≤ n ∧ n ≤ 4 := by
  simp only [inB, Bool.and_eq_true, decide_eq_true_iff] at h
  exact ⟨m.toNat, by omega, by omega, by omega⟩


set_option maxHeartbeats 400000 in
theorem pzMembers_any (m : Int) (w : World) :
    Calls Tryz.prog 37 #[.int .i64 m] w fun e w' => e = .returned (.bool (inB m 1 4)) ∧ w = w' := by
  go_enter Tryz.func37, Tryz.ntmps37
  go_wp2_with fail
  refine (l1In_any m 1 4 _).mono ?_
  rintro e w2 ⟨rfl, rfl⟩
  go_wp2
  go_ret
  exact ⟨rfl, rfl⟩


/-- Is there such a puzzle? -/
def puzB (m : Int) (C : List Clu) : Bool := inB m 1 4 && (decide (C.length ≤ 8) && !anyU (fun c => !clueB m.toNat c) C C.length)
theorem puzB_size {m : Int} {C : List Clu} (h : inB m 1 4 = false) : puzB m C = false := by unfold puzB; rw [h]; rfl
theorem puzB_long {m : Int} {C : List Clu} (h : ¬ C.length ≤ 8) : puzB m C = false := by unfold puzB; rw [decide_eq_false h]; simp
theorem puzB_at {n : Nat} {C : List Clu} (h : inB (n : Int) 1 4 = true) (hl : C.length ≤ 8) : puzB (n : Int) C = !anyU (fun c => !clueB n c) C C.length := by
  unfold puzB; rw [h, decide_eq_true hl, Int.toNat_natCast]; rfl
theorem puzB_parts {m : Int} {C : List Clu} (h : puzB m C = true) : ∃ n : Nat, m = (n : Int) ∧ 1 ≤ n ∧ n ≤ 4 ∧ C.length ≤ 8 ∧ ∀ i, i < C.length → clueB n (cAt C i) = true := by
  unfold puzB at h
  rw [Bool.and_eq_true, Bool.and_eq_true] at h
  obtain ⟨h1, h2, h3⟩ := h
  obtain ⟨n, rfl, a, b⟩ := in14 h1
  refine ⟨n, rfl, a, b, of_decide_eq_true h2, fun i hi => ?_⟩
  cases hc : clueB n (cAt C i) with
  | true => rfl
  | false =>
    rw [anyU_yes (p := fun c => !clueB (n : Int).toNat c) hi (by rw [Int.toNat_natCast, hc]; rfl)] at h3
    cases h3

set_option maxRecDepth 20000 in
set_option maxHeartbeats 2000000 in
theorem isPuzzle1_asks (n g : Nat) (x : Value) (w : World) (h1 : 1 ≤ n) (hn : n ≤ 4) (hx : BoxT 31 w g (.int .i64 n) x) :
    AsksU (fun c => !clueB n c) 74 #[] #[.pointer (some ⟨g, 0, none⟩)] w := by
  refine ⟨enters_of Tryz.func74 (by kernel_rfl) rfl, fun W k a b hb => ?_⟩
  show Calls Tryz.prog 74 #[.agg #[.int .i64 k, .int .i64 a, .int .i64 b], .pointer (some ⟨g, 0, none⟩)] W _
  have b0 := below1 W (.cells #[.int .i64 k, .int .i64 a, .int .i64 b] 62)
  obtain ⟨c0, c1, c2⟩ := (Bx3.new 62 W (.int .i64 k) (.int .i64 a) (.int .i64 b)).cells
  obtain ⟨d0, d1⟩ := ((hx.now hb).now b0).cells
  have HF := Lib.hid (fun W => isFor_any n k a b W h1 hn)
  generalize clueB n (k, a, b) = r at *
  clear hx
  go_enter Tryz.func74, Tryz.ntmps74
  go_wp2_with fail
  refine (HF.out _).mono ?_
  rintro e w1 ⟨rfl, hb1⟩
  go_wp2
  go_ret
  exact ⟨rfl, bfrom b0 hb1⟩

set_option maxRecDepth 20000 in
set_option maxHeartbeats 2000000 in
theorem iIsPuzzle_any (m : Int) (A : Option Addr) (n cap : Nat) (C : List Clu) (w : World) (hl : n ≤ 9223372036854775807) (hk : KCl w A n C) :
    Calls Tryz.prog 66 #[.agg #[.int .i64 m, .slice A n cap]] w fun e w' => e = .returned (.bool (puzB m C)) ∧ Below w.heap.size w w' := by
  have b0 := below1 w (.cells #[.int .i64 m, .slice A n cap] 31)
  have hx := BoxT.new 31 w (.int .i64 m) (.slice A n cap)
  obtain ⟨c0, c1⟩ := hx.cells
  have HH := Lib.hid (fun W => isHidden_any m W)
  have HK := Lib.hid (hk.now b0)
  have HLEN := Lib.hid hk.1
  clear hk
  cases h : inB m 1 4 with
  | false =>
    have HT := Lib.hid h
    rw [puzB_size h]
    clear h
    go_enter Tryz.func66, Tryz.ntmps66
    go_wp2_with fail
    refine (HH.out _).mono ?_
    rintro e w2 ⟨rfl, rfl⟩
    rw [HT.out]
    go_wp2
    go_ret
    exact ⟨rfl, b0⟩
  | true =>
    obtain ⟨q, rfl, h1, h4⟩ := in14 h
    have HT := Lib.hid h
    by_cases h8 : n ≤ 8
    · have HA := Lib.hid (containsU_any _ _ _ _ A n cap C _ hl HK.out (isPuzzle1_asks q _ _ _ h1 h4 hx))
      rw [puzB_at h (by rw [HLEN.out]; exact h8), HLEN.out]
      clear h hx
      generalize anyU (fun c => !clueB q c) C n = r at *
      go_enter Tryz.func66, Tryz.ntmps66
      go_wp2_with fail
      refine (HH.out _).mono ?_
      rintro e w2 ⟨rfl, rfl⟩
      rw [HT.out]
      go_wp2_with fail
      refine HA.out.mono ?_
      rintro e w3 ⟨rfl, hb3⟩
      go_wp2
      go_ret
      exact ⟨rfl, bfrom b0 hb3⟩
    · rw [puzB_long (by rw [HLEN.out]; exact h8)]
      have h9 : ¬ (n : Int) ≤ 8 := by omega
      clear h hx
      go_enter Tryz.func66, Tryz.ntmps66
      go_wp2_with fail
      refine (HH.out _).mono ?_
      rintro e w2 ⟨rfl, rfl⟩
      rw [HT.out]
      go_wp2
      go_ret
      exact ⟨by first | rfl | simp [h9], b0⟩

set_option maxRecDepth 20000 in
set_option maxHeartbeats 4000000 in
theorem pzGood_any (m : Int) (A : Option Addr) (n cap : Nat) (C : List Clu) (w : World) (hl : n ≤ 9223372036854775807) (hk : KCl w A n C) :
    Calls Tryz.prog 23 #[.agg #[.int .i64 m, .slice A n cap]] w fun e w' => e = .returned (.bool (puzB m C)) ∧ Below w.heap.size w w' := by
  have b0 := below1 w (.cells #[.int .i64 m, .slice A n cap] 31)
  have hx := BoxT.new 31 w (.int .i64 m) (.slice A n cap)
  have hg := hx.lt
  obtain ⟨c0, c1⟩ := hx.cells
  have HX := Lib.hid (show ∀ W, Below w.heap.size.succ (w.alloc (.cells #[.int .i64 m, .slice A n cap] 31)) W → W.cell? ⟨w.heap.size, 0, none⟩ = some (.int .i64 m) ∧ W.cell? ⟨w.heap.size, 1, none⟩ = some (.slice A n cap) from fun W h => (hx.of_below h (Nat.lt_succ_self _)).cells)
  have HH := Lib.hid (fun W => pzMembers_any m W)
  have HK := Lib.hid (hk.now b0)
  have HLEN := Lib.hid hk.1
  clear hk
  cases h : inB m 1 4 with
  | false =>
    have HT := Lib.hid h
    rw [puzB_size h]
    clear h
    go_enter Tryz.func23, Tryz.ntmps23
    go_wp2_with fail
    refine (HH.out _).mono ?_
    rintro e w2 ⟨rfl, rfl⟩
    rw [HT.out]
    go_wp2
    go_ret
    exact ⟨rfl, b0⟩
  | true =>
    obtain ⟨q, rfl, h1, h4⟩ := in14 h
    have HT := Lib.hid h
    by_cases h8 : n ≤ 8
    · have HR := Lib.hid (puzB_at h (C := C) (by rw [HLEN.out]; exact h8))
      rw [HLEN.out] at HR
      have HF := Lib.hid (fun k a b W => pzClue_any q k a b W h1 h4)
      have h9 : ¬ (8 : Int) < (n : Int) := by omega
      clear h hx h8
      go_enter Tryz.func23, Tryz.ntmps23
      go_wp2_with fail
      refine (HH.out _).mono ?_
      rintro e w2 ⟨rfl, rfl⟩
      rw [HT.out]
      go_wp2_with fail
      go_loopw [18] (fun i wr => ∃ j : Nat, j ≤ n ∧ i = .int .i64 j ∧ (∀ t, t < j → clueB q (cAt C t) = true) ∧ Below (w.heap.size + 1) (w.alloc (.cells #[.int .i64 q, .slice A n cap] 31)) wr) (fun i _ => n - (intOf i).toNat)
      case atStart => exact ⟨0, Nat.zero_le _, rfl, fun _ h => by omega, Below.refl _ _⟩
      case round =>
        obtain ⟨j, hj, rfl, hno, hb⟩ := hrel
        have HS := Lib.hid hno
        clear hno
        clear c0 c1
        have hb' := hb
        rw [show w.heap.size + 1 = (w.alloc (.cells #[.int .i64 q, .slice A n cap] 31)).heap.size from (World.size_alloc _ _).symm] at hb'
        by_cases hlt : j < n
        · obtain ⟨b, off, rfl, hcl⟩ := (HK.out.now hb').get (by omega)
          obtain ⟨hc0, hc1, hc2⟩ := hcl.at hlt
          have hbl := hcl.lt
          clear hcl
          obtain ⟨c0, c1⟩ := HX.out wr hb
          obtain ⟨c, hc⟩ : ∃ c, c = cAt C j := ⟨_, rfl⟩
          rw [← hc] at hc0 hc1 hc2
          have HCC := Lib.hid hc
          clear hc
          obtain ⟨x, y, z⟩ := c
          simp only at hc0 hc1 hc2
          have bb := below1 wr (.cells #[.int .i64 x, .int .i64 y, .int .i64 z] 62)
          have hbs := hb.size
          simp only [World.size_alloc] at hbs
          have hb2 := hb.trans (bb.mono hbs)
          obtain ⟨e0, e1, e2⟩ := (Bx3.new 62 wr (.int .i64 x) (.int .i64 y) (.int .i64 z)).cells
          obtain ⟨d0, d1⟩ := HX.out _ hb2
          have HFF := Lib.hid (fun W => HF.out x y z W)
          clear hb'
          cases hp : clueB q (x, y, z) with
          | false =>
            rw [hp] at HFF
            have HRR := Lib.hid (show puzB (q : Int) C = false from by rw [HR.out, anyU_yes (p := fun c => !clueB q c) hlt (by rw [← HCC.out, hp]; rfl)]; rfl)
            clear hp
            go_wp2_with fail
            refine (HFF.out _).mono ?_
            rintro e w3 ⟨rfl, hb3⟩
            go_wp2
            go_ret
            exact ⟨by rw [HRR.out]; rfl, b0.trans ((hb2.trans (hb3.mono (by simpa using hb2.size))).mono (by simp))⟩
          | true =>
            rw [hp] at HFF
            have HW := Lib.hid (show ∀ t, t < j + 1 → clueB q (cAt C t) = true from fun t ht => by
              by_cases e : t = j
              · subst e; rw [← HCC.out]; exact hp
              · exact HS.out t (by omega))
            clear hp
            go_wp2_with fail
            refine (HFF.out _).mono ?_
            rintro e w3 ⟨rfl, hb3⟩
            go_wp2
            go_roundw
            case rel => exact ⟨j + 1, by omega, by go_num, HW.out, hb2.trans (hb3.mono (by simpa using hb2.size))⟩
            case measure => simp [intOf]; omega
        · obtain rfl : j = n := by omega
          have HRR := Lib.hid (show puzB (q : Int) C = true from by rw [HR.out, anyU_no (p := fun c => !clueB q c) (fun t ht => by rw [HS.out t ht]; rfl)]; rfl)
          go_wp2
          go_ret
          exact ⟨by rw [HRR.out]; rfl, b0.trans (hb.mono (by simp))⟩
    · rw [puzB_long (by rw [HLEN.out]; exact h8)]
      have h9 : (8 : Int) < (n : Int) := by omega
      clear h hx
      go_enter Tryz.func23, Tryz.ntmps23
      go_wp2_with fail
      refine (HH.out _).mono ?_
      rintro e w2 ⟨rfl, rfl⟩
      rw [HT.out]
      go_wp2
      go_ret
      exact ⟨rfl, b0⟩

end Go.Proofs.YtnldodnpakpeeaaGreat

namespace Go.Proofs.YtnldodnpakpeeaaGreat.Vo

/-- Place j of a list whose numbers are each greater by one, noughts behind its end. -/
def pad (a : List Int) (j : Nat) : Int := if j < a.length then a.getD j 0 + 1 else 0
theorem pad_nil (j : Nat) : pad [] j = 0 := by simp [pad]
theorem pad_zero (x : Int) (a : List Int) : pad (x :: a) 0 = x + 1 := by simp [pad]
theorem pad_succ (x : Int) (a : List Int) (j : Nat) : pad (x :: a) (j+1) = pad a j := by simp [pad]
theorem pad_pos : ∀ {a : List Int}, (∀ x ∈ a, 0 ≤ x) → ∀ j, 0 ≤ pad a j
  | [], _, j => by rw [pad_nil]; exact Int.le_refl _
  | x :: a, h, 0 => by rw [pad_zero]; have := h x (by simp); omega
  | x :: a, h, j+1 => by rw [pad_succ]; exact pad_pos (fun y hy => h y (by simp [hy])) j
theorem pad_lt : ∀ {a b : List Int}, (∀ x ∈ a, 0 ≤ x) → (∀ x ∈ b, 0 ≤ x) → ∀ {j : Nat}, (∀ i, i < j → pad a i = pad b i) → pad a j < pad b j → before a b = true
  | [], [], _, _, j, _, h => by simp [pad_nil] at h
  | [], _ :: _, _, _, _, _, _ => rfl
  | x :: a, [], ha, _, j, _, h => by rw [pad_nil] at h; have := pad_pos ha j; omega
  | x :: a, y :: b, ha, hb, 0, _, h => by
    rw [pad_zero, pad_zero] at h
    have e : x ≠ y := by omega
    simp [before, e]; omega
  | x :: a, y :: b, ha, hb, j+1, hp, h => by
    have e : x = y := by have := hp 0 (by omega); rw [pad_zero, pad_zero] at this; omega
    subst e
    simp only [before, if_true]
    rw [pad_succ, pad_succ] at h
    refine pad_lt (fun z hz => ha z (by simp [hz])) (fun z hz => hb z (by simp [hz])) (j := j) (fun i hi => ?_) h
    have := hp (i+1) (by omega)
    rwa [pad_succ, pad_succ] at this
theorem pad_eq : ∀ {a b : List Int}, (∀ x ∈ a, 0 ≤ x) → (∀ x ∈ b, 0 ≤ x) → ∀ {k : Nat}, a.length ≤ k → b.length ≤ k → (∀ i, i < k → pad a i = pad b i) → a = b
  | [], [], _, _, _, _, _, _ => rfl
  | [], y :: b, _, hb, k, _, hl, h => by
    have := h 0 (by simp at hl; omega)
    rw [pad_nil, pad_zero] at this
    have := hb y (by simp); omega
  | x :: a, [], ha, _, k, hl, _, h => by
    have := h 0 (by simp at hl; omega)
    rw [pad_nil, pad_zero] at this
    have := ha x (by simp); omega
  | x :: a, y :: b, ha, hb, 0, hl, _, _ => by simp at hl
  | x :: a, y :: b, ha, hb, k+1, hl, hl2, h => by
    have e : x = y := by have := h 0 (by omega); rw [pad_zero, pad_zero] at this; omega
    subst e
    congr 1
    refine pad_eq (fun z hz => ha z (by simp [hz])) (fun z hz => hb z (by simp [hz])) (k := k) (by simp at hl; omega) (by simp at hl2; omega) fun i hi => ?_
    have := h (i+1) (by omega)
    rwa [pad_succ, pad_succ] at this

theorem mem_nonneg (s k : Nat) : ∀ x ∈ mem s k, 0 ≤ x := fun x hx => by
  obtain ⟨j, _, rfl, _⟩ := mem_iff.1 hx; omega
/-- Place j of the key of a set. -/
def keyAt (s j : Nat) : Int := pad (mem s 9) j
theorem keyAt_bd (s j : Nat) : 0 ≤ keyAt s j ∧ keyAt s j ≤ 9 := by
  refine ⟨pad_pos (mem_nonneg s 9) j, ?_⟩
  unfold keyAt pad
  by_cases h : j < (mem s 9).length
  · rw [if_pos h, List.getD_eq_getElem?_getD, List.getElem?_eq_getElem h]
    obtain ⟨i, hi, e, _⟩ := mem_iff.1 (List.getElem_mem h)
    show (mem s 9)[j] + 1 ≤ 9
    omega
  · rw [if_neg h]; omega
theorem keyAt_inj {s t : Nat} (hs : s < 512) (ht : t < 512) (h : ∀ j, j < 9 → keyAt s j = keyAt t j) : s = t :=
  mem_inj (n := 9) hs ht (pad_eq (mem_nonneg s 9) (mem_nonneg t 9) (mem_len s 9) (mem_len t 9) h)

/-- -1, 0 or 1, as the list of s comes before that of t, is the same, or comes behind it. -/
def ordC (s t : Nat) : Int := if before (mem s 9) (mem t 9) then -1 else if before (mem t 9) (mem s 9) then 1 else 0
theorem ordC_lt {s t j : Nat} (hp : ∀ i, i < j → keyAt s i = keyAt t i) (h : keyAt s j < keyAt t j) : ordC s t = -1 := by
  unfold ordC; rw [pad_lt (mem_nonneg s 9) (mem_nonneg t 9) hp h]; rfl
theorem ordC_gt {s t j : Nat} (hp : ∀ i, i < j → keyAt s i = keyAt t i) (h : keyAt t j < keyAt s j) : ordC s t = 1 := by
  have hb := pad_lt (mem_nonneg t 9) (mem_nonneg s 9) (fun i hi => (hp i hi).symm) h
  unfold ordC; rw [before_asymm hb, hb]; rfl
theorem ordC_eq {s t : Nat} (hp : ∀ i, i < 9 → keyAt s i = keyAt t i) : ordC s t = 0 := by
  have e := pad_eq (mem_nonneg s 9) (mem_nonneg t 9) (mem_len s 9) (mem_len t 9) hp
  unfold ordC; rw [e, before_irrefl]; rfl
theorem ordC_neg {s t : Nat} : ordC s t < 0 ↔ before (mem s 9) (mem t 9) = true := by
  unfold ordC
  by_cases h : before (mem s 9) (mem t 9) = true
  · rw [if_pos h]; simp [h]
  · rw [if_neg h]
    by_cases h2 : before (mem t 9) (mem s 9) = true
    · rw [if_pos h2]; simp [h]
    · rw [if_neg h2]; simp [h]

/-- Has s all members of t? -/
def partB (s t : Nat) : Bool := decide (s &&& t = t)
theorem partB_iff {s t : Nat} : partB s t = true ↔ s &&& t = t := decide_eq_true_iff
theorem part_le {s t : Nat} (h : s &&& t = t) : t ≤ s := by have := Nat.and_le_left (n := s) (m := t); omega
theorem part_trans {s t u : Nat} (h : s &&& t = t) (k : t &&& u = u) : s &&& u = u := by
  rw [← k, ← Nat.and_assoc, h]
theorem part_antisymm {s t : Nat} (h : s &&& t = t) (k : t &&& s = s) : s = t := by
  rw [← k, Nat.and_comm, h]
theorem part_self (s : Nat) : s &&& s = s := Nat.and_self s

/-- Is s one of the sets, and no other one a part of it? -/
def minB (S : Nat → Bool) (s : Nat) : Bool := S s && allK (fun t => !(S t && decide (t ≠ s) && partB s t)) 512
theorem minB_iff {S : Nat → Bool} (hS : ∀ s, S s = true → s < 512) {s : Nat} : minB S s = true ↔ S s = true ∧ ∀ t, S t = true → t ≠ s → s &&& t = t → False := by
  unfold minB
  rw [Bool.and_eq_true, allK_iff]
  constructor
  · rintro ⟨h1, h2⟩
    refine ⟨h1, fun t ht hne hp => ?_⟩
    have := h2 t (hS t ht)
    rw [ht, partB_iff.2 hp] at this
    simp [hne] at this
  · rintro ⟨h1, h2⟩
    refine ⟨h1, fun t _ => ?_⟩
    cases ht : S t
    · rfl
    · by_cases hne : t ≠ s
      · cases hp : partB s t
        · simp
        · exact (h2 t ht hne (partB_iff.1 hp)).elim
      · simp [hne]
/-- Each of the sets has one as a part that has no other one. -/
theorem min_in {S : Nat → Bool} (hS : ∀ s, S s = true → s < 512) : ∀ (t : Nat), S t = true → ∃ m, minB S m = true ∧ t &&& m = m := by
  intro t
  induction t using Nat.strongRecOn with
  | _ t ih =>
    intro ht
    by_cases h : minB S t = true
    · exact ⟨t, h, part_self t⟩
    · have : ∃ u, S u = true ∧ u ≠ t ∧ t &&& u = u := by
        apply Classical.byContradiction
        intro hn
        exact h ((minB_iff hS).2 ⟨ht, fun u hu hne hp => hn ⟨u, hu, hne, hp⟩⟩)
      obtain ⟨u, hu, hne, hp⟩ := this
      have := part_le hp
      obtain ⟨m, h1, h2⟩ := ih u (by omega) hu
      exact ⟨m, h1, part_trans hp h2⟩
/-- What is left after some that are not least have gone: one of which no other one left is a part is least. -/
theorem min_of_left {S M : Nat → Bool} (hS : ∀ s, S s = true → s < 512) (hM : ∀ s, M s = true → S s = true) (hL : ∀ s, minB S s = true → M s = true) {s : Nat} (hs : M s = true)
    (h : ∀ t, M t = true → t ≠ s → s &&& t = t → False) : minB S s = true := by
  refine (minB_iff hS).2 ⟨hM s hs, fun t ht hne hp => ?_⟩
  obtain ⟨m, h1, h2⟩ := min_in hS t ht
  refine h m (hL m h1) (fun e => ?_) (part_trans hp h2)
  subst e
  exact hne (part_antisymm h2 hp)
theorem not_min {S : Nat → Bool} (hS : ∀ s, S s = true → s < 512) {s t : Nat} (ht : S t = true) (hne : t ≠ s) (hp : s &&& t = t) : minB S s = false := by
  cases h : minB S s
  · rfl
  · exact (((minB_iff hS).1 h).2 t ht hne hp).elim

/-- The least ones of the sets, in order. -/
def leastL (S : Nat → Bool) : List Nat := (inOrder 9).filter (minB S)
theorem mem_leastL {S : Nat → Bool} (hS : ∀ s, S s = true → s < 512) {s : Nat} : s ∈ leastL S ↔ minB S s = true := by
  unfold leastL
  rw [List.mem_filter, mem_inOrder]
  constructor
  · exact fun h => h.2
  · exact fun h => ⟨hS s ((minB_iff hS).1 h).1, h⟩
theorem filter_sorted (n : Nat) (P : Nat → Bool) : Sorted (((inOrder n).filter P).map fun t => mem t n) := by
  have := inOrder_sorted n
  unfold Sorted at *
  rw [List.pairwise_map] at *
  exact List.Pairwise.filter P this
theorem map_mem_inj : ∀ {l m : List Nat}, (∀ s ∈ l, s < 512) → (∀ s ∈ m, s < 512) → (l.map fun t => mem t 9) = (m.map fun t => mem t 9) → l = m
  | [], [], _, _, _ => rfl
  | [], _ :: _, _, _, h => by simp at h
  | _ :: _, [], _, _, h => by simp at h
  | a :: l, b :: m, h1, h2, h => by
    simp only [List.map_cons, List.cons.injEq] at h
    rw [mem_inj (n := 9) (h1 a (by simp)) (h2 b (by simp)) h.1, map_mem_inj (fun s hs => h1 s (by simp [hs])) (fun s hs => h2 s (by simp [hs])) h.2]
/-- A sorted list of just the least ones is theirs. -/
theorem leastL_unique {S : Nat → Bool} (hS : ∀ s, S s = true → s < 512) {l : List Nat} (hs : Sorted (l.map fun t => mem t 9)) (hm : ∀ s, s ∈ l ↔ minB S s = true) : l = leastL S := by
  refine map_mem_inj (fun s h => hS s ((minB_iff hS).1 ((hm s).1 h)).1) (fun s h => hS s ((minB_iff hS).1 ((mem_leastL hS).1 h)).1) (sorted_unique hs (filter_sorted 9 _) fun x => ?_)
  rw [List.mem_map, List.mem_map]
  constructor
  · rintro ⟨s, h1, h2⟩; exact ⟨s, (mem_leastL hS).2 ((hm s).1 h1), h2⟩
  · rintro ⟨s, h1, h2⟩; exact ⟨s, (hm s).2 ((mem_leastL hS).1 h1), h2⟩
end Go.Proofs.YtnldodnpakpeeaaGreat.Vo
