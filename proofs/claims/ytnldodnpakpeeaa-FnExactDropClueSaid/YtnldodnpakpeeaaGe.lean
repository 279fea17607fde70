/- Clues and puzzles: which there are, of the model and of the program. -/
import Derived.Test.YtnldodnpakpeeaaGb
namespace Go.Proofs.Ytnldodnpakpeeaa
open Go.RowKit Vo

set_option maxRecDepth 20000 in
set_option maxHeartbeats 4000000 in
theorem pzClue0_any (n : Nat) (a b : Int) (w : World) (_h1 : 1 ≤ n) (_hn : n ≤ 4) :
    Calls Try.prog 91 #[.int .i64 n, .agg #[.int .i64 0, .int .i64 a, .int .i64 b]] w fun e w' => e = .returned (.bool (clueB n (0, a, b))) ∧ Below w.heap.size w w' := by
  have b0 := below1 w (.cells #[.int .i64 0, .int .i64 a, .int .i64 b] 130)
  obtain ⟨c0, c1, c2⟩ := (Bx3.new 130 w (.int .i64 0) (.int .i64 a) (.int .i64 b)).cells
  have HI := Lib.hid (fun (x lo hi : Int) W => l1In_any x lo hi W)
  have HA := Lib.hid (fun W => voAll_any n W (by omega))
  have HR := Lib.hid (show clueB n (0, a, b) = (inB a 0 ((2^n - 1 : Nat) : Int) && inB b 0 1) from rfl)
  generalize ((2^n - 1 : Nat) : Int) = Q at *
  rw [HR.out]
  clear HR
  cases ha : inB a 0 Q with
  | true =>
    have HT := Lib.hid ha
    rw [Bool.true_and]
    clear ha
    go_enter Try.func91, Try.ntmps91
    go_wp2_with fail
    go_region_held3 (fun w' => w'.cell? ⟨w.heap.size, 1, none⟩ = some (.int .i64 a) ∧ w'.cell? ⟨w.heap.size, 2, none⟩ = some (.int .i64 b))
      (first | exact ⟨c1, c2⟩ | go_keep)
      (first
        | (go_at_call 140; refine (HA.out _).mono ?_; rintro e w2 ⟨rfl, rfl⟩)
        | (go_at_call 49; with_reducible refine (HI.out a 0 Q _).mono ?_; rintro e w2 ⟨rfl, rfl⟩; rw [HT.out])
        | (go_at_call 49; with_reducible refine (HI.out b 0 1 _).mono ?_; rintro e w2 ⟨rfl, rfl⟩)
        | fail)
    go_wp2
    go_ret
    exact ⟨rfl, b0.drew⟩
  | false =>
    have HT := Lib.hid ha
    rw [Bool.false_and]
    clear ha
    go_enter Try.func91, Try.ntmps91
    go_wp2_with fail
    first
      | (go_region_with (first
        | (go_at_call 140; refine (HA.out _).mono ?_; rintro e w2 ⟨rfl, rfl⟩)
        | (go_at_call 49; with_reducible refine (HI.out a 0 Q _).mono ?_; rintro e w2 ⟨rfl, rfl⟩; rw [HT.out])
        | fail))
      | fail
    all_goals
      go_wp2
      go_ret
      exact ⟨rfl, b0.drew⟩

set_option maxRecDepth 20000 in
set_option maxHeartbeats 4000000 in
theorem pzClue1_any (n : Nat) (a b : Int) (w : World) (_h1 : 1 ≤ n) (_hn : n ≤ 4) :
    Calls Try.prog 91 #[.int .i64 n, .agg #[.int .i64 1, .int .i64 a, .int .i64 b]] w fun e w' => e = .returned (.bool (clueB n (1, a, b))) ∧ Below w.heap.size w w' := by
  have b0 := below1 w (.cells #[.int .i64 1, .int .i64 a, .int .i64 b] 130)
  obtain ⟨c0, c1, c2⟩ := (Bx3.new 130 w (.int .i64 1) (.int .i64 a) (.int .i64 b)).cells
  have HI := Lib.hid (fun (x lo hi : Int) W => l1In_any x lo hi W)
  have HR := Lib.hid (show clueB n (1, a, b) = (inB a 1 15 && decide (b = 0)) from rfl)
  rw [HR.out]
  clear HR
  cases ha : inB a 1 15 with
  | true =>
    have HT := Lib.hid ha
    rw [Bool.true_and]
    clear ha
    by_cases hb : b = 0
    · subst hb
      go_enter Try.func91, Try.ntmps91
      go_wp2_with fail
      refine (HI.out a 1 15 _).mono ?_
      rintro e w2 ⟨rfl, rfl⟩
      rw [HT.out]
      go_wp2
      go_ret
      exact ⟨rfl, b0⟩
    · rw [decide_eq_false hb]
      go_enter Try.func91, Try.ntmps91
      go_wp2_with fail
      refine (HI.out a 1 15 _).mono ?_
      rintro e w2 ⟨rfl, rfl⟩
      rw [HT.out]
      go_wp2
      go_ret
      exact ⟨by first | rfl | simp [hb], b0⟩
  | false =>
    have HT := Lib.hid ha
    rw [Bool.false_and]
    clear ha
    go_enter Try.func91, Try.ntmps91
    go_wp2_with fail
    refine (HI.out a 1 15 _).mono ?_
    rintro e w2 ⟨rfl, rfl⟩
    rw [HT.out]
    go_wp2
    go_ret
    exact ⟨rfl, b0⟩

set_option maxRecDepth 20000 in
set_option maxHeartbeats 4000000 in
theorem pzClue4_any (n : Nat) (a b : Int) (w : World) (_h1 : 1 ≤ n) (_hn : n ≤ 4) :
    Calls Try.prog 91 #[.int .i64 n, .agg #[.int .i64 4, .int .i64 a, .int .i64 b]] w fun e w' => e = .returned (.bool (clueB n (4, a, b))) ∧ Below w.heap.size w w' := by
  have b0 := below1 w (.cells #[.int .i64 4, .int .i64 a, .int .i64 b] 130)
  obtain ⟨c0, c1, c2⟩ := (Bx3.new 130 w (.int .i64 4) (.int .i64 a) (.int .i64 b)).cells
  have HI := Lib.hid (fun (x lo hi : Int) W => l1In_any x lo hi W)
  have HR := Lib.hid (show clueB n (4, a, b) = (inB a 0 1 && decide (b = 0)) from rfl)
  rw [HR.out]
  clear HR
  cases ha : inB a 0 1 with
  | true =>
    have HT := Lib.hid ha
    rw [Bool.true_and]
    clear ha
    by_cases hb : b = 0
    · subst hb
      go_enter Try.func91, Try.ntmps91
      go_wp2_with fail
      refine (HI.out a 0 1 _).mono ?_
      rintro e w2 ⟨rfl, rfl⟩
      rw [HT.out]
      go_wp2
      go_ret
      exact ⟨rfl, b0⟩
    · rw [decide_eq_false hb]
      go_enter Try.func91, Try.ntmps91
      go_wp2_with fail
      refine (HI.out a 0 1 _).mono ?_
      rintro e w2 ⟨rfl, rfl⟩
      rw [HT.out]
      go_wp2
      go_ret
      exact ⟨by first | rfl | simp [hb], b0⟩
  | false =>
    have HT := Lib.hid ha
    rw [Bool.false_and]
    clear ha
    go_enter Try.func91, Try.ntmps91
    go_wp2_with fail
    refine (HI.out a 0 1 _).mono ?_
    rintro e w2 ⟨rfl, rfl⟩
    rw [HT.out]
    go_wp2
    go_ret
    exact ⟨rfl, b0⟩

set_option maxRecDepth 20000 in
set_option maxHeartbeats 4000000 in
theorem pzClue5_any (n : Nat) (a b : Int) (w : World) (_h1 : 1 ≤ n) (_hn : n ≤ 4) :
    Calls Try.prog 91 #[.int .i64 n, .agg #[.int .i64 5, .int .i64 a, .int .i64 b]] w fun e w' => e = .returned (.bool (clueB n (5, a, b))) ∧ Below w.heap.size w w' := by
  have b0 := below1 w (.cells #[.int .i64 5, .int .i64 a, .int .i64 b] 130)
  obtain ⟨c0, c1, c2⟩ := (Bx3.new 130 w (.int .i64 5) (.int .i64 a) (.int .i64 b)).cells
  have HI := Lib.hid (fun (x lo hi : Int) W => l1In_any x lo hi W)
  have HR := Lib.hid (show clueB n (5, a, b) = (inB a 0 1 && decide (b = 0)) from rfl)
  rw [HR.out]
  clear HR
  cases ha : inB a 0 1 with
  | true =>
    have HT := Lib.hid ha
    rw [Bool.true_and]
    clear ha
    by_cases hb : b = 0
    · subst hb
      go_enter Try.func91, Try.ntmps91
      go_wp2_with fail
      refine (HI.out a 0 1 _).mono ?_
      rintro e w2 ⟨rfl, rfl⟩
      rw [HT.out]
      go_wp2
      go_ret
      exact ⟨rfl, b0⟩
    · rw [decide_eq_false hb]
      go_enter Try.func91, Try.ntmps91
      go_wp2_with fail
      refine (HI.out a 0 1 _).mono ?_
      rintro e w2 ⟨rfl, rfl⟩
      rw [HT.out]
      go_wp2
      go_ret
      exact ⟨by first | rfl | simp [hb], b0⟩
  | false =>
    have HT := Lib.hid ha
    rw [Bool.false_and]
    clear ha
    go_enter Try.func91, Try.ntmps91
    go_wp2_with fail
    refine (HI.out a 0 1 _).mono ?_
    rintro e w2 ⟨rfl, rfl⟩
    rw [HT.out]
    go_wp2
    go_ret
    exact ⟨rfl, b0⟩

set_option maxRecDepth 20000 in
set_option maxHeartbeats 4000000 in
theorem pzClue2_any (n : Nat) (a b : Int) (w : World) (_h1 : 1 ≤ n) (_hn : n ≤ 4) :
    Calls Try.prog 91 #[.int .i64 n, .agg #[.int .i64 2, .int .i64 a, .int .i64 b]] w fun e w' => e = .returned (.bool (clueB n (2, a, b))) ∧ Below w.heap.size w w' := by
  have b0 := below1 w (.cells #[.int .i64 2, .int .i64 a, .int .i64 b] 130)
  obtain ⟨c0, c1, c2⟩ := (Bx3.new 130 w (.int .i64 2) (.int .i64 a) (.int .i64 b)).cells
  have HI := Lib.hid (fun (x lo hi : Int) W => l1In_any x lo hi W)
  have HR := Lib.hid (show clueB n (2, a, b) = (inB a 0 ((n : Int) - 1) && inB b 0 1) from rfl)
  rw [HR.out]
  clear HR
  cases ha : inB a 0 ((n : Int) - 1) with
  | true =>
    have HT := Lib.hid ha
    rw [Bool.true_and]
    clear ha
    go_enter Try.func91, Try.ntmps91
    go_wp2_with fail
    refine (HI.out a 0 ((n : Int) - 1) _).mono ?_
    rintro e w2 ⟨rfl, rfl⟩
    rw [HT.out]
    go_wp2_with fail
    refine (HI.out b 0 1 _).mono ?_
    rintro e w2 ⟨rfl, rfl⟩
    go_wp2
    go_ret
    exact ⟨rfl, b0⟩
  | false =>
    have HT := Lib.hid ha
    rw [Bool.false_and]
    clear ha
    go_enter Try.func91, Try.ntmps91
    go_wp2_with fail
    refine (HI.out a 0 ((n : Int) - 1) _).mono ?_
    rintro e w2 ⟨rfl, rfl⟩
    rw [HT.out]
    go_wp2
    go_ret
    exact ⟨rfl, b0⟩

set_option maxRecDepth 20000 in
set_option maxHeartbeats 4000000 in
theorem pzClue3_any (n : Nat) (a b : Int) (w : World) (_h1 : 1 ≤ n) (_hn : n ≤ 4) :
    Calls Try.prog 91 #[.int .i64 n, .agg #[.int .i64 3, .int .i64 a, .int .i64 b]] w fun e w' => e = .returned (.bool (clueB n (3, a, b))) ∧ Below w.heap.size w w' := by
  have b0 := below1 w (.cells #[.int .i64 3, .int .i64 a, .int .i64 b] 130)
  obtain ⟨c0, c1, c2⟩ := (Bx3.new 130 w (.int .i64 3) (.int .i64 a) (.int .i64 b)).cells
  have HI := Lib.hid (fun (x lo hi : Int) W => l1In_any x lo hi W)
  have HR := Lib.hid (show clueB n (3, a, b) = (inB a 0 ((n : Int) - 1) && inB b 0 8) from rfl)
  rw [HR.out]
  clear HR
  cases ha : inB a 0 ((n : Int) - 1) with
  | true =>
    have HT := Lib.hid ha
    rw [Bool.true_and]
    clear ha
    go_enter Try.func91, Try.ntmps91
    go_wp2_with fail
    refine (HI.out a 0 ((n : Int) - 1) _).mono ?_
    rintro e w2 ⟨rfl, rfl⟩
    rw [HT.out]
    go_wp2_with fail
    refine (HI.out b 0 8 _).mono ?_
    rintro e w2 ⟨rfl, rfl⟩
    go_wp2
    go_ret
    exact ⟨rfl, b0⟩
  | false =>
    have HT := Lib.hid ha
    rw [Bool.false_and]
    clear ha
    go_enter Try.func91, Try.ntmps91
    go_wp2_with fail
    refine (HI.out a 0 ((n : Int) - 1) _).mono ?_
    rintro e w2 ⟨rfl, rfl⟩
    rw [HT.out]
    go_wp2
    go_ret
    exact ⟨rfl, b0⟩

set_option maxHeartbeats 1000000 in
theorem pzClue_any (n : Nat) (k a b : Int) (w : World) (h1 : 1 ≤ n) (hn : n ≤ 4) :
    Calls Try.prog 91 #[.int .i64 n, .agg #[.int .i64 k, .int .i64 a, .int .i64 b]] w fun e w' => e = .returned (.bool (clueB n (k, a, b))) ∧ Below w.heap.size w w' := by
  by_cases hk : 0 ≤ k ∧ k ≤ 5
  · have h : k = 0 ∨ k = 1 ∨ k = 2 ∨ k = 3 ∨ k = 4 ∨ k = 5 := by omega
    rcases h with rfl | rfl | rfl | rfl | rfl | rfl
    · exact pzClue0_any n a b w h1 hn
    · exact pzClue1_any n a b w h1 hn
    · exact pzClue2_any n a b w h1 hn
    · exact pzClue3_any n a b w h1 hn
    · exact pzClue4_any n a b w h1 hn
    · exact pzClue5_any n a b w h1 hn
  · rw [clueB_no hk]
    have b0 := below1 w (.cells #[.int .i64 k, .int .i64 a, .int .i64 b] 130)
    have h0 : ¬ k = 0 := by omega
    have h1 : ¬ k = 1 := by omega
    have h2 : ¬ k = 2 := by omega
    have h3 : ¬ k = 3 := by omega
    have h4 : ¬ k = 4 := by omega
    have h5 : ¬ k = 5 := by omega
    go_enter Try.func91, Try.ntmps91
    go_wp2
    go_ret
    exact ⟨rfl, b0⟩

/-- Is there such a clue? -/
def isClueB (m : Int) (c : Clu) : Bool := inB m 1 4 && clueB m.toNat c
theorem isClueB_no {m : Int} {c : Clu} (h : inB m 1 4 = false) : isClueB m c = false := by unfold isClueB; rw [h]; rfl
theorem isClueB_yes {n : Nat} {c : Clu} (h : inB (n : Int) 1 4 = true) : isClueB (n : Int) c = clueB n c := by unfold isClueB; rw [h, Int.toNat_natCast]; rfl
theorem in14 {m : Int} (h : inB m 1 4 = true) : ∃ n : Nat, m = (n : Int) ∧ 1 ≤ n ∧ n ≤ 4 := by
  simp only [inB, Bool.and_eq_true, decide_eq_true_iff] at h
  exact ⟨m.toNat, by omega, by omega, by omega⟩


set_option maxHeartbeats 400000 in
theorem pzMembers_any (m : Int) (w : World) :
    Calls Try.prog 90 #[.int .i64 m] w fun e w' => e = .returned (.bool (inB m 1 4)) ∧ w = w' := by
  go_enter Try.func90, Try.ntmps90
  go_wp2_with fail
  refine (l1In_any m 1 4 _).mono ?_
  rintro e w2 ⟨rfl, rfl⟩
  go_wp2
  go_ret
  exact ⟨rfl, rfl⟩


/-- Is there such a puzzle? -/
def puzB (m : Int) (C : List Clu) : Bool := inB m 1 4 && (decide (C.length ≤ 8) && !anyU (fun c => !clueB m.toNat c) C C.length)
theorem puzB_size {m : Int} {C : List Clu} (h : inB m 1 4 = false) : puzB m C = false := by unfold puzB; rw [h]; rfl
theorem puzB_long {m : Int} {C : List Clu} (h : ¬ C.length ≤ 8) : puzB m C = false := by unfold puzB; rw [decide_eq_false h]; simp
theorem puzB_at {n : Nat} {C : List Clu} (h : inB (n : Int) 1 4 = true) (hl : C.length ≤ 8) : puzB (n : Int) C = !anyU (fun c => !clueB n c) C C.length := by
  unfold puzB; rw [h, decide_eq_true hl, Int.toNat_natCast]; rfl
theorem puzB_parts {m : Int} {C : List Clu} (h : puzB m C = true) : ∃ n : Nat, m = (n : Int) ∧ 1 ≤ n ∧ n ≤ 4 ∧ C.length ≤ 8 ∧ ∀ i, i < C.length → clueB n (cAt C i) = true := by
  unfold puzB at h
  rw [Bool.and_eq_true, Bool.and_eq_true] at h
  obtain ⟨h1, h2, h3⟩ := h
  obtain ⟨n, rfl, a, b⟩ := in14 h1
  refine ⟨n, rfl, a, b, of_decide_eq_true h2, fun i hi => ?_⟩
  cases hc : clueB n (cAt C i) with
  | true => rfl
  | false =>
    rw [anyU_yes (p := fun c => !clueB (n : Int).toNat c) hi (by rw [Int.toNat_natCast, hc]; rfl)] at h3
    cases h3

set_option maxRecDepth 20000 in
set_option maxHeartbeats 2000000 in
theorem isPuzzle1_asks (n g : Nat) (x : Value) (w : World) (h1 : 1 ≤ n) (hn : n ≤ 4) (hx : BoxT 28 w g (.int .i64 n) x) :
    AsksU (fun c => !clueB n c) 141 #[] #[.pointer (some ⟨g, 0, none⟩)] w := by
  refine ⟨enters_of Try.func141 (by kernel_rfl) rfl, fun W k a b hb => ?_⟩
  show Calls Try.prog 141 #[.agg #[.int .i64 k, .int .i64 a, .int .i64 b], .pointer (some ⟨g, 0, none⟩)] W _
  have b0 := below1 W (.cells #[.int .i64 k, .int .i64 a, .int .i64 b] 130)
  obtain ⟨c0, c1, c2⟩ := (Bx3.new 130 W (.int .i64 k) (.int .i64 a) (.int .i64 b)).cells
  obtain ⟨d0, d1⟩ := ((hx.now hb).now b0).cells
  have HF := Lib.hid (fun W => isFor_any n k a b W h1 hn)
  generalize clueB n (k, a, b) = r at *
  clear hx
  go_enter Try.func141, Try.ntmps141
  go_wp2_with fail
  refine (HF.out _).mono ?_
  rintro e w1 ⟨rfl, hb1⟩
  go_wp2
  go_ret
  exact ⟨rfl, bfrom b0 hb1⟩

set_option maxRecDepth 20000 in
set_option maxHeartbeats 2000000 in
theorem iIsPuzzle_any (m : Int) (A : Option Addr) (n cap : Nat) (C : List Clu) (w : World) (hl : n ≤ 9223372036854775807) (hk : KCl w A n C) :
    Calls Try.prog 93 #[.agg #[.int .i64 m, .slice A n cap]] w fun e w' => e = .returned (.bool (puzB m C)) ∧ Below w.heap.size w w' := by
  have b0 := below1 w (.cells #[.int .i64 m, .slice A n cap] 28)
  have hx := BoxT.new 28 w (.int .i64 m) (.slice A n cap)
  obtain ⟨c0, c1⟩ := hx.cells
  have HH := Lib.hid (fun W => isHidden_any m W)
  have HK := Lib.hid (hk.now b0)
  have HLEN := Lib.hid hk.1
  clear hk
  cases h : inB m 1 4 with
  | false =>
    have HT := Lib.hid h
    rw [puzB_size h]
    clear h
    go_enter Try.func93, Try.ntmps93
    go_wp2_with fail
    refine (HH.out _).mono ?_
    rintro e w2 ⟨rfl, rfl⟩
    rw [HT.out]
    go_wp2
    go_ret
    exact ⟨rfl, b0⟩
  | true =>
    obtain ⟨q, rfl, h1, h4⟩ := in14 h
    have HT := Lib.hid h
    by_cases h8 : n ≤ 8
    · have HA := Lib.hid (containsU_any _ _ _ _ A n cap C _ hl HK.out (isPuzzle1_asks q _ _ _ h1 h4 hx))
      rw [puzB_at h (by rw [HLEN.out]; exact h8), HLEN.out]
      clear h hx
      generalize anyU (fun c => !clueB q c) C n = r at *
      go_enter Try.func93, Try.ntmps93
      go_wp2_with fail
      refine (HH.out _).mono ?_
      rintro e w2 ⟨rfl, rfl⟩
      rw [HT.out]
      go_wp2_with fail
      refine HA.out.mono ?_
      rintro e w3 ⟨rfl, hb3⟩
      go_wp2
      go_ret
      exact ⟨rfl, bfrom b0 hb3⟩
    · rw [puzB_long (by rw [HLEN.out]; exact h8)]
      have h9 : ¬ (n : Int) ≤ 8 := by omega
      clear h hx
      go_enter Try.func93, Try.ntmps93
      go_wp2_with fail
      refine (HH.out _).mono ?_
      rintro e w2 ⟨rfl, rfl⟩
      rw [HT.out]
      go_wp2
      go_ret
      exact ⟨by first | rfl | simp [h9], b0⟩

set_option maxRecDepth 20000 in
set_option maxHeartbeats 4000000 in
theorem pzGood_any (m : Int) (A : Option Addr) (n cap : Nat) (C : List Clu) (w : World) (hl : n ≤ 9223372036854775807) (hk : KCl w A n C) :
    Calls Try.prog 48 #[.agg #[.int .i64 m, .slice A n cap]] w fun e w' => e = .returned (.bool (puzB m C)) ∧ Below w.heap.size w w' := by
  have b0 := below1 w (.cells #[.int .i64 m, .slice A n cap] 28)
  have hx := BoxT.new 28 w (.int .i64 m) (.slice A n cap)
  have hg := hx.lt
  obtain ⟨c0, c1⟩ := hx.cells
  have HX := Lib.hid (show ∀ W, Below w.heap.size.succ (w.alloc (.cells #[.int .i64 m, .slice A n cap] 28)) W → W.cell? ⟨w.heap.size, 0, none⟩ = some (.int .i64 m) ∧ W.cell? ⟨w.heap.size, 1, none⟩ = some (.slice A n cap) from fun W h => (hx.of_below h (Nat.lt_succ_self _)).cells)
  have HH := Lib.hid (fun W => pzMembers_any m W)
  have HK := Lib.hid (hk.now b0)
  have HLEN := Lib.hid hk.1
  clear hk
  cases h : inB m 1 4 with
  | false =>
    have HT := Lib.hid h
    rw [puzB_size h]
    clear h
    go_enter Try.func48, Try.ntmps48
    go_wp2_with fail
    refine (HH.out _).mono ?_
    rintro e w2 ⟨rfl, rfl⟩
    rw [HT.out]
    go_wp2
    go_ret
    exact ⟨rfl, b0⟩
  | true =>
    obtain ⟨q, rfl, h1, h4⟩ := in14 h
    have HT := Lib.hid h
    by_cases h8 : n ≤ 8
    · have HR := Lib.hid (puzB_at h (C := C) (by rw [HLEN.out]; exact h8))
      rw [HLEN.out] at HR
      have HF := Lib.hid (fun k a b W => pzClue_any q k a b W h1 h4)
      have h9 : ¬ (8 : Int) < (n : Int) := by omega
      clear h hx h8
      go_enter Try.func48, Try.ntmps48
      go_wp2_with fail
      refine (HH.out _).mono ?_
      rintro e w2 ⟨rfl, rfl⟩
      rw [HT.out]
      go_wp2_with fail
      go_loopw [18] (fun i wr => ∃ j : Nat, j ≤ n ∧ i = .int .i64 j ∧ (∀ t, t < j → clueB q (cAt C t) = true) ∧ Below (w.heap.size + 1) (w.alloc (.cells #[.int .i64 q, .slice A n cap] 28)) wr) (fun i _ => n - (intOf i).toNat)
      case atStart => exact ⟨0, Nat.zero_le _, rfl, fun _ h => by omega, Below.refl _ _⟩
      case round =>
        obtain ⟨j, hj, rfl, hno, hb⟩ := hrel
        have HS := Lib.hid hno
        clear hno
        clear c0 c1
        have hb' := hb
        rw [show w.heap.size + 1 = (w.alloc (.cells #[.int .i64 q, .slice A n cap] 28)).heap.size from (World.size_alloc _ _).symm] at hb'
        by_cases hlt : j < n
        · obtain ⟨b, off, rfl, hcl⟩ := (HK.out.now hb').get (by omega)
          obtain ⟨hc0, hc1, hc2⟩ := hcl.at hlt
          have hbl := hcl.lt
          clear hcl
          obtain ⟨c0, c1⟩ := HX.out wr hb
          obtain ⟨c, hc⟩ : ∃ c, c = cAt C j := ⟨_, rfl⟩
          rw [← hc] at hc0 hc1 hc2
          have HCC := Lib.hid hc
          clear hc
          obtain ⟨x, y, z⟩ := c
          simp only at hc0 hc1 hc2
          have bb := below1 wr (.cells #[.int .i64 x, .int .i64 y, .int .i64 z] 130)
          have hbs := hb.size
          simp only [World.size_alloc] at hbs
          have hb2 := hb.trans (bb.mono hbs)
          obtain ⟨e0, e1, e2⟩ := (Bx3.new 130 wr (.int .i64 x) (.int .i64 y) (.int .i64 z)).cells
          obtain ⟨d0, d1⟩ := HX.out _ hb2
          have HFF := Lib.hid (fun W => HF.out x y z W)
          clear hb'
          cases hp : clueB q (x, y, z) with
          | false =>
            rw [hp] at HFF
            have HRR := Lib.hid (show puzB (q : Int) C = false from by rw [HR.out, anyU_yes (p := fun c => !clueB q c) hlt (by rw [← HCC.out, hp]; rfl)]; rfl)
            clear hp
            go_wp2_with fail
            refine (HFF.out _).mono ?_
            rintro e w3 ⟨rfl, hb3⟩
            go_wp2
            go_ret
            exact ⟨by rw [HRR.out]; rfl, b0.trans ((hb2.trans (hb3.mono (by simpa using hb2.size))).mono (by simp))⟩
          | true =>
            rw [hp] at HFF
            have HW := Lib.hid (show ∀ t, t < j + 1 → clueB q (cAt C t) = true from fun t ht => by
              by_cases e : t = j
              · subst e; rw [← HCC.out]; exact hp
              · exact HS.out t (by omega))
            clear hp
            go_wp2_with fail
            refine (HFF.out _).mono ?_
            rintro e w3 ⟨rfl, hb3⟩
            go_wp2
            go_roundw
            case rel => exact ⟨j + 1, by omega, by go_num, HW.out, hb2.trans (hb3.mono (by simpa using hb2.size))⟩
            case measure => simp [intOf]; omega
        · obtain rfl : j = n := by omega
          have HRR := Lib.hid (show puzB (q : Int) C = true from by rw [HR.out, anyU_no (p := fun c => !clueB q c) (fun t ht => by rw [HS.out t ht]; rfl)]; rfl)
          go_wp2
          go_ret
          exact ⟨by rw [HRR.out]; rfl, b0.trans (hb.mono (by simp))⟩
    · rw [puzB_long (by rw [HLEN.out]; exact h8)]
      have h9 : (8 : Int) < (n : Int) := by omega
      clear h hx
      go_enter Try.func48, Try.ntmps48
      go_wp2_with fail
      refine (HH.out _).mono ?_
      rintro e w2 ⟨rfl, rfl⟩
      rw [HT.out]
      go_wp2
      go_ret
      exact ⟨rfl, b0⟩

end Go.Proofs.Ytnldodnpakpeeaa
