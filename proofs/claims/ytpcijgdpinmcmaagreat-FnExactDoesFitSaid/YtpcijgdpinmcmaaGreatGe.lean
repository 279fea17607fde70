/- Clues and puzzles: which there are, of the model and of the program. -/
import Derived.Test.YtpcijgdpinmcmaaGreatGb
namespace Go.Proofs.YtpcijgdpinmcmaaGreat
open Go.RowKit Vo

set_option maxRecDepth 20000 in
set_option maxHeartbeats 4000000 in
theorem pzClue0_any (n : Nat) (a b : Int) (w : World) (_h1 : 1 ≤ n) (_hn : n ≤ 4) :
    Calls Tryz.prog 19 #[.int .i64 n, .agg #[.int .i64 0, .int .i64 a, .int .i64 b]] w fun e w' => e = .returned (.bool (clueB n (0, a, b))) ∧ Below w.heap.size w w' := by
  have b0 := below1 w (.cells #[.int .i64 0, .int .i64 a, .int .i64 b] 30)
  obtain ⟨c0, c1, c2⟩ := (Bx3.new 30 w (.int .i64 0) (.int .i64 a) (.int .i64 b)).cells
  have HI := Lib.hid (fun (x lo hi : Int) W => l1In_any x lo hi W)
  have HA := Lib.hid (fun W => voAll_any n W (by omega))
  have HR := Lib.hid (show clueB n (0, a, b) = (inB a 0 ((2^n - 1 : Nat) : Int) && inB b 0 1) from rfl)
  generalize ((2^n - 1 : Nat) : Int) = Q at *
  rw [HR.out]
  clear HR
  cases ha : inB a 0 Q with
  | true =>
    have HT := Lib.hid ha
    rw [Bool.true_and]
    clear ha
    go_enter Tryz.func19, Tryz.ntmps19
    go_wp2_with fail
    go_region_held3 (fun w' => w'.cell? ⟨w.heap.size, 1, none⟩ = some (.int .i64 a) ∧ w'.cell? ⟨w.heap.size, 2, none⟩ = some (.int .i64 b))
      (first | exact ⟨c1, c2⟩ | go_keep)
      (first
        | (go_at_call 37; refine (HA.out _).mono ?_; rintro e w2 ⟨rfl, rfl⟩)
        | (go_at_call 27; with_reducible refine (HI.out a 0 Q _).mono ?_; rintro e w2 ⟨rfl, rfl⟩; rw [HT.out])
        | (go_at_call 27; with_reducible refine (HI.out b 0 1 _).mono ?_; rintro e w2 ⟨rfl, rfl⟩)
        | fail)
    go_wp2
    go_ret
    exact ⟨rfl, b0.drew⟩
  | false =>
    have HT := Lib.hid ha
    rw [Bool.false_and]
    clear ha
    go_enter Tryz.func19, Tryz.ntmps19
    go_wp2_with fail
    first
      | (go_region_with (first
        | (go_at_call 37; refine (HA.out _).mono ?_; rintro e w2 ⟨rfl, rfl⟩)
        | (go_at_call 27; with_reducible refine (HI.out a 0 Q _).mono ?_; rintro e w2 ⟨rfl, rfl⟩; rw [HT.out])
        | fail))
      | fail
    all_goals
      go_wp2
      go_ret
      exact ⟨rfl, b0.drew⟩

set_option maxRecDepth 20000 in
set_option maxHeartbeats 4000000 in
theorem pzClue1_any (n : Nat) (a b : Int) (w : World) (_h1 : 1 ≤ n) (_hn : n ≤ 4) :
    Calls Tryz.prog 19 #[.int .i64 n, .agg #[.int .i64 1, .int .i64 a, .int .i64 b]] w fun e w' => e = .returned (.bool (clueB n (1, a, b))) ∧ Below w.heap.size w w' := by
  have b0 := below1 w (.cells #[.int .i64 1, .int .i64 a, .int .i64 b] 30)
  obtain ⟨c0, c1, c2⟩ := (Bx3.new 30 w (.int .i64 1) (.int .i64 a) (.int .i64 b)).cells
  have HI := Lib.hid (fun (x lo hi : Int) W => l1In_any x lo hi W)
  have HR := Lib.hid (show clueB n (1, a, b) = (inB a 1 15 && decide (b = 0)) from rfl)
  rw [HR.out]
  clear HR
  cases ha : inB a 1 15 with
  | true =>
    have HT := Lib.hid ha
    rw [Bool.true_and]
    clear ha
    by_cases hb : b = 0
    · subst hb
      go_enter Tryz.func19, Tryz.ntmps19
      go_wp2_with fail
      refine (HI.out a 1 15 _).mono ?_
      rintro e w2 ⟨rfl, rfl⟩
      rw [HT.out]
      go_wp2
      go_ret
      exact ⟨rfl, b0⟩
    · rw [decide_eq_false hb]
      go_enter Tryz.func19, Tryz.ntmps19
      go_wp2_with fail
      refine (HI.out a 1 15 _).mono ?_
      rintro e w2 ⟨rfl, rfl⟩
      rw [HT.out]
      go_wp2
      go_ret
      exact ⟨by first | rfl | simp [hb], b0⟩
  | false =>
    have HT := Lib.hid ha
    rw [Bool.false_and]
    clear ha
    go_enter Tryz.func19, Tryz.ntmps19
    go_wp2_with fail
    refine (HI.out a 1 15 _).mono ?_
    rintro e w2 ⟨rfl, rfl⟩
    rw [HT.out]
    go_wp2
    go_ret
    exact ⟨rfl, b0⟩

set_option maxRecDepth 20000 in
set_option maxHeartbeats 4000000 in
theorem pzClue4_any (n : Nat) (a b : Int) (w : World) (_h1 : 1 ≤ n) (_hn : n ≤ 4) :
    Calls Tryz.prog 19 #[.int .i64 n, .agg #[.int .i64 4, .int .i64 a, .int .i64 b]] w fun e w' => e = .returned (.bool (clueB n (4, a, b))) ∧ Below w.heap.size w w' := by
  have b0 := below1 w (.cells #[.int .i64 4, .int .i64 a, .int .i64 b] 30)
  obtain ⟨c0, c1, c2⟩ := (Bx3.new 30 w (.int .i64 4) (.int .i64 a) (.int .i64 b)).cells
  have HI := Lib.hid (fun (x lo hi : Int) W => l1In_any x lo hi W)
  have HR := Lib.hid (show clueB n (4, a, b) = (inB a 0 1 && decide (b = 0)) from rfl)
  rw [HR.out]
  clear HR
  cases ha : inB a 0 1 with
  | true =>
    have HT := Lib.hid ha
    rw [Bool.true_and]
    clear ha
    by_cases hb : b = 0
    · subst hb
      go_enter Tryz.func19, Tryz.ntmps19
      go_wp2_with fail
      refine (HI.out a 0 1 _).mono ?_
      rintro e w2 ⟨rfl, rfl⟩
      rw [HT.out]
      go_wp2
      go_ret
      exact ⟨rfl, b0⟩
    · rw [decide_eq_false hb]
      go_enter Tryz.func19, Tryz.ntmps19
      go_wp2_with fail
      refine (HI.out a 0 1 _).mono ?_
      rintro e w2 ⟨rfl, rfl⟩
      rw [HT.out]
      go_wp2
      go_ret
      exact ⟨by first | rfl | simp [hb], b0⟩
  | false =>
    have HT := Lib.hid ha
    rw [Bool.false_and]
    clear ha
    go_enter Tryz.func19, Tryz.ntmps19
    go_wp2_with fail
    refine (HI.out a 0 1 _).mono ?_
    rintro e w2 ⟨rfl, rfl⟩
    rw [HT.out]
    go_wp2
    go_ret
    exact ⟨rfl, b0⟩

set_option maxRecDepth 20000 in
set_option maxHeartbeats 4000000 in
theorem pzClue5_any (n : Nat) (a b : Int) (w : World) (_h1 : 1 ≤ n) (_hn : n ≤ 4) :
    Calls Tryz.prog 19 #[.int .i64 n, .agg #[.int .i64 5, .int .i64 a, .int .i64 b]] w fun e w' => e = .returned (.bool (clueB n (5, a, b))) ∧ Below w.heap.size w w' := by
  have b0 := below1 w (.cells #[.int .i64 5, .int .i64 a, .int .i64 b] 30)
  obtain ⟨c0, c1, c2⟩ := (Bx3.new 30 w (.int .i64 5) (.int .i64 a) (.int .i64 b)).cells
  have HI := Lib.hid (fun (x lo hi : Int) W => l1In_any x lo hi W)
  have HR := Lib.hid (show clueB n (5, a, b) = (inB a 0 1 && decide (b = 0)) from rfl)
  rw [HR.out]
  clear HR
  cases ha : inB a 0 1 with
  | true =>
    have HT := Lib.hid ha
    rw [Bool.true_and]
    clear ha
    by_cases hb : b = 0
    · subst hb
      go_enter Tryz.func19, Tryz.ntmps19
      go_wp2_with fail
      refine (HI.out a 0 1 _).mono ?_
      rintro e w2 ⟨rfl, rfl⟩
      rw [HT.out]
      go_wp2
      go_ret
      exact ⟨rfl, b0⟩
    · rw [decide_eq_false hb]
      go_enter Tryz.func19, Tryz.ntmps19
      go_wp2_with fail
      refine (HI.out a 0 1 _).mono ?_
      rintro e w2 ⟨rfl, rfl⟩
      rw [HT.out]
      go_wp2
      go_ret
      exact ⟨by first | rfl | simp [hb], b0⟩
  | false =>
    have HT := Lib.hid ha
    rw [Bool.false_and]
    clear ha
    go_enter Tryz.func19, Tryz.ntmps19
    go_wp2_with fail
    refine (HI.out a 0 1 _).mono ?_
    rintro e w2 ⟨rfl, rfl⟩
    rw [HT.out]
    go_wp2
    go_ret
    exact ⟨rfl, b0⟩

set_option maxRecDepth 20000 in
set_option maxHeartbeats 4000000 in
theorem pzClue2_any (n : Nat) (a b : Int) (w : World) (_h1 : 1 ≤ n) (_hn : n ≤ 4) :
    Calls Tryz.prog 19 #[.int .i64 n, .agg #[.int .i64 2, .int .i64 a, .int .i64 b]] w fun e w' => e = .returned (.bool (clueB n (2, a, b))) ∧ Below w.heap.size w w' := by
  have b0 := below1 w (.cells #[.int .i64 2, .int .i64 a, .int .i64 b] 30)
  obtain ⟨c0, c1, c2⟩ := (Bx3.new 30 w (.int .i64 2) (.int .i64 a) (.int .i64 b)).cells
  have HI := Lib.hid (fun (x lo hi : Int) W => l1In_any x lo hi W)
  have HR := Lib.hid (show clueB n (2, a, b) = (inB a 0 ((n : Int) - 1) && inB b 0 1) from rfl)
  rw [HR.out]
  clear HR
  cases ha : inB a 0 ((n : Int) - 1) with
  | true =>
    have HT := Lib.hid ha
    rw [Bool.true_and]
    clear ha
    go_enter Tryz.func19, Tryz.ntmps19
    go_wp2_with fail
    refine (HI.out a 0 ((n : Int) - 1) _).mono ?_
    rintro e w2 ⟨rfl, rfl⟩
    rw [HT.out]
    go_wp2_with fail
    refine (HI.out b 0 1 _).mono ?_
    rintro e w2 ⟨rfl, rfl⟩
    go_wp2
    go_ret
    exact ⟨rfl, b0⟩
  | false =>
    have HT := Lib.hid ha
    rw [Bool.false_and]
    clear ha
    go_enter Tryz.func19, Tryz.ntmps19
    go_wp2_with fail
    refine (HI.out a 0 ((n : Int) - 1) _).mono ?_
    rintro e w2 ⟨rfl, rfl⟩
    rw [HT.out]
    go_wp2
    go_ret
    exact ⟨rfl, b0⟩

set_option maxRecDepth 20000 in
set_option maxHeartbeats 4000000 in
theorem pzClue3_any (n : Nat) (a b : Int) (w : World) (_h1 : 1 ≤ n) (_hn : n ≤ 4) :
    Calls Tryz.prog 19 #[.int .i64 n, .agg #[.int .i64 3, .int .i64 a, .int .i64 b]] w fun e w' => e = .returned (.bool (clueB n (3, a, b))) ∧ Below w.heap.size w w' := by
  have b0 := below1 w (.cells #[.int .i64 3, .int .i64 a, .int .i64 b] 30)
  obtain ⟨c0, c1, c2⟩ := (Bx3.new 30 w (.int .i64 3) (.int .i64 a) (.int .i64 b)).cells
  have HI := Lib.hid (fun (x lo hi : Int) W => l1In_any x lo hi W)
  have HR := Lib.hid (show clueB n (3, a, b) = (inB a 0 ((n : Int) - 1) && inB b 0 8) from rfl)
  rw [HR.out]
  clear HR
  cases ha : inB a 0 ((n : Int) - 1) with
  | true =>
    have HT := Lib.hid ha
    rw [Bool.true_and]
    clear ha
    go_enter Tryz.func19, Tryz.ntmps19
    go_wp2_with fail
    refine (HI.out a 0 ((n : Int) - 1) _).mono ?_
    rintro e w2 ⟨rfl, rfl⟩
    rw [HT.out]
    go_wp2_with fail
    refine (HI.out b 0 8 _).mono ?_
    rintro e w2 ⟨rfl, rfl⟩
    go_wp2
    go_ret
    exact ⟨rfl, b0⟩
  | false =>
    have HT := Lib.hid ha
    rw [Bool.false_and]
    clear ha
    go_enter Tryz.func19, Tryz.ntmps19
    go_wp2_with fail
    refine (HI.out a 0 ((n : Int) - 1) _).mono ?_
    rintro e w2 ⟨rfl, rfl⟩
    rw [HT.out]
    go_wp2
    go_ret
    exact ⟨rfl, b0⟩

set_option maxHeartbeats 1000000 in
theorem pzClue_any (n : Nat) (k a b : Int) (w : World) (h1 : 1 ≤ n) (hn : n ≤ 4) :
    Calls Tryz.prog 19 #[.int .i64 n, .agg #[.int .i64 k, .int .i64 a, .int .i64 b]] w fun e w' => e = .returned (.bool (clueB n (k, a, b))) ∧ Below w.heap.size w w' := by
  by_cases hk : 0 ≤ k ∧ k ≤ 5
  · have h : k = 0 ∨ k = 1 ∨ k = 2 ∨ k = 3 ∨ k = 4 ∨ k = 5 := by omega
    rcases h with rfl | rfl | rfl | rfl | rfl | rfl
    · exact pzClue0_any n a b w h1 hn
    · exact pzClue1_any n a b w h1 hn
    · exact pzClue2_any n a b w h1 hn
    · exact pzClue3_any n a b w h1 hn
    · exact pzClue4_any n a b w h1 hn
    · exact pzClue5_any n a b w h1 hn
  · rw [clueB_no hk]
    have b0 := below1 w (.cells #[.int .i64 k, .int .i64 a, .int .i64 b] 30)
    have h0 : ¬ k = 0 := by omega
    have h1 : ¬ k = 1 := by omega
    have h2 : ¬ k = 2 := by omega
    have h3 : ¬ k = 3 := by omega
    have h4 : ¬ k = 4 := by omega
    have h5 : ¬ k = 5 := by omega
    go_enter Tryz.func19, Tryz.ntmps19
    go_wp2
    go_ret
    exact ⟨rfl, b0⟩

/-- Is there such a clue? -/
def isClueB (m : Int) (c : Clu) : Bool := inB m 1 4 && clueB m.toNat c
theorem isClueB_no {m : Int} {c : Clu} (h : inB m 1 4 = false) : isClueB m c = false := by unfold isClueB; rw [h]; rfl
theorem isClueB_yes {n : Nat} {c : Clu} (h : inB (n : Int) 1 4 = true) : isClueB (n : Int) c = clueB n c := by unfold isClueB; rw [h, Int.toNat_natCast]; rfl
theorem in14 {m : Int} (h : inB m 1 4 = true) : ∃ n : Nat, m = (n : Int) ∧ 1 ≤ n ∧ n ≤ 4 := by
  simp only [inB, Bool.and_eq_true, decide_eq_true_iff] at h
  exact ⟨m.toNat, by omega, by omega, by omega⟩


/-- Is there such a puzzle? -/
def puzB (m : Int) (C : List Clu) : Bool := inB m 1 4 && (decide (C.length ≤ 8) && !anyU (fun c => !clueB m.toNat c) C C.length)
theorem puzB_size {m : Int} {C : List Clu} (h : inB m 1 4 = false) : puzB m C = false := by unfold puzB; rw [h]; rfl
theorem puzB_long {m : Int} {C : List Clu} (h : ¬ C.length ≤ 8) : puzB m C = false := by unfold puzB; rw [decide_eq_false h]; simp
theorem puzB_at {n : Nat} {C : List Clu} (h : inB (n : Int) 1 4 = true) (hl : C.length ≤ 8) : puzB (n : Int) C = !anyU (fun c => !clueB n c) C C.length := by
  unfold puzB; rw [h, decide_eq_true hl, Int.toNat_natCast]; rfl
theorem puzB_parts {m : Int} {C : List Clu} (h : puzB m C = true) : ∃ n : Nat, m = (n : Int) ∧ 1 ≤ n ∧ n ≤ 4 ∧ C.length ≤ 8 ∧ ∀ i, i < C.length → clueB n (cAt C i) = true := by
  unfold puzB at h
  rw [Bool.and_eq_true, Bool.and_eq_true] at h
  obtain ⟨h1, h2, h3⟩ := h
  obtain ⟨n, rfl, a, b⟩ := in14 h1
  refine ⟨n, rfl, a, b, of_decide_eq_true h2, fun i hi => ?_⟩
  cases hc : clueB n (cAt C i) with
  | true => rfl
  | false =>
    rw [anyU_yes (p := fun c => !clueB (n : Int).toNat c) hi (by rw [Int.toNat_natCast, hc]; rfl)] at h3
    cases h3

end Go.Proofs.YtpcijgdpinmcmaaGreat
