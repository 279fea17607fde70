/- Texts of Ge, Gf. -/
import Derived.Test.YtnldodnpakpeeaaPkQ13
import Derived.Laws.CopyOwn
import Derived.Deep.OwnRows
import Derived.Outline
namespace Go.Proofs.Ytnldodnpakpeeaa
open Go.RowKit Vo

set_option maxRecDepth 20000 in
set_option maxHeartbeats 4000000 in
theorem pzClue0_any (n : Nat) (a b : Int) (w : World) (_h1 : 1 ≤ n) (_hn : n ≤ 4) :
    Calls Try.prog 91 #[.int .i64 n, .agg #[.int .i64 0, .int .i64 a, .int .i64 b]] w fun e w' => e = .returned (.bool (clueB n (0, a, b))) ∧ Below w.heap.size w w' := by
  have b0 := below1 w (.cells #[.int .i64 0, .int .i64 a, .int .i64 b] 130)
  obtain ⟨c0, c1, c2⟩ := (Bx3.new 130 w (.int .i64 0) (.int .i64 a) (.int .i64 b)).cells
  have HI := Lib.hid (fun (x lo hi : Int) W => l1In_any x lo hi W)
  have HA := Lib.hid (fun W => voAll_any n W (by omega))
  have HR := Lib.hid (show clueB n (0, a, b) = (inB a 0 ((2^n - 1 : Nat) : Int) && inB b 0 1) from rfl)
  generalize ((2^n - 1 : Nat) : Int) = Q at *
  rw [HR.out]
  clear HR
  cases ha : inB a 0 Q with
  | true =>
    have HT := Lib.hid ha
    rw [Bool.true_and]
    clear ha
    go_enter Try.func91, Try.ntmps91
    go_wp2_with fail
    go_region_held3 (fun w' => w'.cell? ⟨w.heap.size, 1, none⟩ = some (.int .i64 a) ∧ w'.cell? ⟨w.heap.size, 2, none⟩ = some (.int .i64 b))
      (first | exact ⟨c1, c2⟩ | go_keep)
      (first
        | (go_at_call 140; refine (HA.out _).mono ?_; rintro e w2 ⟨rfl, rfl⟩)
        | (go_at_call 49; with_reducible refine (HI.out a 0 Q _).mono ?_; rintro e w2 ⟨rfl, rfl⟩; rw [HT.out])
        | (go_at_call 49; with_reducible refine (HI.out b 0 1 _).mono ?_; rintro e w2 ⟨rfl, rfl⟩)
        | fail)
    go_wp2
    go_ret
    exact ⟨rfl, b0.drew⟩
  | false =>
    have HT := Lib.hid ha
    rw [Bool.false_and]
    clear ha
    go_enter Try.func91, Try.ntmps91
    go_wp2_with fail
    first
      | (go_region_with (first
        | (go_at_call 140; refine (HA.out _).mono ?_; rintro e w2 ⟨rfl, rfl⟩)
        | (go_at_call 49; with_reducible refine (HI.out a 0 Q _).mono ?_; rintro e w2 ⟨rfl, rfl⟩; rw [HT.out])
        | fail))
      | fail
    all_goals
      go_wp2
      go_ret
      exact ⟨rfl, b0.drew⟩

set_option maxRecDepth 20000 in
set_option maxHeartbeats 4000000 in
theorem pzClue1_any (n : Nat) (a b : Int) (w : World) (_h1 : 1 ≤ n) (_hn : n ≤ 4) :
    Calls Try.prog 91 #[.int .i64 n, .agg #[.int .i64 1, .int .i64 a, .int .i64 b]] w fun e w' => e = .returned (.bool (clueB n (1, a, b))) ∧ Below w.heap.size w w' := by
  have b0 := below1 w (.cells #[.int .i64 1, .int .i64 a, .int .i64 b] 130)
  obtain ⟨c0, c1, c2⟩ := (Bx3.new 130 w (.int .i64 1) (.int .i64 a) (.int .i64 b)).cells
  have HI := Lib.hid (fun (x lo hi : Int) W => l1In_any x lo hi W)
  have HR := Lib.hid (show clueB n (1, a, b) = (inB a 1 15 && decide (b = 0)) from rfl)
  rw [HR.out]
  clear HR
  cases ha : inB a 1 15 with
  | true =>
    have HT := Lib.hid ha
    rw [Bool.true_and]
    clear ha
    by_cases hb : b = 0
    · subst hb
      go_enter Try.func91, Try.ntmps91
      go_wp2_with fail
      refine (HI.out a 1 15 _).mono ?_
      rintro e w2 ⟨rfl, rfl⟩
      rw [HT.out]
      go_wp2
      go_ret
      exact ⟨rfl, b0⟩
    · rw [decide_eq_false hb]
      go_enter Try.func91, Try.ntmps91
      go_wp2_with fail
      refine (HI.out a 1 15 _).mono ?_
      rintro e w2 ⟨rfl, rfl⟩
      rw [HT.out]
      go_wp2
      go_ret
      exact ⟨by first | rfl | simp [hb], b0⟩
  | false =>
    have HT := Lib.hid ha
    rw [Bool.false_and]
    clear ha
    go_enter Try.func91, Try.ntmps91
    go_wp2_with fail
    refine (HI.out a 1 15 _).mono ?_
    rintro e w2 ⟨rfl, rfl⟩
    rw [HT.out]
    go_wp2
    go_ret
    exact ⟨rfl, b0⟩

set_option maxRecDepth 20000 in
set_option maxHeartbeats 4000000 in
theorem pzClue4_any (n : Nat) (a b : Int) (w : World) (_h1 : 1 ≤ n) (_hn : n ≤ 4) :
    Calls Try.prog 91 #[.int .i64 n, .agg #[.int .i64 4, .int .i64 a, .int .i64 b]] w fun e w' => e = .returned (.bool (clueB n (4, a, b))) ∧ Below w.heap.size w w' := by
  have b0 := below1 w (.cells #[.int .i64 4, .int .i64 a, .int .i64 b] 130)
  obtain ⟨c0, c1, c2⟩ := (Bx3.new 130 w (.int .i64 4) (.int .i64 a) (.int .i64 b)).cells
  have HI := Lib.hid (fun (x lo hi : Int) W => l1In_any x lo hi W)
  have HR := Lib.hid (show clueB n (4, a, b) = (inB a 0 1 && decide (b = 0)) from rfl)
  rw [HR.out]
  clear HR
  cases ha : inB a 0 1 with
  | true =>
    have HT := Lib.hid ha
    rw [Bool.true_and]
    clear ha
    by_cases hb : b = 0
    · subst hb
      go_enter Try.func91, Try.ntmps91
      go_wp2_with fail
      refine (HI.out a 0 1 _).mono ?_
      rintro e w2 ⟨rfl, rfl⟩
      rw [HT.out]
      go_wp2
      go_ret
      exact ⟨rfl, b0⟩
    · rw [decide_eq_false hb]
      go_enter Try.func91, Try.ntmps91
      go_wp2_with fail
      refine (HI.out a 0 1 _).mono ?_
      rintro e w2 ⟨rfl, rfl⟩
      rw [HT.out]
      go_wp2
      go_ret
      exact ⟨by first | rfl | simp [hb], b0⟩
  | false =>
    have HT := Lib.hid ha
    rw [Bool.false_and]
    clear ha
    go_enter Try.func91, Try.ntmps91
    go_wp2_with fail
    refine (HI.out a 0 1 _).mono ?_
    rintro e w2 ⟨rfl, rfl⟩
    rw [HT.out]
    go_wp2
    go_ret
    exact ⟨rfl, b0⟩

set_option maxRecDepth 20000 in
set_option maxHeartbeats 4000000 in
theorem pzClue5_any (n : Nat) (a b : Int) (w : World) (_h1 : 1 ≤ n) (_hn : n ≤ 4) :
    Calls Try.prog 91 #[.int .i64 n, .agg #[.int .i64 5, .int .i64 a, .int .i64 b]] w fun e w' => e = .returned (.bool (clueB n (5, a, b))) ∧ Below w.heap.size w w' := by
  have b0 := below1 w (.cells #[.int .i64 5, .int .i64 a, .int .i64 b] 130)
  obtain ⟨c0, c1, c2⟩ := (Bx3.new 130 w (.int .i64 5) (.int .i64 a) (.int .i64 b)).cells
  have HI := Lib.hid (fun (x lo hi : Int) W => l1In_any x lo hi W)
  have HR := Lib.hid (show clueB n (5, a, b) = (inB a 0 1 && decide (b = 0)) from rfl)
  rw [HR.out]
  clear HR
  cases ha : inB a 0 1 with
  | true =>
    have HT := Lib.hid ha
    rw [Bool.true_and]
    clear ha
    by_cases hb : b = 0
    · subst hb
      go_enter Try.func91, Try.ntmps91
      go_wp2_with fail
      refine (HI.out a 0 1 _).mono ?_
      rintro e w2 ⟨rfl, rfl⟩
      rw [HT.out]
      go_wp2
      go_ret
      exact ⟨rfl, b0⟩
    · rw [decide_eq_false hb]
      go_enter Try.func91, Try.ntmps91
      go_wp2_with fail
      refine (HI.out a 0 1 _).mono ?_
      rintro e w2 ⟨rfl, rfl⟩
      rw [HT.out]
      go_wp2
      go_ret
      exact ⟨by first | rfl | simp [hb], b0⟩
  | false =>
    have HT := Lib.hid ha
    rw [Bool.false_and]
    clear ha
    go_enter Try.func91, Try.ntmps91
    go_wp2_with fail
    refine (HI.out a 0 1 _).mono ?_
    rintro e w2 ⟨rfl, rfl⟩
    rw [HT.out]
    go_wp2
    go_ret
    exact ⟨rfl, b0⟩

set_option maxRecDepth 20000 in
set_option maxHeartbeats 4000000 in
theorem pzClue2_any (n : Nat) (a b : Int) (w : World) (_h1 : 1 ≤ n) (_hn : n ≤ 4) :
    Calls Try.prog 91 #[.int .i64 n, .agg #[.int .i64 2, .int .i64 a, .int .i64 b]] w fun e w' => e = .returned (.bool (clueB n (2, a, b))) ∧ Below w.heap.size w w' := by
  have b0 := below1 w (.cells #[.int .i64 2, .int .i64 a, .int .i64 b] 130)
  obtain ⟨c0, c1, c2⟩ := (Bx3.new 130 w (.int .i64 2) (.int .i64 a) (.int .i64 b)).cells
  have HI := Lib.hid (fun (x lo hi : Int) W => l1In_any x lo hi W)
  have HR := Lib.hid (show clueB n (2, a, b) = (inB a 0 ((n : Int) - 1) && inB b 0 1) from rfl)
  rw [HR.out]
  clear HR
  cases ha : inB a 0 ((n : Int) - 1) with
  | true =>
    have HT := Lib.hid ha
    rw [Bool.true_and]
    clear ha
    go_enter Try.func91, Try.ntmps91
    go_wp2_with fail
    refine (HI.out a 0 ((n : Int) - 1) _).mono ?_
    rintro e w2 ⟨rfl, rfl⟩
    rw [HT.out]
    go_wp2_with fail
    refine (HI.out b 0 1 _).mono ?_
    rintro e w2 ⟨rfl, rfl⟩
    go_wp2
    go_ret
    exact ⟨rfl, b0⟩
  | false =>
    have HT := Lib.hid ha
    rw [Bool.false_and]
    clear ha
    go_enter Try.func91, Try.ntmps91
    go_wp2_with fail
    refine (HI.out a 0 ((n : Int) - 1) _).mono ?_
    rintro e w2 ⟨rfl, rfl⟩
    rw [HT.out]
    go_wp2
    go_ret
    exact ⟨rfl, b0⟩

set_option maxRecDepth 20000 in
set_option maxHeartbeats 4000000 in
theorem pzClue3_any (n : Nat) (a b : Int) (w : World) (_h1 : 1 ≤ n) (_hn : n ≤ 4) :
    Calls Try.prog 91 #[.int .i64 n, .agg #[.int .i64 3, .int .i64 a, .int .i64 b]] w fun e w' => e = .returned (.bool (clueB n (3, a, b))) ∧ Below w.heap.size w w' := by
  have b0 := below1 w (.cells #[.int .i64 3, .int .i64 a, .int .i64 b] 130)
  obtain ⟨c0, c1, c2⟩ := (Bx3.new 130 w (.int .i64 3) (.int .i64 a) (.int .i64 b)).cells
  have HI := Lib.hid (fun (x lo hi : Int) W => l1In_any x lo hi W)
  have HR := Lib.hid (show clueB n (3, a, b) = (inB a 0 ((n : Int) - 1) && inB b 0 8) from rfl)
  rw [HR.out]
  clear HR
  cases ha : inB a 0 ((n : Int) - 1) with
  | true =>
    have HT := Lib.hid ha
    rw [Bool.true_and]
    clear ha
    go_enter Try.func91, Try.ntmps91
    go_wp2_with fail
    refine (HI.out a 0 ((n : Int) - 1) _).mono ?_
    rintro e w2 ⟨rfl, rfl⟩
    rw [HT.out]
    go_wp2_with fail
    refine (HI.out b 0 8 _).mono ?_
    rintro e w2 ⟨rfl, rfl⟩
    go_wp2
    go_ret
    exact ⟨rfl, b0⟩
  | false =>
    have HT := Lib.hid ha
    rw [Bool.false_and]
    clear ha
    go_enter Try.func91, Try.ntmps91
    go_wp2_with fail
    refine (HI.out a 0 ((n : Int) - 1) _).mono ?_
    rintro e w2 ⟨rfl, rfl⟩
    rw [HT.out]
    go_wp2
    go_ret
    exact ⟨rfl, b0⟩

set_option maxHeartbeats 1000000 in
theorem pzClue_any (n : Nat) (k a b : Int) (w : World) (h1 : 1 ≤ n) (hn : n ≤ 4) :
    Calls Try.prog 91 #[.int .i64 n, .agg #[.int .i64 k, .int .i64 a, .int .i64 b]] w fun e w' => e = .returned (.bool (clueB n (k, a, b))) ∧ Below w.heap.size w w' := by
  by_cases hk : 0 ≤ k ∧ k ≤ 5
  · have h : k = 0 ∨ k = 1 ∨ k = 2 ∨ k = 3 ∨ k = 4 ∨ k = 5 := by omega
    rcases h with rfl | rfl | rfl | rfl | rfl | rfl
    · exact pzClue0_any n a b w h1 hn
    · exact pzClue1_any n a b w h1 hn
    · exact pzClue2_any n a b w h1 hn
    · exact pzClue3_any n a b w h1 hn
    · exact pzClue4_any n a b w h1 hn
    · exact pzClue5_any n a b w h1 hn
  · rw [clueB_no hk]
    have b0 := below1 w (.cells #[.int .i64 k, .int .i64 a, .int .i64 b] 130)
    have h0 : ¬ k = 0 := by omega
    have h1 : ¬ k = 1 := by omega
    have h2 : ¬ k = 2 := by omega
    have h3 : ¬ k = 3 := by omega
    have h4 : ¬ k = 4 := by omega
    have h5 : ¬ k = 5 := by omega
    go_enter Try.func91, Try.ntmps91
    go_wp2
    go_ret
    exact ⟨rfl, b0⟩

/-- Is there such a clue? -/
def isClueB (m : Int) (c : Clu) : Bool := inB m 1 4 && clueB m.toNat c
theorem isClueB_no {m : Int} {c : Clu} (h : inB m 1 4 = false) : isClueB m c = false := by unfold isClueB; rw [h]; rfl
theorem isClueB_yes {n : Nat} {c : Clu} (h : inB (n : Int) 1 4 = true) : isClueB (n : Int) c = clueB n c := by unfold isClueB; rw [h, Int.toNat_natCast]; rfl
theorem in14 {m : Int} (h : inB m 1 4 = true) : ∃ n : Nat, m = (n : Int) ∧ 1 ≤ n ∧ n ≤ 4 := by
  simp only [inB, Bool.and_eq_true, decide_eq_true_iff] at h
  exact ⟨m.toNat, by omega, by omega, by omega⟩


set_option maxHeartbeats 400000 in
theorem pzMembers_any (m : Int) (w : World) :
    Calls Try.prog 90 #[.int .i64 m] w fun e w' => e = .returned (.bool (inB m 1 4)) ∧ w = w' := by
  go_enter Try.func90, Try.ntmps90
  go_wp2_with fail
  refine (l1In_any m 1 4 _).mono ?_
  rintro e w2 ⟨rfl, rfl⟩
  go_wp2
  go_ret
  exact ⟨rfl, rfl⟩


/-- Is there such a puzzle? -/
def puzB (m : Int) (C : List Clu) : Bool := inB m 1 4 && (decide (C.length ≤ 8) && !anyU (fun c => !clueB m.toNat c) C C.length)
theorem puzB_size {m : Int} {C : List Clu} (h : inB m 1 4 = false) : puzB m C = false := by unfold puzB; rw [h]; rfl
theorem puzB_long {m : Int} {C : List Clu} (h : ¬ C.length ≤ 8) : puzB m C = false := by unfold puzB; rw [decide_eq_false h]; simp
theorem puzB_at {n : Nat} {C : List Clu} (h : inB (n : Int) 1 4 = true) (hl : C.length ≤ 8) : puzB (n : Int) C = !anyU (fun c => !clueB n c) C C.length := by
  unfold puzB; rw [h, decide_eq_true hl, Int.toNat_natCast]; rfl
theorem puzB_parts {m : Int} {C : List Clu} (h : puzB m C = true) : ∃ n : Nat, m = (n : Int) ∧ 1 ≤ n ∧ n ≤ 4 ∧ C.length ≤ 8 ∧ ∀ i, i < C.length → clueB n (cAt C i) = true := by
  unfold puzB at h
  rw [Bool.and_eq_true, Bool.and_eq_true] at h
  obtain ⟨h1, h2, h3⟩ := h
  obtain ⟨n, rfl, a, b⟩ := in14 h1
  refine ⟨n, rfl, a, b, of_decide_eq_true h2, fun i hi => ?_⟩
  cases hc : clueB n (cAt C i) with
  | true => rfl
  | false =>
    rw [anyU_yes (p := fun c => !clueB (n : Int).toNat c) hi (by rw [Int.toNat_natCast, hc]; rfl)] at h3
    cases h3

set_option maxRecDepth 20000 in
set_option maxHeartbeats 2000000 in
theorem isPuzzle1_asks (n g : Nat) (x : Value) (w : World) (h1 : 1 ≤ n) (hn : n ≤ 4) (hx : BoxT 28 w g (.int .i64 n) x) :
    AsksU (fun c => !clueB n c) 141 #[] #[.pointer (some ⟨g, 0, none⟩)] w := by
  refine ⟨enters_of Try.func141 (by kernel_rfl) rfl, fun W k a b hb => ?_⟩
  show Calls Try.prog 141 #[.agg #[.int .i64 k, .int .i64 a, .int .i64 b], .pointer (some ⟨g, 0, none⟩)] W _
  have b0 := below1 W (.cells #[.int .i64 k, .int .i64 a, .int .i64 b] 130)
  obtain ⟨c0, c1, c2⟩ := (Bx3.new 130 W (.int .i64 k) (.int .i64 a) (.int .i64 b)).cells
  obtain ⟨d0, d1⟩ := ((hx.now hb).now b0).cells
  have HF := Lib.hid (fun W => isFor_any n k a b W h1 hn)
  generalize clueB n (k, a, b) = r at *
  clear hx
  go_enter Try.func141, Try.ntmps141
  go_wp2_with fail
  refine (HF.out _).mono ?_
  rintro e w1 ⟨rfl, hb1⟩
  go_wp2
  go_ret
  exact ⟨rfl, bfrom b0 hb1⟩

set_option maxRecDepth 20000 in
set_option maxHeartbeats 2000000 in
theorem iIsPuzzle_any (m : Int) (A : Option Addr) (n cap : Nat) (C : List Clu) (w : World) (hl : n ≤ 9223372036854775807) (hk : KCl w A n C) :
    Calls Try.prog 93 #[.agg #[.int .i64 m, .slice A n cap]] w fun e w' => e = .returned (.bool (puzB m C)) ∧ Below w.heap.size w w' := by
  have b0 := below1 w (.cells #[.int .i64 m, .slice A n cap] 28)
  have hx := BoxT.new 28 w (.int .i64 m) (.slice A n cap)
  obtain ⟨c0, c1⟩ := hx.cells
  have HH := Lib.hid (fun W => isHidden_any m W)
  have HK := Lib.hid (hk.now b0)
  have HLEN := Lib.hid hk.1
  clear hk
  cases h : inB m 1 4 with
  | false =>
    have HT := Lib.hid h
    rw [puzB_size h]
    clear h
    go_enter Try.func93, Try.ntmps93
    go_wp2_with fail
    refine (HH.out _).mono ?_
    rintro e w2 ⟨rfl, rfl⟩
    rw [HT.out]
    go_wp2
    go_ret
    exact ⟨rfl, b0⟩
  | true =>
    obtain ⟨q, rfl, h1, h4⟩ := in14 h
    have HT := Lib.hid h
    by_cases h8 : n ≤ 8
    · have HA := Lib.hid (containsU_any _ _ _ _ A n cap C _ hl HK.out (isPuzzle1_asks q _ _ _ h1 h4 hx))
      rw [puzB_at h (by rw [HLEN.out]; exact h8), HLEN.out]
      clear h hx
      generalize anyU (fun c => !clueB q c) C n = r at *
      go_enter Try.func93, Try.ntmps93
      go_wp2_with fail
      refine (HH.out _).mono ?_
      rintro e w2 ⟨rfl, rfl⟩
      rw [HT.out]
      go_wp2_with fail
      refine HA.out.mono ?_
      rintro e w3 ⟨rfl, hb3⟩
      go_wp2
      go_ret
      exact ⟨rfl, bfrom b0 hb3⟩
    · rw [puzB_long (by rw [HLEN.out]; exact h8)]
      have h9 : ¬ (n : Int) ≤ 8 := by omega
      clear h hx
      go_enter Try.func93, Try.ntmps93
      go_wp2_with fail
      refine (HH.out _).mono ?_
      rintro e w2 ⟨rfl, rfl⟩
      rw [HT.out]
      go_wp2
      go_ret
      exact ⟨by first | rfl | simp [h9], b0⟩

set_option maxRecDepth 20000 in
set_option maxHeartbeats 4000000 in
theorem pzGood_any (m : Int) (A : Option Addr) (n cap : Nat) (C : List Clu) (w : World) (hl : n ≤ 9223372036854775807) (hk : KCl w A n C) :
    Calls Try.prog 48 #[.agg #[.int .i64 m, .slice A n cap]] w fun e w' => e = .returned (.bool (puzB m C)) ∧ Below w.heap.size w w' := by
  have b0 := below1 w (.cells #[.int .i64 m, .slice A n cap] 28)
  have hx := BoxT.new 28 w (.int .i64 m) (.slice A n cap)
  have hg := hx.lt
  obtain ⟨c0, c1⟩ := hx.cells
  have HX := Lib.hid (show ∀ W, Below w.heap.size.succ (w.alloc (.cells #[.int .i64 m, .slice A n cap] 28)) W → W.cell? ⟨w.heap.size, 0, none⟩ = some (.int .i64 m) ∧ W.cell? ⟨w.heap.size, 1, none⟩ = some (.slice A n cap) from fun W h => (hx.of_below h (Nat.lt_succ_self _)).cells)
  have HH := Lib.hid (fun W => pzMembers_any m W)
  have HK := Lib.hid (hk.now b0)
  have HLEN := Lib.hid hk.1
  clear hk
  cases h : inB m 1 4 with
  | false =>
    have HT := Lib.hid h
    rw [puzB_size h]
    clear h
    go_enter Try.func48, Try.ntmps48
    go_wp2_with fail
    refine (HH.out _).mono ?_
    rintro e w2 ⟨rfl, rfl⟩
    rw [HT.out]
    go_wp2
    go_ret
    exact ⟨rfl, b0⟩
  | true =>
    obtain ⟨q, rfl, h1, h4⟩ := in14 h
    have HT := Lib.hid h
    by_cases h8 : n ≤ 8
    · have HR := Lib.hid (puzB_at h (C := C) (by rw [HLEN.out]; exact h8))
      rw [HLEN.out] at HR
      have HF := Lib.hid (fun k a b W => pzClue_any q k a b W h1 h4)
      have h9 : ¬ (8 : Int) < (n : Int) := by omega
      clear h hx h8
      go_enter Try.func48, Try.ntmps48
      go_wp2_with fail
      refine (HH.out _).mono ?_
      rintro e w2 ⟨rfl, rfl⟩
      rw [HT.out]
      go_wp2_with fail
      go_loopw [18] (fun i wr => ∃ j : Nat, j ≤ n ∧ i = .int .i64 j ∧ (∀ t, t < j → clueB q (cAt C t) = true) ∧ Below (w.heap.size + 1) (w.alloc (.cells #[.int .i64 q, .slice A n cap] 28)) wr) (fun i _ => n - (intOf i).toNat)
      case atStart => exact ⟨0, Nat.zero_le _, rfl, fun _ h => by omega, Below.refl _ _⟩
      case round =>
        obtain ⟨j, hj, rfl, hno, hb⟩ := hrel
        have HS := Lib.hid hno
        clear hno
        clear c0 c1
        have hb' := hb
        rw [show w.heap.size + 1 = (w.alloc (.cells #[.int .i64 q, .slice A n cap] 28)).heap.size from (World.size_alloc _ _).symm] at hb'
        by_cases hlt : j < n
        · obtain ⟨b, off, rfl, hcl⟩ := (HK.out.now hb').get (by omega)
          obtain ⟨hc0, hc1, hc2⟩ := hcl.at hlt
          have hbl := hcl.lt
          clear hcl
          obtain ⟨c0, c1⟩ := HX.out wr hb
          obtain ⟨c, hc⟩ : ∃ c, c = cAt C j := ⟨_, rfl⟩
          rw [← hc] at hc0 hc1 hc2
          have HCC := Lib.hid hc
          clear hc
          obtain ⟨x, y, z⟩ := c
          simp only at hc0 hc1 hc2
          have bb := below1 wr (.cells #[.int .i64 x, .int .i64 y, .int .i64 z] 130)
          have hbs := hb.size
          simp only [World.size_alloc] at hbs
          have hb2 := hb.trans (bb.mono hbs)
          obtain ⟨e0, e1, e2⟩ := (Bx3.new 130 wr (.int .i64 x) (.int .i64 y) (.int .i64 z)).cells
          obtain ⟨d0, d1⟩ := HX.out _ hb2
          have HFF := Lib.hid (fun W => HF.out x y z W)
          clear hb'
          cases hp : clueB q (x, y, z) with
          | false =>
            rw [hp] at HFF
            have HRR := Lib.hid (show puzB (q : Int) C = false from by rw [HR.out, anyU_yes (p := fun c => !clueB q c) hlt (by rw [← HCC.out, hp]; rfl)]; rfl)
            clear hp
            go_wp2_with fail
            refine (HFF.out _).mono ?_
            rintro e w3 ⟨rfl, hb3⟩
            go_wp2
            go_ret
            exact ⟨by rw [HRR.out]; rfl, b0.trans ((hb2.trans (hb3.mono (by simpa using hb2.size))).mono (by simp))⟩
          | true =>
            rw [hp] at HFF
            have HW := Lib.hid (show ∀ t, t < j + 1 → clueB q (cAt C t) = true from fun t ht => by
              by_cases e : t = j
              · subst e; rw [← HCC.out]; exact hp
              · exact HS.out t (by omega))
            clear hp
            go_wp2_with fail
            refine (HFF.out _).mono ?_
            rintro e w3 ⟨rfl, hb3⟩
            go_wp2
            go_roundw
            case rel => exact ⟨j + 1, by omega, by go_num, HW.out, hb2.trans (hb3.mono (by simpa using hb2.size))⟩
            case measure => simp [intOf]; omega
        · obtain rfl : j = n := by omega
          have HRR := Lib.hid (show puzB (q : Int) C = true from by rw [HR.out, anyU_no (p := fun c => !clueB q c) (fun t ht => by rw [HS.out t ht]; rfl)]; rfl)
          go_wp2
          go_ret
          exact ⟨by rw [HRR.out]; rfl, b0.trans (hb.mono (by simp))⟩
    · rw [puzB_long (by rw [HLEN.out]; exact h8)]
      have h9 : (8 : Int) < (n : Int) := by omega
      clear h hx
      go_enter Try.func48, Try.ntmps48
      go_wp2_with fail
      refine (HH.out _).mono ?_
      rintro e w2 ⟨rfl, rfl⟩
      rw [HT.out]
      go_wp2
      go_ret
      exact ⟨rfl, b0⟩

end Go.Proofs.Ytnldodnpakpeeaa

namespace Go.Proofs.Ytnldodnpakpeeaa
open Go.RowKit Vo

theorem run_copy_k {P : Program} (w : World) (dT sT ty elem : TypeId) (k g o dLen dCap : Nat) (a : Addr) (sLen sCap : Nat) (cur : Array Value) (t : TypeId) (cs : List Value)
    (hu : P.underlying dT = some (.slice elem)) (hs : (P.info? elem).map (·.size) = some k)
    (hg : w.heap[g]? = some (.cells cur t (0, 0))) (hn : cs.length = Nat.min sLen dLen * k)
    (hsrc : ∀ j v, cs[j]? = some v → w.cell? (a.add j) = some v) (hfit : o + cs.length ≤ cur.size) (h1 : ∀ v ∈ cs, v.oneCell' = true) :
    (Builtin.copy_ #[dT, sT] ty #[.slice (some ⟨g, o, none⟩) dLen dCap, .slice (some a) sLen sCap]).run P w =
      .ok (goInt (Nat.min sLen dLen)) (w.setRow g (cur.toList.take o ++ cs ++ cur.toList.drop (o + cs.length)).toArray) := by
  have hl := run_loadCells_list (P := P) w a cs hsrc
  have hst := run_storeCells_at P g o t cs 0 cur w hg (by simpa using hfit) h1
  cases hq : P.info? elem with
  | none => simp [hq] at hs
  | some i =>
    have hi : i.size = k := by simpa [hq] using hs
    simp [Builtin.copy_, run_underlying hu, Builtin.lenOf, Builtin.firstCells, sizeOf, typeInfo, hq, hi, ← hn, hl, hst]
theorem run_copy_0 {P : Program} (w : World) (dT sT ty elem : TypeId) (k : Nat) (d a : Option Addr) (dLen dCap sLen sCap : Nat) (hu : P.underlying dT = some (.slice elem)) (hs : (P.info? elem).map (·.size) = some k) (hn : Nat.min sLen dLen = 0) :
    (Builtin.copy_ #[dT, sT] ty #[.slice d dLen dCap, .slice a sLen sCap]).run P w = .ok (goInt 0) w := by
  cases hq : P.info? elem with
  | none => simp [hq] at hs
  | some i =>
    have hl : ∀ (x : Addr), (loadCells x 0).run P w = .ok #[] w := fun x => by simpa using run_loadCells_list (P := P) w x [] (by simp)
    cases d <;> cases a <;> simp [Builtin.copy_, run_underlying hu, Builtin.lenOf, Builtin.firstCells, sizeOf, typeInfo, hq, hn, storeCells, hl]

/-- copy(dst, src) of n elements of k cells each into a row of its own of just as many. -/
theorem wpList_copy_all {P : Program} {w : World} {ops : Array Oper} {rest : List Oper} {o : Oper} {a : Act} {Q : Exit → Act → World → Prop} (hgd : o.guard = none) (d s : Operand) (dT sT : TypeId)
    (ho : o.op = .call { callee := .builtin .copy, args := #[d, s], argTypes := #[dT, sT] }) (elem : TypeId) (hu : P.underlying dT = some (.slice elem)) (k : Nat) (hsz : (P.info? elem).map (·.size) = some k)
    (n sCap : Nat) (sp : Option Addr) (g : Nat) (hd : a.eval d = .slice (some ⟨g, 0, none⟩) n n) (hs : a.eval s = .slice sp n sCap)
    (cur : Array Value) (t : TypeId) (hg : w.heap[g]? = some (.cells cur t (0, 0))) (hcur : cur.size = n * k) (cs : List Value) (hn : cs.length = n * k)
    (hpos : 0 < n → ∃ ad, sp = some ad ∧ ∀ j v, cs[j]? = some v → w.cell? (ad.add j) = some v)
    (h1 : ∀ v ∈ cs, v.oneCell' = true) (B : Nat) (w0 : World) (hb : Below B w0 w) (hBg : B ≤ g)
    (h : ∀ w', Hid (w'.heap[g]? = some (.cells cs.toArray t (0, 0))) → Below B w0 w' → wpList P ops Q rest (a.put o.dst (goInt n)) w') :
    wpList P ops Q (o :: rest) a w := by
  have hmin : Nat.min n n = n := Nat.min_self n
  by_cases h0 : n = 0
  · subst h0
    refine wpList_plain hgd fun K hK => ?_
    have hrun := run_copy_0 (P := P) w dT sT o.type elem k (some ⟨g, 0, none⟩) sp 0 0 0 sCap hu hsz rfl
    unfold Oper.wp
    simp [execOp, ho, resolve, invoke, builtin, hd, hs, hrun, Result.andThen]
    refine hK _ _ (h w ?_ hb)
    show _ = _
    have e : cs = [] := List.eq_nil_of_length_eq_zero (by omega)
    have e2 : cur = #[] := Array.eq_empty_of_size_eq_zero (by omega)
    rw [hg, e, e2]
  · obtain ⟨ad, rfl, hsrc⟩ := hpos (by omega)
    refine wpList_plain hgd fun K hK => ?_
    have hrun := run_copy_k (P := P) w dT sT o.type elem k g 0 n n ad n sCap cur t cs hu hsz hg (by rw [hmin]; exact hn) hsrc (by omega) h1
    rw [hmin] at hrun
    unfold Oper.wp
    simp [execOp, ho, resolve, invoke, builtin, hd, hs, hrun, Result.andThen]
    have e : (cs ++ cur.toList.drop cs.length).toArray = cs.toArray := by
      rw [List.drop_eq_nil_of_le (by simp; omega), List.append_nil]
    refine hK _ _ (h _ ?_ (below_setRow hb hBg _))
    show _ = _
    have := setRow_heap w g cur (cs ++ cur.toList.drop cs.length).toArray t _ hg
    simpa [e] using this

theorem owns_far_ {w : World} {base : Nat} {e : TypeId} {size : Nat} {g n m cap : Nat} {xs : List Value} (h : w.ownsRow base e size (.slice (some ⟨g, 0, none⟩) n cap) m xs) {p : Addr} (hp : g ≠ p.block) (u : Value) : (w.setCell p u).ownsRow base e size (.slice (some ⟨g, 0, none⟩) n cap) m xs := by
  obtain ⟨h1, h2⟩ := h
  refine ⟨h1, ?_⟩
  rcases h2 with h2 | ⟨g', cap', cur, hv, hg, hh, r⟩
  · exact Or.inl h2
  · have hv' := hv
    injection hv' with hv1
    injection hv1 with hv1
    injection hv1 with hv1
    subst hv1
    exact Or.inr ⟨g, cap', cur, hv, hg, (Below.heap_setCell w p u g hp).trans hh, r⟩
/-- The cells of some clues. -/
def cluesV (C : List Clu) : List Value := (List.range (3 * C.length)).map fun i => .int .i64 (clF C i)
theorem cluesV_len (C : List Clu) : (cluesV C).length = 3 * C.length := by simp [cluesV]
theorem cluesV_get (C : List Clu) {i : Nat} (h : i < 3 * C.length) : (cluesV C)[i]? = some (.int .i64 (clF C i)) := by simp [cluesV, h]
theorem cluesV_one (C : List Clu) : ∀ v ∈ cluesV C, v.oneCell' = true := fun v hv => by
  unfold cluesV at hv
  obtain ⟨i, _, rfl⟩ := List.mem_map.1 hv
  rfl
theorem cAt_left {C D : List Clu} {i : Nat} (h : i < C.length) : cAt (C ++ D) i = cAt C i := by
  unfold cAt
  rw [List.getD_eq_getElem?_getD, List.getD_eq_getElem?_getD, List.getElem?_append_left h]
theorem cAt_last (C : List Clu) (c : Clu) : cAt (C ++ [c]) C.length = c := by simp [cAt]
theorem cluesV_snoc (C : List Clu) (c : Clu) : cluesV (C ++ [c]) = cluesV C ++ [.int .i64 c.1, .int .i64 c.2.1, .int .i64 c.2.2] := by
  apply List.ext_getElem?
  intro i
  by_cases hi : i < 3 * C.length
  · rw [cluesV_get _ (by simp; omega), List.getElem?_append_left (by rw [cluesV_len]; exact hi), cluesV_get _ hi]
    unfold clF
    rw [cAt_left (by omega)]
  · rw [List.getElem?_append_right (by rw [cluesV_len]; omega), cluesV_len]
    obtain ⟨r, rfl⟩ : ∃ r, i = C.length * 3 + r := ⟨i - C.length * 3, by omega⟩
    rw [show C.length * 3 + r - 3 * C.length = r by omega]
    match r with
    | 0 => rw [cluesV_get _ (by simp; omega), Nat.add_zero, clF_0, cAt_last]; rfl
    | 1 => rw [cluesV_get _ (by simp; omega), clF_1, cAt_last]; rfl
    | 2 => rw [cluesV_get _ (by simp; omega), clF_2, cAt_last]; rfl
    | k + 3 => rw [List.getElem?_eq_none (by rw [cluesV_len]; simp; omega)]; simp
/-- Clues in a row of the call's own. -/
def OwnCl (w : World) (base : Nat) (v : Value) (C : List Clu) : Prop := w.ownsRow base 130 3 v C.length (cluesV C)
theorem OwnCl.cls {w : World} {base g n cap : Nat} {C : List Clu} (hn : C.length = n) (h : OwnCl w base (.slice (some ⟨g, 0, none⟩) n cap) C) : base ≤ g ∧ Cls w g n C := by
  subst hn
  unfold OwnCl at h
  obtain ⟨h1, h2⟩ := h
  rcases h2 with ⟨h2, _⟩ | ⟨g', cap', cur, hv, hg, hh, h3, h4, h5, h6⟩
  · cases h2
  · injection hv with hv1 hv2 hv3
    injection hv1 with hv1
    injection hv1 with hv1
    subst hv1
    refine ⟨hg, cur, hh, by rw [h5]; omega, fun i hi => ?_⟩
    rw [← cluesV_get C hi, ← h6, List.getElem?_take, if_pos (by omega)]
    simp
theorem OwnCl.rcl {w : World} {base n cap : Nat} {A : Option Addr} {C : List Clu} (hn : C.length = n) (h : OwnCl w base (.slice A n cap) C) : Lies (RCl C base w.heap.size (.slice A n cap)) base w.heap.size w := by
  refine RCl.lies ?_ (Nat.le_refl _)
  subst hn
  refine ⟨A, cap, rfl, ?_⟩
  by_cases h0 : C.length = 0
  · exact Or.inl h0
  · cases A with
    | none =>
      unfold OwnCl at h
      rcases h.2 with ⟨_, h2⟩ | ⟨g', cap', cur, hv, _⟩
      · exact absurd h2 h0
      · cases hv
    | some ad =>
      obtain ⟨g', hA⟩ : ∃ g, ad = ⟨g, 0, none⟩ := by
        unfold OwnCl at h
        rcases h.2 with ⟨hv, _⟩ | ⟨g', cap', cur, hv, _⟩
        · cases hv
        · injection hv with hv; injection hv with hv; exact ⟨g', hv⟩
      subst hA
      obtain ⟨h1, h2⟩ := OwnCl.cls rfl h
      exact Or.inr ⟨g', rfl, h1, Own.lt h2, h2⟩

theorem infoClue3 : (Try.prog.info? 130).map (·.size) = some 3 := by kernel_rfl

set_option maxRecDepth 20000 in
set_option maxHeartbeats 4000000 in
theorem readPuzzle_yes (m : Int) (A : Option Addr) (n cap : Nat) (C : List Clu) (w : World) (hl : n ≤ 1048576) (hk : KCl w A n C) (hp : puzB m C = true) :
    Calls Try.prog 52 #[.agg #[.int .i64 m, .slice A n cap]] w fun e w' => ∃ g, e = .returned (.tuple #[.agg #[.int .i64 m, .slice (some ⟨g, 0, none⟩) n n], .bool true]) ∧ OwnCl w' w.heap.size (.slice (some ⟨g, 0, none⟩) n n) C ∧ Below w.heap.size w w' := by
  have hmk := run_make_clus n hl
  have hlen := hk.1
  have hb2 : Below w.heap.size w ((w.alloc (.cells #[.int .i64 m, .slice A n cap] 28)).alloc (.cells #[.int .i64 0, .slice none 0 0] 28)) := (below1 w _).alloc (by simp) _
  have hx := (BoxT.new 28 w (.int .i64 m) (.slice A n cap)).alloc (.cells #[.int .i64 0, .slice none 0 0] 28)
  have hr := BoxT.new 28 (w.alloc (.cells #[.int .i64 m, .slice A n cap] 28)) (.int .i64 0) (.slice none 0 0)
  simp only [World.size_alloc] at hr
  obtain ⟨c0, c1⟩ := hx.cells
  have HK := Lib.hid (hk.now hb2)
  have HP := Lib.hid (iIsPuzzle_any m A n cap C _ (by omega) HK.out)
  rw [hp] at HP
  have HCL := Lib.hid (cluesV_len C)
  have HC1 := Lib.hid (cluesV_one C)
  have HCG := Lib.hid (fun i (h : i < 3 * C.length) => cluesV_get C h)
  obtain ⟨cs, hcs⟩ : ∃ cs, cs = cluesV C := ⟨_, rfl⟩
  rw [← hcs] at HCL HC1 HCG
  have HCS := Lib.hid hcs
  have HLEN := Lib.hid hlen
  clear hk hp hcs hlen
  go_enter Try.func52, Try.ntmps52
  go_wp2_with fail
  refine HP.out.mono ?_
  rintro e w1 ⟨rfl, hb1⟩
  have hx1 := hx.now hb1
  have hr1 := hr.now hb1
  have hz1 := hb1.size
  simp only [World.size_alloc] at hz1
  have b1 := bfrom hb2 hb1
  have bm := below1 w1 (.cells (madeCells #[.int .i64 0, .int .i64 0, .int .i64 0] (n * 3)) 130)
  have HK3 := Lib.hid ((HK.out.now hb1).now bm)
  have hx3 := hx1.now bm
  have hr3 := hr1.now bm
  have b3 := bfrom b1 bm
  have hg3 := Lib.hid (heap_alloc_new w1 (.cells (madeCells #[.int .i64 0, .int .i64 0, .int .i64 0] (n * 3)) 130))
  have HMS := Lib.hid (show (madeCells #[.int .i64 0, .int .i64 0, .int .i64 0] (n * 3)).size = n * 3 from size_madeCells _ _)
  clear c0 c1 hx hr hb1 hb2 bm b1
  obtain ⟨c0, c1⟩ := hx1.cells
  obtain ⟨d0, d1⟩ := hx3.cells
  go_wp2_with (with_reducible refine wpList_copy_all rfl _ _ 26 26 rfl 130 Try.underlying26 3 infoClue3 n cap A w1.heap.size rfl rfl _ 130 hg3.out HMS.out cs ?hn ?hpos HC1.out w1.heap.size _ (Below.refl _ _) (Nat.le_refl _) ?_)
  case hn => rw [HCL.out, HLEN.out]; omega
  case hpos =>
    intro h0
    obtain ⟨b, off, rfl, hcl⟩ := HK3.out.get (by omega)
    refine ⟨_, rfl, fun j v hv => ?_⟩
    have hj : j < 3 * C.length := by
      have := (List.getElem?_eq_some_iff.1 hv).1
      rw [HCL.out] at this
      exact this
    rw [HCG.out j hj] at hv
    injection hv with hv
    rw [← hv]
    have := hcl.cell j (by rw [← HLEN.out]; exact hj)
    rw [show (⟨b, off, none⟩ : Addr).add j = ⟨b, off + j, none⟩ from by unfold Addr.add; split <;> simp_all]
    exact this
  intro w4 hg4 hb4
  have HG4 := Lib.hid (show OwnCl w4 w.heap.size (.slice (some ⟨w1.heap.size, 0, none⟩) n n) C from by
    rw [show OwnCl w4 w.heap.size (.slice (some ⟨w1.heap.size, 0, none⟩) n n) C = w4.ownsRow w.heap.size 130 3 (.slice (some ⟨w1.heap.size, 0, none⟩) n n) n (cluesV C) from by unfold OwnCl; rw [HLEN.out]]
    refine ⟨by rw [cluesV_len, HLEN.out]; omega, Or.inr ⟨w1.heap.size, n, cs.toArray, rfl, by omega, hg4.out, Nat.le_refl _, by unfold maxLen; omega, by rw [List.size_toArray, HCL.out, HLEN.out]; omega, ?_⟩⟩
    rw [List.take_of_length_le (by rw [HCL.out, HLEN.out]; omega)]
    exact HCS.out)
  have hx4 := hx3.of_below hb4 (by omega)
  have hr4 := hr3.of_below hb4 (by omega)
  have b4 := b3.trans (hb4.mono (by omega))
  have hz4 := b4.size
  have hlt : w1.heap.size < w4.heap.size := (Array.getElem?_eq_some_iff.1 hg4.out).1
  have hf4 : w4.frozen? ⟨w.heap.size + 1, 0, none⟩ = false ∧ w4.frozen? ⟨w.heap.size + 1, 1, none⟩ = false := by
    have := hr4
    unfold BoxT at this; exact ⟨by simp [World.frozen?, this], by simp [World.frozen?, this]⟩
  obtain ⟨f0, f1⟩ := hf4
  obtain ⟨r0, r1⟩ := hr4.cells
  clear hg4 c0 c1 d0 d1
  obtain ⟨c0, c1⟩ := hx4.cells
  go_wp2
  refine bodyPost_ret (v := .tuple #[.agg #[.int .i64 m, .slice (some ⟨w1.heap.size, 0, none⟩) n n], .bool true]) (by simp [results, Try.results52, go_sem, r0, r1]) rfl ⟨w1.heap.size, rfl, ?_, ?_⟩
  · exact owns_far_ (owns_far_ HG4.out (by simp; omega) _) (by simp; omega) _
  · exact (b4.setCell (by simp) _).setCell (by simp) _
end Go.Proofs.Ytnldodnpakpeeaa
