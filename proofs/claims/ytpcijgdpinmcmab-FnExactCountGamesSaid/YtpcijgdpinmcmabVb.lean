/- The model's CountGames and CountProperGames. -/
import Derived.Test.YtpcijgdpinmcmabVa
import Derived.Outline
namespace Go.Proofs.Ytpcijgdpinmcmab
open Go.RowKit Vo

/-- How many games, or proper games, of z members there are. -/
def gamesC (pr : Bool) (z : Int) : Nat := if inB z 1 4 then eachK (2^z.toNat) z.toNat pr (2^z.toNat) 0 else 0
theorem gamesC_at : (gamesC false 1, gamesC false 2, gamesC false 3, gamesC false 4) = (1, 4, 18, 166) := by decide +kernel
theorem gamesC_proper : (gamesC true 1, gamesC true 2, gamesC true 3, gamesC true 4) = (1, 3, 11, 80) := by decide +kernel

set_option maxRecDepth 20000 in
set_option maxHeartbeats 2000000 in
theorem sCountGames_any (z : Int) (w : World) :
    Calls Try.prog 49 #[.int .i64 z] w fun e w' => e = .returned (.tuple #[.int .i64 (gamesC false z), .bool (inB z 1 4)]) ∧ Below w.heap.size w w' := by
  cases hz : inB z 1 4 with
  | false =>
    have HG := Lib.hid (show gamesC false z = 0 from by unfold gamesC; rw [hz]; rfl)
    have HZ := Lib.hid hz
    go_enter Try.func49, Try.ntmps49
    go_wp2_with (first | (go_at_call 75; refine (l1In_any z 1 4 _).mono ?_; rintro e w1 ⟨rfl, rfl⟩; rw [HZ.out]))
    go_ret2
    exact ⟨by rw [HG.out]; rfl, Below.refl _ _⟩
  | true =>
    obtain ⟨n, rfl⟩ : ∃ n : Nat, z = n := ⟨z.toNat, by simp only [inB, Bool.and_eq_true, decide_eq_true_iff] at hz; omega⟩
    have hn1 : 1 ≤ n := by simp only [inB, Bool.and_eq_true, decide_eq_true_iff] at hz; omega
    have hn : n ≤ 4 := by simp only [inB, Bool.and_eq_true, decide_eq_true_iff] at hz; omega
    have HG := Lib.hid (show gamesC false (n : Int) = eachK (2^n) n false (2^n) 0 from by unfold gamesC; rw [hz, Int.toNat_natCast]; rfl)
    have HZ := Lib.hid hz
    clear hz
    have HE := Lib.hid (fun g cap W h => gmEach_any (2^n) n false rfl hn1 hn (2^n) 0 0 g cap W (by omega) (by omega) h)
    have hN16 : 2^n ≤ 16 := Nat.pow_le_pow_right (n := 2) (by omega) hn
    have hpos := Nat.two_pow_pos n
    have hpc : (2 : Int)^n = ((2^n : Nat) : Int) := by simp
    generalize eachK (2^n) n false (2^n) 0 = r at *
    obtain ⟨N, hN⟩ : ∃ N, N = 2^n := ⟨_, rfl⟩
    rw [← hN] at hpc HE hN16 hpos
    clear hN
    have hmk := run_make_row' (P := Try.prog) 96 4 (.bool false) 1 Try.underlying96 infoBool rfl .i64 .i64 N (by omega) (by omega)
    have HO1 := Lib.hid (show Own (w.alloc (.cells (madeCells #[.bool false] N) 4)) w.heap.size 4 N (bits 0) from (Own.of_row (World.rowIs_made w (.bool false) N 4)).ext fun j _ => by simp [bits])
    go_enter Try.func49, Try.ntmps49
    go_wp2_with (first
      | (go_at_call 75; refine (l1In_any n 1 4 _).mono ?_; rintro e w1 ⟨rfl, rfl⟩; rw [HZ.out])
      | (go_at_call 76; refine (HE.out w.heap.size N _ HO1.out).mono ?_; rintro e w2 ⟨rfl, hO2, hg2⟩))
    go_ret2
    exact ⟨by rw [HG.out]; rfl, (below1 w (.cells (madeCells #[.bool false] N) 4)).grown hg2 (by simp) fun i hi => by injection hi with hi; omega⟩
set_option maxRecDepth 20000 in
set_option maxHeartbeats 2000000 in
theorem sCountProperGames_any (z : Int) (w : World) :
    Calls Try.prog 51 #[.int .i64 z] w fun e w' => e = .returned (.tuple #[.int .i64 (gamesC true z), .bool (inB z 1 4)]) ∧ Below w.heap.size w w' := by
  cases hz : inB z 1 4 with
  | false =>
    have HG := Lib.hid (show gamesC true z = 0 from by unfold gamesC; rw [hz]; rfl)
    have HZ := Lib.hid hz
    go_enter Try.func51, Try.ntmps51
    go_wp2_with (first | (go_at_call 75; refine (l1In_any z 1 4 _).mono ?_; rintro e w1 ⟨rfl, rfl⟩; rw [HZ.out]))
    go_ret2
    exact ⟨by rw [HG.out]; rfl, Below.refl _ _⟩
  | true =>
    obtain ⟨n, rfl⟩ : ∃ n : Nat, z = n := ⟨z.toNat, by simp only [inB, Bool.and_eq_true, decide_eq_true_iff] at hz; omega⟩
    have hn1 : 1 ≤ n := by simp only [inB, Bool.and_eq_true, decide_eq_true_iff] at hz; omega
    have hn : n ≤ 4 := by simp only [inB, Bool.and_eq_true, decide_eq_true_iff] at hz; omega
    have HG := Lib.hid (show gamesC true (n : Int) = eachK (2^n) n true (2^n) 0 from by unfold gamesC; rw [hz, Int.toNat_natCast]; rfl)
    have HZ := Lib.hid hz
    clear hz
    have HE := Lib.hid (fun g cap W h => gmEach_any (2^n) n true rfl hn1 hn (2^n) 0 0 g cap W (by omega) (by omega) h)
    have hN16 : 2^n ≤ 16 := Nat.pow_le_pow_right (n := 2) (by omega) hn
    have hpos := Nat.two_pow_pos n
    have hpc : (2 : Int)^n = ((2^n : Nat) : Int) := by simp
    generalize eachK (2^n) n true (2^n) 0 = r at *
    obtain ⟨N, hN⟩ : ∃ N, N = 2^n := ⟨_, rfl⟩
    rw [← hN] at hpc HE hN16 hpos
    clear hN
    have hmk := run_make_row' (P := Try.prog) 96 4 (.bool false) 1 Try.underlying96 infoBool rfl .i64 .i64 N (by omega) (by omega)
    have HO1 := Lib.hid (show Own (w.alloc (.cells (madeCells #[.bool false] N) 4)) w.heap.size 4 N (bits 0) from (Own.of_row (World.rowIs_made w (.bool false) N 4)).ext fun j _ => by simp [bits])
    go_enter Try.func51, Try.ntmps51
    go_wp2_with (first
      | (go_at_call 75; refine (l1In_any n 1 4 _).mono ?_; rintro e w1 ⟨rfl, rfl⟩; rw [HZ.out])
      | (go_at_call 76; refine (HE.out w.heap.size N _ HO1.out).mono ?_; rintro e w2 ⟨rfl, hO2, hg2⟩))
    go_ret2
    exact ⟨by rw [HG.out]; rfl, (below1 w (.cells (madeCells #[.bool false] N) 4)).grown hg2 (by simp) fun i hi => by injection hi with hi; omega⟩

/-- The program's games, each by its least sets: those that begin so, and go on with some of these sets. -/
def deepK : Nat → List Nat → List Nat → List (List Nat)
  | 0, _, _ => []
  | _+1, _, [] => []
  | d+1, begin, s :: left => ((begin ++ [s]) :: deepK d (begin ++ [s]) (left.filter fun t => !(s &&& t == t || t &&& s == s))) ++ deepK d begin left
theorem deepK_at : ((deepK 16 [] ((inOrder 1).drop 1)).length, (deepK 16 [] ((inOrder 2).drop 1)).length, (deepK 16 [] ((inOrder 3).drop 1)).length, (deepK 16 [] ((inOrder 4).drop 1)).length) = (1, 4, 18, 166) := by decide +kernel
end Go.Proofs.Ytpcijgdpinmcmab
