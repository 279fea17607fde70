/- Contracts of GameOfSets: the program's and the model's. -/
import Derived.Test.YtbkjogehcoobaaaJ2
import Derived.Test.YtbkjogehcoobaaaA5
import Derived.Outline
namespace Go.Proofs.Ytbkjogehcoobaaa
open Go.RowKit Vo

theorem sub_out {s t k : Nat} (_hs : s < 512) (ht : t < 512) (hk : k < 9) (hp : s &&& t = t) (hb : t.testBit k = false) : out s k &&& t = t := by
  apply Nat.eq_of_testBit_eq
  intro i
  have h1 := congrArg (fun x => x.testBit i) hp
  simp only [Nat.testBit_and] at h1 ⊢
  by_cases hi : i < 64
  · rw [testBit_out (by omega) hi]
    by_cases e : i = k
    · subst e; rw [hb]; simp
    · simp [e]; simpa using h1
  · have h2 : t.testBit i = false := Nat.testBit_lt_two_pow (Nat.lt_of_lt_of_le (show t < 2^9 by omega) (Nat.pow_le_pow_right (by omega) (by omega)))
    rw [h2]; simp
theorem out_sub {s t k : Nat} (_hs : s < 512) (ht : t < 512) (hk : k < 9) (hp : out s k &&& t = t) : s &&& t = t ∧ t.testBit k = false := by
  constructor
  · apply Nat.eq_of_testBit_eq
    intro i
    have h1 := congrArg (fun x => x.testBit i) hp
    simp only [Nat.testBit_and] at h1 ⊢
    by_cases hi : i < 64
    · rw [testBit_out (by omega) hi] at h1
      cases h2 : t.testBit i
      · simp
      · rw [h2] at h1; simp at h1; simp [h1.1]
    · have h2 : t.testBit i = false := Nat.testBit_lt_two_pow (Nat.lt_of_lt_of_le (show t < 2^9 by omega) (Nat.pow_le_pow_right (by omega) (by omega)))
      rw [h2]; simp
  · have h1 := congrArg (fun x => x.testBit k) hp
    simp only [Nat.testBit_and] at h1
    rw [testBit_out (by omega) (by omega)] at h1
    simpa using h1.symm
theorem bit_apart {s t n : Nat} (hs : s < 2^n) (ht : t < 2^n) (hp : s &&& t = t) (hne : t ≠ s) : ∃ k, k < n ∧ s.testBit k = true ∧ t.testBit k = false := by
  refine Classical.byContradiction fun h => hne (Nat.eq_of_testBit_eq fun i => ?_)
  by_cases hi : i < n
  · have h1 := congrArg (fun x => x.testBit i) hp
    simp only [Nat.testBit_and] at h1
    cases h2 : s.testBit i
    · rw [h2] at h1; simpa using h1.symm
    · cases h3 : t.testBit i
      · exact absurd ⟨i, hi, h2, h3⟩ h
      · rfl
  · rw [Nat.testBit_lt_two_pow (Nat.lt_of_lt_of_le ht (Nat.pow_le_pow_right (by omega) (by omega))), Nat.testBit_lt_two_pow (Nat.lt_of_lt_of_le hs (Nat.pow_le_pow_right (by omega) (by omega)))]
theorem winS_iff {S : List Nat} {s : Nat} : winS S s = true ↔ ∃ t ∈ S, s &&& t = t := by
  unfold winS; rw [List.any_eq_true]
  constructor
  · rintro ⟨t, h, h2⟩; exact ⟨t, h, partB_iff.1 h2⟩
  · rintro ⟨t, h, h2⟩; exact ⟨t, h, partB_iff.2 h2⟩
/-- The least sets that win where some sets do are the least of these. -/
theorem least_win {S : List Nat} {n : Nat} (hn : n ≤ 9) (hS : ∀ s ∈ S, s < 2^n) : (inOrder n).filter (leastP (winS S) n) = leastL (inS S) := by
  have h512 := pow_lt hn
  have hI : ∀ s, inS S s = true → s < 512 := fun s h => by have := hS s (inS_iff.1 h); omega
  refine leastL_unique hI ?_ fun s => ?_
  · have := filter_sorted n (leastP (winS S) n)
    have e : ((inOrder n).filter (leastP (winS S) n)).map (fun t => mem t n) = ((inOrder n).filter (leastP (winS S) n)).map fun t => mem t 9 := List.map_congr_left fun t ht => (mem_stop (mem_inOrder.1 (List.mem_filter.1 ht).1) hn).symm
    rw [← e]; exact this
  · rw [List.mem_filter, mem_inOrder, minB_iff hI, inS_iff]
    unfold leastP noneOut
    rw [Bool.and_eq_true, allK_iff, winS_iff]
    constructor
    · rintro ⟨hs, ⟨t, ht, hp⟩, hno⟩
      have key : ∀ u ∈ S, s &&& u = u → u = s := fun u hu hpu => Classical.byContradiction fun hne => by
        obtain ⟨k, hk, h1, h2⟩ := bit_apart hs (hS u hu) hpu hne
        have h3 := hno k hk
        have h4 : winS S (out s k) = true := winS_iff.2 ⟨u, hu, sub_out (by omega) (by have := hS u hu; omega) (by omega) hpu h2⟩
        rw [h1, h4] at h3; cases h3
      have e := key t ht hp
      subst e
      exact ⟨ht, fun u hu hne hpu => hne (key u (inS_iff.1 hu) hpu)⟩
    · rintro ⟨hs, hno⟩
      have hs2 := hS s hs
      refine ⟨hs2, ⟨s, hs, Nat.and_self s⟩, fun k hk => ?_⟩
      cases hb : s.testBit k
      · rfl
      · cases hw : winS S (out s k)
        · rfl
        · obtain ⟨u, hu, hpu⟩ := winS_iff.1 hw
          obtain ⟨h1, h2⟩ := out_sub (by omega) (by have := hS u hu; omega) (by omega) hpu
          exact absurd h1 (fun h1 => hno u (inS_iff.2 hu) (fun e => by rw [e, hb] at h2; cases h2) h1)

set_option maxRecDepth 20000 in
set_option maxHeartbeats 4000000 in
theorem gameOfAny_any (S : List Nat) (n : Int) (base k cap : Nat) (A : Option Addr) (w : World) (hk : k = S.length) (hs : k ≤ 1048576) (hin : ∀ s ∈ S, s < 512) (hown : w.ownsRow base 86 1 (.slice A k cap) k (setsV S)) :
    Calls Try.prog 81 #[.int .i64 n, .slice A k cap] w fun e w' => ∃ B cp, e = .returned (.agg #[.int .i64 n, .slice B (leastL (inS S)).length cp]) ∧ Lies (RSS (setsL (leastL (inS S))) w.heap.size w'.heap.size (.slice B (leastL (inS S)).length cp)) w.heap.size w'.heap.size w' ∧ Below w.heap.size w w' := by
  have hI : ∀ s, inS S s = true → s < 512 := fun s h => hin s (inS_iff.1 h)
  have hr := BoxT.new 48 w (.int .i64 0) (.slice none 0 0)
  have hb0 := below1 w (.cells #[.int .i64 0, .slice none 0 0] 48)
  have KF := Lib.hid (show ∀ W, BoxT 48 W w.heap.size (.int .i64 0) (.slice none 0 0) → (W.frozen? ⟨w.heap.size, 0, none⟩ = false ∧ W.frozen? ⟨w.heap.size, 1, none⟩ = false) from fun W h => by unfold BoxT at h; exact ⟨by simp [World.frozen?, h], by simp [World.frozen?, h]⟩)
  have HL := Lib.hid (show Calls Try.prog 130 #[.slice A k cap] (w.alloc (.cells #[.int .i64 0, .slice none 0 0] 48)) fun e w' => SetsAt (w.heap.size + 1) (leastL (inS S)) (w.alloc (.cells #[.int .i64 0, .slice none 0 0] 48)) w' e from (leastOf_any S base k cap A _ hk hs hin (owns_now hown hb0)).mono fun e w' h => by simp only [World.size_alloc] at h; exact h)
  have hlen : (leastL (inS S)).length ≤ 512 := leastL_len hI
  have HLOW := Lib.hid (leastL_low hI)
  clear hown hk hin hI
  obtain ⟨T, hT⟩ : ∃ T, T = leastL (inS S) := ⟨_, rfl⟩
  rw [← hT] at HL hlen HLOW ⊢
  clear hT
  obtain ⟨j, hj⟩ : ∃ j, j = T.length := ⟨_, rfl⟩
  have HTOLD := Lib.hid (fun (cap : Nat) (A : Option Addr) (base : Nat) W h => told_any T n base j cap A W hj (by omega) (fun i hi => HLOW.out _ (getD_mem (by omega))) h)
  have HJ := Lib.hid hj
  rw [← hj] at hlen ⊢
  clear hj
  go_enter Try.func81, Try.ntmps81
  go_wp2_with fail
  refine HL.out.mono ?_
  rintro e w1 ⟨A1, c1, rfl, hown1, hb1⟩
  rw [← HJ.out] at hown1 ⊢
  have hbw : Below (w.alloc (.cells #[.int .i64 0, .slice none 0 0] 48)).heap.size (w.alloc (.cells #[.int .i64 0, .slice none 0 0] 48)) w1 := by simpa using hb1
  have hr1 := hr.now hbw
  have g1 := bfrom hb0 hbw
  have HO1 := Lib.hid hown1
  have hz1 := hr1.lt
  clear hown1 hb1 hbw hr hb0
  go_wp2_with fail
  refine (HTOLD.out _ _ _ _ HO1.out).mono ?_
  rintro e w2 ⟨B, cp, rfl, hl2, hb2⟩
  have HL2 := Lib.hid hl2
  have hr2 := hr1.now hb2
  have g2 := bfrom g1 hb2
  obtain ⟨f0, f1⟩ := KF.out _ hr2
  obtain ⟨c2, c3⟩ := hr2.cells
  clear hl2 hr1 hr2 hb2
  go_wp2
  refine bodyPost_ret (v := .agg #[.int .i64 n, .slice B j cp]) (by simp [results, Try.results81, go_sem, c2, c3]) rfl ⟨B, cp, rfl, ?_, ?_⟩
  · exact Lies.rss_wide (Lies.far (Lies.far HL2.out (by first | omega | (simp; omega)) _) (by first | omega | (simp; omega)) _) (by omega) (by first | exact Nat.le_refl _ | simp) (by first | exact Nat.le_refl _ | simp)
  · exact (g2.setCell (by simp) _).setCell (by simp) _

/-- The sets of the game of some sets. -/
def ofSets (L : List (List Int)) : List Nat := leastL (inS (setsN L))
theorem ofSets_len {m : Int} {L : List (List Int)} {most : Int} (h : setsB m L most = true) : (ofSets L).length ≤ 512 := by
  obtain ⟨q, _, _, h9, _, _, hr⟩ := setsB_parts h
  exact leastL_len fun s h => setsN_512 h9 hr s (inS_iff.1 h)

end Go.Proofs.Ytbkjogehcoobaaa
