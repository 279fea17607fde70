/- The least sets that win where some sets do. -/
import Derived.Test.YtipplbcjdcdapaaJ2
import Derived.Outline
namespace Go.Proofs.Ytipplbcjdcdapaa
open Go.RowKit Vo

theorem sub_out {s t k : Nat} (_hs : s < 512) (ht : t < 512) (hk : k < 9) (hp : s &&& t = t) (hb : t.testBit k = false) : out s k &&& t = t := by
  apply Nat.eq_of_testBit_eq
  intro i
  have h1 := congrArg (fun x => x.testBit i) hp
  simp only [Nat.testBit_and] at h1 ⊢
  by_cases hi : i < 64
  · rw [testBit_out (by omega) hi]
    by_cases e : i = k
    · subst e; rw [hb]; simp
    · simp [e]; simpa using h1
  · have h2 : t.testBit i = false := Nat.testBit_lt_two_pow (Nat.lt_of_lt_of_le (show t < 2^9 by omega) (Nat.pow_le_pow_right (by omega) (by omega)))
    rw [h2]; simp
theorem out_sub {s t k : Nat} (_hs : s < 512) (ht : t < 512) (hk : k < 9) (hp : out s k &&& t = t) : s &&& t = t ∧ t.testBit k = false := by
  constructor
  · apply Nat.eq_of_testBit_eq
    intro i
    have h1 := congrArg (fun x => x.testBit i) hp
    simp only [Nat.testBit_and] at h1 ⊢
    by_cases hi : i < 64
    · rw [testBit_out (by omega) hi] at h1
      cases h2 : t.testBit i
      · simp
      · rw [h2] at h1; simp at h1; simp [h1.1]
    · have h2 : t.testBit i = false := Nat.testBit_lt_two_pow (Nat.lt_of_lt_of_le (show t < 2^9 by omega) (Nat.pow_le_pow_right (by omega) (by omega)))
      rw [h2]; simp
  · have h1 := congrArg (fun x => x.testBit k) hp
    simp only [Nat.testBit_and] at h1
    rw [testBit_out (by omega) (by omega)] at h1
    simpa using h1.symm
theorem bit_apart {s t n : Nat} (hs : s < 2^n) (ht : t < 2^n) (hp : s &&& t = t) (hne : t ≠ s) : ∃ k, k < n ∧ s.testBit k = true ∧ t.testBit k = false := by
  refine Classical.byContradiction fun h => hne (Nat.eq_of_testBit_eq fun i => ?_)
  by_cases hi : i < n
  · have h1 := congrArg (fun x => x.testBit i) hp
    simp only [Nat.testBit_and] at h1
    cases h2 : s.testBit i
    · rw [h2] at h1; simpa using h1.symm
    · cases h3 : t.testBit i
      · exact absurd ⟨i, hi, h2, h3⟩ h
      · rfl
  · rw [Nat.testBit_lt_two_pow (Nat.lt_of_lt_of_le ht (Nat.pow_le_pow_right (by omega) (by omega))), Nat.testBit_lt_two_pow (Nat.lt_of_lt_of_le hs (Nat.pow_le_pow_right (by omega) (by omega)))]
theorem winS_iff {S : List Nat} {s : Nat} : winS S s = true ↔ ∃ t ∈ S, s &&& t = t := by
  unfold winS; rw [List.any_eq_true]
  constructor
  · rintro ⟨t, h, h2⟩; exact ⟨t, h, partB_iff.1 h2⟩
  · rintro ⟨t, h, h2⟩; exact ⟨t, h, partB_iff.2 h2⟩
/-- The least sets that win where some sets do are the least of these. -/
theorem least_win {S : List Nat} {n : Nat} (hn : n ≤ 9) (hS : ∀ s ∈ S, s < 2^n) : (inOrder n).filter (leastP (winS S) n) = leastL (inS S) := by
  have h512 := pow_lt hn
  have hI : ∀ s, inS S s = true → s < 512 := fun s h => by have := hS s (inS_iff.1 h); omega
  refine leastL_unique hI ?_ fun s => ?_
  · have := filter_sorted n (leastP (winS S) n)
    have e : ((inOrder n).filter (leastP (winS S) n)).map (fun t => mem t n) = ((inOrder n).filter (leastP (winS S) n)).map fun t => mem t 9 := List.map_congr_left fun t ht => (mem_stop (mem_inOrder.1 (List.mem_filter.1 ht).1) hn).symm
    rw [← e]; exact this
  · rw [List.mem_filter, mem_inOrder, minB_iff hI, inS_iff]
    unfold leastP noneOut
    rw [Bool.and_eq_true, allK_iff, winS_iff]
    constructor
    · rintro ⟨hs, ⟨t, ht, hp⟩, hno⟩
      have key : ∀ u ∈ S, s &&& u = u → u = s := fun u hu hpu => Classical.byContradiction fun hne => by
        obtain ⟨k, hk, h1, h2⟩ := bit_apart hs (hS u hu) hpu hne
        have h3 := hno k hk
        have h4 : winS S (out s k) = true := winS_iff.2 ⟨u, hu, sub_out (by omega) (by have := hS u hu; omega) (by omega) hpu h2⟩
        rw [h1, h4] at h3; cases h3
      have e := key t ht hp
      subst e
      exact ⟨ht, fun u hu hne hpu => hne (key u (inS_iff.1 hu) hpu)⟩
    · rintro ⟨hs, hno⟩
      have hs2 := hS s hs
      refine ⟨hs2, ⟨s, hs, Nat.and_self s⟩, fun k hk => ?_⟩
      cases hb : s.testBit k
      · rfl
      · cases hw : winS S (out s k)
        · rfl
        · obtain ⟨u, hu, hpu⟩ := winS_iff.1 hw
          obtain ⟨h1, h2⟩ := out_sub (by omega) (by have := hS u hu; omega) (by omega) hpu
          exact absurd h1 (fun h1 => hno u (inS_iff.2 hu) (fun e => by rw [e, hb] at h2; cases h2) h1)

end Go.Proofs.Ytipplbcjdcdapaa
