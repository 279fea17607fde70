/- Contracts of QuotaOfGame: the program's and the model's. -/
import Derived.Test.YtldpdjnedoflcabWi
import Derived.Test.YtldpdjnedoflcabWq
import Derived.Test.YtldpdjnedoflcabJb
import Derived.Test.YtldpdjnedoflcabJ2
import Derived.Test.YtldpdjnedoflcabI6
namespace Go.Proofs.Ytldpdjnedoflcab
open Go.RowKit Vo

theorem sets_ne {q : Nat} {L : List (List Int)} (hq : q ≤ 9) (hr : rowsB q L = true) : ∀ s ∈ setsN L, s ≠ 0 := fun s hs e => by
  obtain ⟨l, hl, rfl⟩ : ∃ l ∈ L, ofK l l.length = s := by
    unfold setsN at hs
    obtain ⟨l, hl, e⟩ := List.mem_map.1 hs
    exact ⟨l, hl, e⟩
  have hm := setsN_mem hq hr
  have h0 := (rowsB_row hr hl).1
  have : mem (ofK l l.length) 9 ∈ L := by
    rw [← hm]
    exact List.mem_map.2 ⟨_, List.mem_map.2 ⟨l, hl, rfl⟩, rfl⟩
  have hne := (rowsB_row hr this).1
  rw [e] at hne
  exact hne (by rw [mem_zero]; rfl)
theorem winS_mem {S : List Nat} {s : Nat} : winS S s = true ↔ ∃ t ∈ S, s &&& t = t := by
  unfold winS; rw [List.any_eq_true]
  constructor
  · rintro ⟨t, h, h2⟩; exact ⟨t, h, partB_iff.1 h2⟩
  · rintro ⟨t, h, h2⟩; exact ⟨t, h, partB_iff.2 h2⟩
theorem winS_nil {S : List Nat} (h0 : ∀ s ∈ S, s ≠ 0) : winS S 0 = false := by
  cases h : winS S 0
  · rfl
  · obtain ⟨t, ht, h1⟩ := winS_mem.1 h
    rw [Nat.zero_and] at h1
    exact absurd h1.symm (h0 t ht)
theorem winS_full {S : List Nat} {n : Nat} (hS : ∀ s ∈ S, s < 2^n) (hne : S ≠ []) : winS S (2^n - 1) = true := by
  obtain ⟨t, ht⟩ := List.exists_mem_of_ne_nil _ hne
  refine winS_mem.2 ⟨t, ht, ?_⟩
  rw [Nat.and_comm, Nat.and_two_pow_sub_one_eq_mod, Nat.mod_eq_of_lt (hS t ht)]

/-- What QuotaOfGame answers. -/
def qogOk (m : Int) (L : List (List Int)) (xs : List Int) (k : Nat) : Bool := goodG m L && decide ((k : Int) = m) && numsB 0 1000 xs k && quoOk (lowS (winS (setsN L)) xs k) (highS (winS (setsN L)) xs k)
def qogV (m : Int) (L : List (List Int)) (xs : List Int) (k : Nat) : Int := if qogOk m L xs k then highS (winS (setsN L)) xs k + 1 else 0
theorem qogV_no {m L xs k} (h : qogOk m L xs k = false) : qogV m L xs k = 0 := if_neg (by rw [h]; simp)
theorem qogOk_bad {m L xs k} (h : goodG m L = false) : qogOk m L xs k = false := by unfold qogOk; rw [h]; rfl
theorem qogOk_len {m : Int} {L} {xs : List Int} {k : Nat} (h : ¬ (k : Int) = m) : qogOk m L xs k = false := by unfold qogOk; rw [decide_eq_false h]; simp
theorem qogOk_num {m : Int} {L} {xs : List Int} {k : Nat} (h : numsB 0 1000 xs k = false) : qogOk m L xs k = false := by unfold qogOk; rw [h]; simp
theorem qogOk_yes {L} {xs : List Int} {k : Nat} (hg : goodG (k : Int) L = true) (h : numsB 0 1000 xs k = true) : qogOk (k : Int) L xs k = quoOk (lowS (winS (setsN L)) xs k) (highS (winS (setsN L)) xs k) := by unfold qogOk; rw [hg, h, decide_eq_true rfl]; rfl
theorem qogV_yes {L} {xs : List Int} {k : Nat} (hg : goodG (k : Int) L = true) (h : numsB 0 1000 xs k = true) : qogV (k : Int) L xs k = quoQ (lowS (winS (setsN L)) xs k) (highS (winS (setsN L)) xs k) := by
  unfold qogV; rw [qogOk_yes hg h]; unfold quoOk quoQ
  by_cases hle : lowS (winS (setsN L)) xs k ≤ highS (winS (setsN L)) xs k
  · rw [if_pos hle, decide_eq_true hle]; rfl
  · rw [if_neg hle, decide_eq_false hle]; rfl

end Go.Proofs.Ytldpdjnedoflcab
