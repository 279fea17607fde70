/- Plain facts of sums and products of games. -/
import Derived.Test.YtipplbcjdcdapaaJd
namespace Go.Proofs.Ytipplbcjdcdapaa
open Go.RowKit Vo

/-- Does a set win in the sum (the product) of two games, the first one of q members? -/
def joinP (both : Bool) (S T : List Nat) (q b : Nat) : Bool := (winS S (b % 2^q) && winS T (b / 2^q)) || (!both && (winS S (b % 2^q) || winS T (b / 2^q)))
/-- The sets that the sum (the product) is made of. -/
def behindL (T : List Nat) (q : Nat) : List Nat := T.map fun t => t * 2^q
def joinL (both : Bool) (S T : List Nat) (q : Nat) : List Nat := if both then S.flatMap fun s => (behindL T q).map fun t => s ||| t else S ++ behindL T q

theorem sub_low {s b q : Nat} (hs : s < 2^q) : b &&& s = s ↔ (b % 2^q) &&& s = s := by
  rw [sub_iff, sub_iff]
  refine forall_congr' fun i => ?_
  rw [Nat.testBit_mod_two_pow]
  by_cases hi : i < q
  · simp [hi]
  · have : s.testBit i = false := Nat.testBit_lt_two_pow (Nat.lt_of_lt_of_le hs (Nat.pow_le_pow_right (by omega) (by omega)))
    simp [this]
theorem sub_high {t b q : Nat} : b &&& (t * 2^q) = t * 2^q ↔ (b / 2^q) &&& t = t := by
  rw [sub_iff, sub_iff]
  constructor
  · intro h i hi
    rw [Nat.testBit_div_two_pow]
    exact h (i + q) (by rw [Nat.mul_comm, Nat.testBit_two_pow_mul]; simp [hi])
  · intro h i hi
    rw [Nat.mul_comm, Nat.testBit_two_pow_mul] at hi
    simp only [Bool.and_eq_true, decide_eq_true_eq] at hi
    have h1 := h (i - q) hi.2
    rw [Nat.testBit_div_two_pow, show i - q + q = i from by omega] at h1
    exact h1
theorem sub_both {s u b : Nat} : b &&& (s ||| u) = s ||| u ↔ b &&& s = s ∧ b &&& u = u := by
  rw [sub_iff, sub_iff, sub_iff]
  simp only [Nat.testBit_or, Bool.or_eq_true]
  exact ⟨fun h => ⟨fun i hi => h i (Or.inl hi), fun i hi => h i (Or.inr hi)⟩, fun h i hi => hi.elim (h.1 i) (h.2 i)⟩
theorem win_behind {T : List Nat} {q b : Nat} : winS (behindL T q) b = winS T (b / 2^q) := by
  rw [Bool.eq_iff_iff, winS_iff, winS_iff]
  unfold behindL
  constructor
  · rintro ⟨u, hu, h⟩
    obtain ⟨t, ht, rfl⟩ := List.mem_map.1 hu
    exact ⟨t, ht, sub_high.1 h⟩
  · rintro ⟨t, ht, h⟩
    exact ⟨_, List.mem_map.2 ⟨t, ht, rfl⟩, sub_high.2 h⟩
theorem win_low {S : List Nat} {q b : Nat} (hS : ∀ s ∈ S, s < 2^q) : winS S b = winS S (b % 2^q) := by
  rw [Bool.eq_iff_iff, winS_iff, winS_iff]
  exact ⟨fun ⟨t, ht, h⟩ => ⟨t, ht, (sub_low (hS t ht)).1 h⟩, fun ⟨t, ht, h⟩ => ⟨t, ht, (sub_low (hS t ht)).2 h⟩⟩
theorem joinP_eq {both : Bool} {S T : List Nat} {q : Nat} (hS : ∀ s ∈ S, s < 2^q) : joinP both S T q = winS (joinL both S T q) := by
  funext b
  unfold joinP joinL
  rw [← win_low hS, ← win_behind]
  generalize behindL T q = U
  cases both with
  | true =>
    rw [Bool.eq_iff_iff]
    simp only [Bool.not_true, Bool.false_and, Bool.or_false, Bool.and_eq_true, winS_iff, if_true, List.mem_flatMap, List.mem_map]
    constructor
    · rintro ⟨⟨s, hs, h1⟩, ⟨u, hu, h2⟩⟩
      exact ⟨s ||| u, ⟨s, hs, u, hu, rfl⟩, sub_both.2 ⟨h1, h2⟩⟩
    · rintro ⟨_, ⟨s, hs, u, hu, rfl⟩, h⟩
      obtain ⟨h1, h2⟩ := sub_both.1 h
      exact ⟨⟨s, hs, h1⟩, ⟨u, hu, h2⟩⟩
  | false =>
    have e : winS (S ++ U) b = (winS S b || winS U b) := by unfold winS; rw [List.any_append]
    simp only [Bool.not_false, Bool.true_and, Bool.false_eq_true, if_false, e]
    cases winS S b <;> cases winS U b <;> rfl
theorem behind_lt {T : List Nat} {q r : Nat} (hT : ∀ t ∈ T, t < 2^r) : ∀ u ∈ behindL T q, u < 2^(q+r) := fun u hu => by
  unfold behindL at hu
  obtain ⟨t, ht, rfl⟩ := List.mem_map.1 hu
  rw [Nat.pow_add, Nat.mul_comm]
  exact Nat.mul_lt_mul_of_pos_left (hT t ht) (Nat.two_pow_pos q)
theorem joinL_lt {both : Bool} {S T : List Nat} {q r : Nat} (hS : ∀ s ∈ S, s < 2^q) (hT : ∀ t ∈ T, t < 2^r) : ∀ s ∈ joinL both S T q, s < 2^(q+r) := fun s hs => by
  have hS2 : ∀ s ∈ S, s < 2^(q+r) := fun s h => Nat.lt_of_lt_of_le (hS s h) (Nat.pow_le_pow_right (by omega) (by omega))
  unfold joinL at hs
  cases both with
  | true =>
    simp only [if_true, List.mem_flatMap, List.mem_map] at hs
    obtain ⟨a, ha, u, hu, rfl⟩ := hs
    exact Nat.or_lt_two_pow (hS2 a ha) (behind_lt hT u hu)
  | false =>
    simp only [Bool.false_eq_true, if_false, List.mem_append] at hs
    exact hs.elim (hS2 s) (behind_lt hT s)
theorem join_sets {both : Bool} {S T : List Nat} {q r : Nat} (hn : q + r ≤ 9) (hS : ∀ s ∈ S, s < 2^q) (hT : ∀ t ∈ T, t < 2^r) : (inOrder (q+r)).filter (leastP (joinP both S T q) (q+r)) = leastL (inS (joinL both S T q)) := by
  rw [joinP_eq hS]; exact least_win hn (joinL_lt hS hT)

/-- Is there a sum or product of two games? Its sets. -/
def joinOk (m : Int) (L : List (List Int)) (k : Int) (K : List (List Int)) : Bool := goodG m L && (goodG k K && decide (m + k ≤ 9))
def joinS (both : Bool) (m : Int) (L : List (List Int)) (K : List (List Int)) : List Nat := leastL (inS (joinL both (setsN L) (setsN K) m.toNat))
theorem joinOk_first {m : Int} {L : List (List Int)} {k : Int} {K : List (List Int)} (h : goodG m L = false) : joinOk m L k K = false := by unfold joinOk; rw [h]; rfl
theorem joinOk_second {m : Int} {L : List (List Int)} {k : Int} {K : List (List Int)} (h : goodG k K = false) : joinOk m L k K = false := by unfold joinOk; rw [h]; simp
theorem joinOk_many {m : Int} {L : List (List Int)} {k : Int} {K : List (List Int)} (h : ¬ m + k ≤ 9) : joinOk m L k K = false := by unfold joinOk; simp [h]
theorem joinOk_yes {m : Int} {L : List (List Int)} {k : Int} {K : List (List Int)} (h1 : goodG m L = true) (h2 : goodG k K = true) (h : m + k ≤ 9) : joinOk m L k K = true := by unfold joinOk; simp [h1, h2, h]
theorem joinS_len {both : Bool} {m : Int} {L : List (List Int)} {k : Int} {K : List (List Int)} (h : joinOk m L k K = true) : (joinS both m L K).length ≤ 512 := by
  unfold joinOk at h
  simp only [Bool.and_eq_true, decide_eq_true_eq] at h
  obtain ⟨hg, hk, h9⟩ := h
  obtain ⟨h1, h2, _, hr, _⟩ := goodG_parts hg
  obtain ⟨h3, h4, _, hr', _⟩ := goodG_parts hk
  refine leastL_len fun s hs => ?_
  have a := joinL_lt (setsN_lt (n := m.toNat) (by omega) hr) (setsN_lt (n := k.toNat) (by omega) hr') s (inS_iff.1 hs)
  have b : (2:Nat)^(m.toNat + k.toNat) ≤ 2^9 := Nat.pow_le_pow_right (by omega) (by omega)
  omega
end Go.Proofs.Ytipplbcjdcdapaa
