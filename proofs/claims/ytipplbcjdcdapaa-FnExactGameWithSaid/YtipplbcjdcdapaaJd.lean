/- Plain facts of games without a member, and with it. -/
import Derived.Test.YtipplbcjdcdapaaJc
namespace Go.Proofs.Ytipplbcjdcdapaa
open Go.RowKit Vo

/-- A set without the member k, all behind told by a number less; a set of the others among all members. -/
def narrow (s k : Nat) : Nat := (s &&& (2^k - 1)) ||| (s / 2^(k+1) * 2^k)
def wide (b k : Nat) : Nat := (b - b % 2^k) * 2 + b % 2^k
theorem bit_narrow (s k i : Nat) : (narrow s k).testBit i = if i < k then s.testBit i else s.testBit (i+1) := by
  unfold narrow
  rw [Nat.testBit_or, Nat.testBit_and, Nat.testBit_two_pow_sub_one, Nat.mul_comm, Nat.testBit_two_pow_mul, Nat.testBit_div_two_pow]
  by_cases h : i < k
  · simp [h, show ¬ k ≤ i from by omega]
  · simp [h, show k ≤ i from by omega]
    congr 1; omega
theorem wide_eq (b k : Nat) : wide b k = 2^(k+1) * (b / 2^k) + b % 2^k := by
  unfold wide
  have h := Nat.div_add_mod b (2^k)
  have h2 : b - b % 2^k = 2^k * (b / 2^k) := by omega
  rw [h2, Nat.pow_succ, Nat.mul_assoc, Nat.mul_comm (b / 2^k) 2, ← Nat.mul_assoc]
theorem bit_wide (b k i : Nat) : (wide b k).testBit i = if i < k then b.testBit i else if i = k then false else b.testBit (i-1) := by
  have hp := Nat.two_pow_pos k
  have hm : b % 2^k < 2^k := Nat.mod_lt _ hp
  rw [wide_eq, Nat.testBit_two_pow_mul_add _ (by rw [Nat.pow_succ]; omega), Nat.testBit_mod_two_pow, Nat.testBit_div_two_pow]
  by_cases h : i < k
  · simp [h, show i < k + 1 from by omega]
  · by_cases e : i = k
    · subst e; simp
    · simp [h, e, show ¬ i < k + 1 from by omega]
      congr 1; omega
theorem bit_wide2 (b k i : Nat) : (wide b k + 2^k).testBit i = if i < k then b.testBit i else if i = k then true else b.testBit (i-1) := by
  have hp := Nat.two_pow_pos k
  have hm : b % 2^k < 2^k := Nat.mod_lt _ hp
  have e1 : wide b k + 2^k = 2^(k+1) * (b / 2^k) + (2^k * 1 + b % 2^k) := by rw [wide_eq]; omega
  rw [e1, Nat.testBit_two_pow_mul_add _ (by rw [Nat.pow_succ]; omega), Nat.testBit_two_pow_mul_add _ hm, Nat.testBit_mod_two_pow, Nat.testBit_div_two_pow]
  by_cases h : i < k
  · simp [h, show i < k + 1 from by omega]
  · by_cases e : i = k
    · subst e; simp
    · simp [h, e, show ¬ i < k + 1 from by omega]
      congr 1; omega
theorem sub_iff {s t : Nat} : s &&& t = t ↔ ∀ i, t.testBit i = true → s.testBit i = true := by
  constructor
  · intro h i hi
    have h1 := congrArg (fun x => x.testBit i) h
    simp only [Nat.testBit_and, hi, Bool.and_true] at h1
    exact h1
  · intro h
    apply Nat.eq_of_testBit_eq
    intro i
    rw [Nat.testBit_and]
    cases hi : t.testBit i
    · simp
    · rw [h i hi]; rfl
theorem sub_wide (b t k : Nat) : wide b k &&& t = t ↔ t.testBit k = false ∧ b &&& narrow t k = narrow t k := by
  rw [sub_iff, sub_iff]
  constructor
  · intro h
    have hk : t.testBit k = false := by
      cases hb : t.testBit k
      · rfl
      · have := h k hb; rw [bit_wide] at this; simp at this
    refine ⟨hk, fun i hi => ?_⟩
    rw [bit_narrow] at hi
    by_cases hik : i < k
    · rw [if_pos hik] at hi
      have := h i hi; rw [bit_wide, if_pos hik] at this; exact this
    · rw [if_neg hik] at hi
      have := h (i+1) hi
      rw [bit_wide, if_neg (by omega), if_neg (by omega)] at this; exact this
  · rintro ⟨hk, h⟩ i hi
    rw [bit_wide]
    by_cases hik : i < k
    · rw [if_pos hik]; exact h i (by rw [bit_narrow, if_pos hik]; exact hi)
    · rw [if_neg hik]
      by_cases e : i = k
      · subst e; rw [hk] at hi; cases hi
      · rw [if_neg e]
        exact h (i-1) (by rw [bit_narrow, if_neg (by omega), show i - 1 + 1 = i from by omega]; exact hi)
theorem sub_wide2 (b t k : Nat) : (wide b k + 2^k) &&& t = t ↔ b &&& narrow t k = narrow t k := by
  rw [sub_iff, sub_iff]
  constructor
  · intro h i hi
    rw [bit_narrow] at hi
    by_cases hik : i < k
    · rw [if_pos hik] at hi
      have := h i hi; rw [bit_wide2, if_pos hik] at this; exact this
    · rw [if_neg hik] at hi
      have := h (i+1) hi
      rw [bit_wide2, if_neg (by omega), if_neg (by omega)] at this; exact this
  · intro h i hi
    rw [bit_wide2]
    by_cases hik : i < k
    · rw [if_pos hik]; exact h i (by rw [bit_narrow, if_pos hik]; exact hi)
    · rw [if_neg hik]
      by_cases e : i = k
      · rw [if_pos e]
      · rw [if_neg e]
        exact h (i-1) (by rw [bit_narrow, if_neg (by omega), show i - 1 + 1 = i from by omega]; exact hi)
theorem narrow_lt {t k n : Nat} (ht : t < 2^(n+1)) (hk : k < n + 1) : narrow t k < 2^n :=
  Nat.lt_pow_two_of_testBit _ fun i hi => by
    rw [bit_narrow]
    by_cases hik : i < k
    · omega
    · rw [if_neg hik]
      exact Nat.testBit_lt_two_pow (Nat.lt_of_lt_of_le ht (Nat.pow_le_pow_right (by omega) (by omega)))

/-- The sets of the game without the member k, resp. with it. -/
def lessL (wt : Bool) (S : List Nat) (k : Nat) : List Nat := (if wt then S else S.filter fun t => !t.testBit k).map fun t => narrow t k
def lessP (wt : Bool) (S : List Nat) (k b : Nat) : Bool := winS S (if wt then wide b k + 2^k else wide b k)
theorem lessP_eq (wt : Bool) (S : List Nat) (k : Nat) : lessP wt S k = winS (lessL wt S k) := by
  funext b
  rw [Bool.eq_iff_iff]
  unfold lessP lessL
  rw [winS_iff, winS_iff]
  cases wt with
  | true =>
    simp only [if_true]
    constructor
    · rintro ⟨t, ht, h⟩; exact ⟨_, List.mem_map.2 ⟨t, ht, rfl⟩, (sub_wide2 b t k).1 h⟩
    · rintro ⟨u, hu, h⟩
      obtain ⟨t, ht, rfl⟩ := List.mem_map.1 hu
      exact ⟨t, ht, (sub_wide2 b t k).2 h⟩
  | false =>
    simp only [Bool.false_eq_true, if_false]
    constructor
    · rintro ⟨t, ht, h⟩
      obtain ⟨h1, h2⟩ := (sub_wide b t k).1 h
      exact ⟨_, List.mem_map.2 ⟨t, List.mem_filter.2 ⟨ht, by rw [h1]; rfl⟩, rfl⟩, h2⟩
    · rintro ⟨u, hu, h⟩
      obtain ⟨t, ht, rfl⟩ := List.mem_map.1 hu
      obtain ⟨h1, h2⟩ := List.mem_filter.1 ht
      exact ⟨t, h1, (sub_wide b t k).2 ⟨by simpa using h2, h⟩⟩
theorem lessL_lt {wt : Bool} {S : List Nat} {k n : Nat} (hS : ∀ s ∈ S, s < 2^(n+1)) (hk : k < n + 1) : ∀ s ∈ lessL wt S k, s < 2^n := fun s hs => by
  unfold lessL at hs
  obtain ⟨t, ht, rfl⟩ := List.mem_map.1 hs
  refine narrow_lt (hS t ?_) hk
  cases wt with
  | true => exact ht
  | false => exact (List.mem_filter.1 ht).1
theorem win_all {S : List Nat} {n : Nat} (hS : ∀ s ∈ S, s < 2^n) : winS S (2^n - 1) = decide (S ≠ []) := by
  rw [Bool.eq_iff_iff, winS_iff, decide_eq_true_iff]
  constructor
  · rintro ⟨t, ht, _⟩ e; rw [e] at ht; cases ht
  · intro h
    obtain ⟨t, ht⟩ := List.exists_mem_of_ne_nil _ h
    refine ⟨t, ht, ?_⟩
    rw [Nat.and_comm, Nat.and_two_pow_sub_one_eq_mod, Nat.mod_eq_of_lt (hS t ht)]
theorem win_none {S : List Nat} (h0 : ∀ s ∈ S, s ≠ 0) : winS S 0 = false := by
  cases h : winS S 0
  · rfl
  · obtain ⟨t, ht, h1⟩ := winS_iff.1 h
    rw [Nat.zero_and] at h1
    exact absurd h1.symm (h0 t ht)
theorem wide_zero (k : Nat) : wide 0 k = 0 := by unfold wide; simp

/-- Is there a game without the member k (with it)? As the model asks, for games of n + 1 members. -/
def lessB (wt : Bool) (S : List Nat) (n k : Nat) : Bool := decide (n ≠ 0) && (!lessP wt S k 0 && lessP wt S k (2^n - 1))
theorem lessB_without {S : List Nat} {n k : Nat} (hS : ∀ s ∈ S, s < 2^(n+1)) (h0 : ∀ s ∈ S, s ≠ 0) (hk : k < n + 1) : lessB false S n k = decide (lessL false S k ≠ []) := by
  have h1 : lessP false S k 0 = false := by unfold lessP; simp only [Bool.false_eq_true, if_false, wide_zero]; exact win_none h0
  have h2 : lessP false S k (2^n - 1) = decide (lessL false S k ≠ []) := by rw [lessP_eq]; exact win_all (lessL_lt hS hk)
  unfold lessB
  rw [h1, h2]
  by_cases hn : n = 0
  · subst hn
    obtain rfl : k = 0 := by omega
    have : lessL false S 0 = [] := by
      unfold lessL
      simp only [Bool.false_eq_true, if_false, List.map_eq_nil_iff, List.filter_eq_nil_iff]
      intro t ht
      have a := hS t ht
      have b := h0 t ht
      obtain rfl : t = 1 := by omega
      decide
    rw [this]; simp
  · simp [hn]
theorem lessB_with {S : List Nat} {n k : Nat} (hS : ∀ s ∈ S, s < 2^(n+1)) (h0 : ∀ s ∈ S, s ≠ 0) (hne : S ≠ []) (hk : k < n + 1) : lessB true S n k = !winS S (2^k) := by
  have h1 : lessP true S k 0 = winS S (2^k) := by unfold lessP; simp only [if_true, wide_zero, Nat.zero_add]
  have h2 : lessP true S k (2^n - 1) = true := by
    rw [lessP_eq, win_all (lessL_lt hS hk), decide_eq_true_iff]
    unfold lessL
    simpa using hne
  unfold lessB
  rw [h1, h2]
  by_cases hn : n = 0
  · subst hn
    obtain rfl : k = 0 := by omega
    obtain ⟨t, ht⟩ := List.exists_mem_of_ne_nil _ hne
    have a := hS t ht
    have b := h0 t ht
    obtain rfl : t = 1 := by omega
    have : winS S (2^0) = true := winS_iff.2 ⟨1, ht, by decide⟩
    rw [this]; simp
  · simp [hn]
theorem less_sets {wt : Bool} {S : List Nat} {n k : Nat} (hn : n ≤ 9) (hS : ∀ s ∈ S, s < 2^(n+1)) (hk : k < n + 1) : (inOrder n).filter (leastP (lessP wt S k) n) = leastL (inS (lessL wt S k)) := by
  rw [lessP_eq]; exact least_win hn (lessL_lt hS hk)
theorem setsN_nonzero {q : Nat} {L : List (List Int)} (hq : q ≤ 9) (hr : rowsB q L = true) : ∀ s ∈ setsN L, s ≠ 0 := fun s hs e => by
  obtain ⟨l, hl, rfl⟩ := List.mem_map.1 hs
  have h := rowsB_row hr hl
  exact h.1 ((ofK_zero hq h.2).1 e)
end Go.Proofs.Ytipplbcjdcdapaa
