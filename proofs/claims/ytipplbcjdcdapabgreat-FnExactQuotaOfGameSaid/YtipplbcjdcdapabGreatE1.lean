/- Sets told by keys: nine numbers, each member greater by one, and noughts behind them; the order of keys; sets that have no other one as a part. -/
import Derived.Test.YtipplbcjdcdapabGreatMath
namespace Go.Proofs.YtipplbcjdcdapabGreat.Vo

/-- Place j of a list whose numbers are each greater by one, noughts behind its end. -/
def pad (a : List Int) (j : Nat) : Int := if j < a.length then a.getD j 0 + 1 else 0
theorem pad_nil (j : Nat) : pad [] j = 0 := by simp [pad]
theorem pad_zero (x : Int) (a : List Int) : pad (x :: a) 0 = x + 1 := by simp [pad]
theorem pad_succ (x : Int) (a : List Int) (j : Nat) : pad (x :: a) (j+1) = pad a j := by simp [pad]
theorem pad_pos : ∀ {a : List Int}, (∀ x ∈ a, 0 ≤ x) → ∀ j, 0 ≤ pad a j
  | [], _, j => by rw [pad_nil]; exact Int.le_refl _
  | x :: a, h, 0 => by rw [pad_zero]; have := h x (by simp); omega
  | x :: a, h, j+1 => by rw [pad_succ]; exact pad_pos (fun y hy => h y (by simp [hy])) j
theorem pad_lt : ∀ {a b : List Int}, (∀ x ∈ a, 0 ≤ x) → (∀ x ∈ b, 0 ≤ x) → ∀ {j : Nat}, (∀ i, i < j → pad a i = pad b i) → pad a j < pad b j → before a b = true
  | [], [], _, _, j, _, h => by simp [pad_nil] at h
  | [], _ :: _, _, _, _, _, _ => rfl
  | x :: a, [], ha, _, j, _, h => by rw [pad_nil] at h; have := pad_pos ha j; omega
  | x :: a, y :: b, ha, hb, 0, _, h => by
    rw [pad_zero, pad_zero] at h
    have e : x ≠ y := by omega
    simp [before, e]; omega
  | x :: a, y :: b, ha, hb, j+1, hp, h => by
    have e : x = y := by have := hp 0 (by omega); rw [pad_zero, pad_zero] at this; omega
    subst e
    simp only [before, if_true]
    rw [pad_succ, pad_succ] at h
    refine pad_lt (fun z hz => ha z (by simp [hz])) (fun z hz => hb z (by simp [hz])) (j := j) (fun i hi => ?_) h
    have := hp (i+1) (by omega)
    rwa [pad_succ, pad_succ] at this
theorem pad_eq : ∀ {a b : List Int}, (∀ x ∈ a, 0 ≤ x) → (∀ x ∈ b, 0 ≤ x) → ∀ {k : Nat}, a.length ≤ k → b.length ≤ k → (∀ i, i < k → pad a i = pad b i) → a = b
  | [], [], _, _, _, _, _, _ => rfl
  | [], y :: b, _, hb, k, _, hl, h => by
    have := h 0 (by simp at hl; omega)
    rw [pad_nil, pad_zero] at this
    have := hb y (by simp); omega
  | x :: a, [], ha, _, k, hl, _, h => by
    have := h 0 (by simp at hl; omega)
    rw [pad_nil, pad_zero] at this
    have := ha x (by simp); omega
  | x :: a, y :: b, ha, hb, 0, hl, _, _ => by simp at hl
  | x :: a, y :: b, ha, hb, k+1, hl, hl2, h => by
    have e : x = y := by have := h 0 (by omega); rw [pad_zero, pad_zero] at this; omega
    subst e
    congr 1
    refine pad_eq (fun z hz => ha z (by simp [hz])) (fun z hz => hb z (by simp [hz])) (k := k) (by simp at hl; omega) (by simp at hl2; omega) fun i hi => ?_
    have := h (i+1) (by omega)
    rwa [pad_succ, pad_succ] at this

theorem mem_nonneg (s k : Nat) : ∀ x ∈ mem s k, 0 ≤ x := fun x hx => by
  obtain ⟨j, _, rfl, _⟩ := mem_iff.1 hx; omega
/-- Place j of the key of a set. -/
def keyAt (s j : Nat) : Int := pad (mem s 9) j
theorem keyAt_bd (s j : Nat) : 0 ≤ keyAt s j ∧ keyAt s j ≤ 9 := by
  refine ⟨pad_pos (mem_nonneg s 9) j, ?_⟩
  unfold keyAt pad
  by_cases h : j < (mem s 9).length
  · rw [if_pos h, List.getD_eq_getElem?_getD, List.getElem?_eq_getElem h]
    obtain ⟨i, hi, e, _⟩ := mem_iff.1 (List.getElem_mem h)
    show (mem s 9)[j] + 1 ≤ 9
    omega
  · rw [if_neg h]; omega
theorem keyAt_inj {s t : Nat} (hs : s < 512) (ht : t < 512) (h : ∀ j, j < 9 → keyAt s j = keyAt t j) : s = t :=
  mem_inj (n := 9) hs ht (pad_eq (mem_nonneg s 9) (mem_nonneg t 9) (mem_len s 9) (mem_len t 9) h)

/-- -1, 0 or 1, as the list of s comes before that of t, is the same, or comes behind it. -/
def ordC (s t : Nat) : Int := if before (mem s 9) (mem t 9) then -1 else if before (mem t 9) (mem s 9) then 1 else 0
theorem ordC_lt {s t j : Nat} (hp : ∀ i, i < j → keyAt s i = keyAt t i) (h : keyAt s j < keyAt t j) : ordC s t = -1 := by
  unfold ordC; rw [pad_lt (mem_nonneg s 9) (mem_nonneg t 9) hp h]; rfl
theorem ordC_gt {s t j : Nat} (hp : ∀ i, i < j → keyAt s i = keyAt t i) (h : keyAt t j < keyAt s j) : ordC s t = 1 := by
  have hb := pad_lt (mem_nonneg t 9) (mem_nonneg s 9) (fun i hi => (hp i hi).symm) h
  unfold ordC; rw [before_asymm hb, hb]; rfl
theorem ordC_eq {s t : Nat} (hp : ∀ i, i < 9 → keyAt s i = keyAt t i) : ordC s t = 0 := by
  have e := pad_eq (mem_nonneg s 9) (mem_nonneg t 9) (mem_len s 9) (mem_len t 9) hp
  unfold ordC; rw [e, before_irrefl]; rfl
theorem ordC_neg {s t : Nat} : ordC s t < 0 ↔ before (mem s 9) (mem t 9) = true := by
  unfold ordC
  by_cases h : before (mem s 9) (mem t 9) = true
  · rw [if_pos h]; simp [h]
  · rw [if_neg h]
    by_cases h2 : before (mem t 9) (mem s 9) = true
    · rw [if_pos h2]; simp [h]
    · rw [if_neg h2]; simp [h]

/-- Has s all members of t? -/
def partB (s t : Nat) : Bool := decide (s &&& t = t)
theorem partB_iff {s t : Nat} : partB s t = true ↔ s &&& t = t := decide_eq_true_iff
theorem part_le {s t : Nat} (h : s &&& t = t) : t ≤ s := by have := Nat.and_le_left (n := s) (m := t); omega
theorem part_trans {s t u : Nat} (h : s &&& t = t) (k : t &&& u = u) : s &&& u = u := by
  rw [← k, ← Nat.and_assoc, h]
theorem part_antisymm {s t : Nat} (h : s &&& t = t) (k : t &&& s = s) : s = t := by
  rw [← k, Nat.and_comm, h]
theorem part_self (s : Nat) : s &&& s = s := Nat.and_self s

/-- Is s one of the sets, and no other one a part of it? -/
def minB (S : Nat → Bool) (s : Nat) : Bool := S s && allK (fun t => !(S t && decide (t ≠ s) && partB s t)) 512
theorem minB_iff {S : Nat → Bool} (hS : ∀ s, S s = true → s < 512) {s : Nat} : minB S s = true ↔ S s = true ∧ ∀ t, S t = true → t ≠ s → s &&& t = t → False := by
  unfold minB
  rw [Bool.and_eq_true, allK_iff]
  constructor
  · rintro ⟨h1, h2⟩
    refine ⟨h1, fun t ht hne hp => ?_⟩
    have := h2 t (hS t ht)
    rw [ht, partB_iff.2 hp] at this
    simp [hne] at this
  · rintro ⟨h1, h2⟩
    refine ⟨h1, fun t _ => ?_⟩
    cases ht : S t
    · rfl
    · by_cases hne : t ≠ s
      · cases hp : partB s t
        · simp
        · exact (h2 t ht hne (partB_iff.1 hp)).elim
      · simp [hne]
/-- Each of the sets has one as a part that has no other one. -/
theorem min_in {S : Nat → Bool} (hS : ∀ s, S s = true → s < 512) : ∀ (t : Nat), S t = true → ∃ m, minB S m = true ∧ t &&& m = m := by
  intro t
  induction t using Nat.strongRecOn with
  | _ t ih =>
    intro ht
    by_cases h : minB S t = true
    · exact ⟨t, h, part_self t⟩
    · have : ∃ u, S u = true ∧ u ≠ t ∧ t &&& u = u := by
        apply Classical.byContradiction
        intro hn
        exact h ((minB_iff hS).2 ⟨ht, fun u hu hne hp => hn ⟨u, hu, hne, hp⟩⟩)
      obtain ⟨u, hu, hne, hp⟩ := this
      have := part_le hp
      obtain ⟨m, h1, h2⟩ := ih u (by omega) hu
      exact ⟨m, h1, part_trans hp h2⟩
/-- What is left after some that are not least have gone: one of which no other one left is a part is least. -/
theorem min_of_left {S M : Nat → Bool} (hS : ∀ s, S s = true → s < 512) (hM : ∀ s, M s = true → S s = true) (hL : ∀ s, minB S s = true → M s = true) {s : Nat} (hs : M s = true)
    (h : ∀ t, M t = true → t ≠ s → s &&& t = t → False) : minB S s = true := by
  refine (minB_iff hS).2 ⟨hM s hs, fun t ht hne hp => ?_⟩
  obtain ⟨m, h1, h2⟩ := min_in hS t ht
  refine h m (hL m h1) (fun e => ?_) (part_trans hp h2)
  subst e
  exact hne (part_antisymm h2 hp)
theorem not_min {S : Nat → Bool} (hS : ∀ s, S s = true → s < 512) {s t : Nat} (ht : S t = true) (hne : t ≠ s) (hp : s &&& t = t) : minB S s = false := by
  cases h : minB S s
  · rfl
  · exact (((minB_iff hS).1 h).2 t ht hne hp).elim

/-- The least ones of the sets, in order. -/
def leastL (S : Nat → Bool) : List Nat := (inOrder 9).filter (minB S)
theorem mem_leastL {S : Nat → Bool} (hS : ∀ s, S s = true → s < 512) {s : Nat} : s ∈ leastL S ↔ minB S s = true := by
  unfold leastL
  rw [List.mem_filter, mem_inOrder]
  constructor
  · exact fun h => h.2
  · exact fun h => ⟨hS s ((minB_iff hS).1 h).1, h⟩
theorem filter_sorted (n : Nat) (P : Nat → Bool) : Sorted (((inOrder n).filter P).map fun t => mem t n) := by
  have := inOrder_sorted n
  unfold Sorted at *
  rw [List.pairwise_map] at *
  exact List.Pairwise.filter P this
theorem map_mem_inj : ∀ {l m : List Nat}, (∀ s ∈ l, s < 512) → (∀ s ∈ m, s < 512) → (l.map fun t => mem t 9) = (m.map fun t => mem t 9) → l = m
  | [], [], _, _, _ => rfl
  | [], _ :: _, _, _, h => by simp at h
  | _ :: _, [], _, _, h => by simp at h
  | a :: l, b :: m, h1, h2, h => by
    simp only [List.map_cons, List.cons.injEq] at h
    rw [mem_inj (n := 9) (h1 a (by simp)) (h2 b (by simp)) h.1, map_mem_inj (fun s hs => h1 s (by simp [hs])) (fun s hs => h2 s (by simp [hs])) h.2]
/-- A sorted list of just the least ones is theirs. -/
theorem leastL_unique {S : Nat → Bool} (hS : ∀ s, S s = true → s < 512) {l : List Nat} (hs : Sorted (l.map fun t => mem t 9)) (hm : ∀ s, s ∈ l ↔ minB S s = true) : l = leastL S := by
  refine map_mem_inj (fun s h => hS s ((minB_iff hS).1 ((hm s).1 h)).1) (fun s h => hS s ((minB_iff hS).1 ((mem_leastL hS).1 h)).1) (sorted_unique hs (filter_sorted 9 _) fun x => ?_)
  rw [List.mem_map, List.mem_map]
  constructor
  · rintro ⟨s, h1, h2⟩; exact ⟨s, (mem_leastL hS).2 ((hm s).1 h1), h2⟩
  · rintro ⟨s, h1, h2⟩; exact ⟨s, (hm s).2 ((mem_leastL hS).1 h1), h2⟩
end Go.Proofs.YtipplbcjdcdapabGreat.Vo
