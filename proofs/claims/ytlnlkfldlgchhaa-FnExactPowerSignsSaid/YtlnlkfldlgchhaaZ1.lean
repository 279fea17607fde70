/- Plain facts on what the sets of a list give to their members together; nothing of any program. -/
import Derived.Test.YtlnlkfldlgchhaaN1
namespace Go.Proofs.Ytlnlkfldlgchhaa.Vo

theorem take_snoc {L : List Nat} {j : Nat} (h : j < L.length) : L.take (j+1) = L.take j ++ [L.getD j 0] := by
  rw [List.take_add_one, List.getElem?_eq_getElem h, List.getD_eq_getElem?_getD, List.getElem?_eq_getElem h]; rfl
/-- What the sets of a list that have k give together. -/
def gainL (g : Nat → Nat) (L : List Nat) (k : Nat) : Nat := (L.map fun s => if s.testBit k then g s else 0).sum
theorem gainL_nil (g k) : gainL g [] k = 0 := rfl
theorem gainL_cons (g s L k) : gainL g (s :: L) k = (if s.testBit k then g s else 0) + gainL g L k := by simp [gainL]
theorem gainL_succ (g : Nat → Nat) (L : List Nat) (k j : Nat) (h : j < L.length) : gainL g (L.take (j+1)) k = gainL g (L.take j) k + if (L.getD j 0).testBit k then g (L.getD j 0) else 0 := by
  unfold gainL
  rw [take_snoc h, List.map_append, List.sum_append, List.map_cons, List.map_nil, List.sum_cons, List.sum_nil, Nat.add_zero]
theorem gainL_le {g : Nat → Nat} {B : Nat} (hg : ∀ s, g s ≤ B) (L : List Nat) (k : Nat) : gainL g L k ≤ B * L.length := by
  induction L with
  | nil => simp [gainL]
  | cons s L ih =>
    rw [gainL_cons, List.length_cons, Nat.mul_succ]
    have := hg s
    split <;> omega
theorem gainL_take_le {g : Nat → Nat} {B : Nat} (hg : ∀ s, g s ≤ B) (L : List Nat) (k j : Nat) : gainL g (L.take j) k ≤ B * L.length :=
  Nat.le_trans (gainL_le hg _ _) (Nat.mul_le_mul_left _ (by rw [List.length_take]; omega))

theorem cnt_zero (k : Nat) : cnt (fun _ => false) k = 0 := by
  induction k with
  | zero => rfl
  | succ k ih => simp only [cnt]; rw [ih]; rfl
theorem sumN_bits (s c n : Nat) : sumN (fun k => if s.testBit k then c else 0) n = cnt (fun k => s.testBit k) n * c := by
  induction n with
  | zero => simp [sumN, cnt]
  | succ n ih =>
    simp only [sumN, cnt]
    rw [ih, Nat.add_mul]
    split <;> simp
theorem mem_len_cnt (s n : Nat) : (mem s n).length = cnt (fun k => s.testBit k) n := by
  induction n with
  | zero => rfl
  | succ n ih => simp only [mem, cnt, List.length_append, ih]; split <;> rfl
theorem sz_cnt {n s : Nat} (hn : n ≤ 9) (hs : s < 2^n) : sz s = cnt (fun k => s.testBit k) n := by
  unfold sz; rw [mem_stop hs hn, mem_len_cnt]
theorem gainL_sum (g : Nat → Nat) {n : Nat} (hn : n ≤ 9) (L : List Nat) (hL : ∀ s ∈ L, s < 2^n) : sumN (gainL g L) n = (L.map fun s => sz s * g s).sum := by
  induction L with
  | nil => rw [show (gainL g []) = fun _ => 0 from funext fun k => rfl, sumN_zero]; rfl
  | cons s L ih =>
    rw [show gainL g (s :: L) = fun k => (if s.testBit k then g s else 0) + gainL g L k from funext fun k => gainL_cons g s L k, sumN_add, sumN_bits, ih (fun t ht => hL t (by simp [ht])), ← sz_cnt hn (hL s (by simp))]
    simp
theorem sz_le9 (s : Nat) : sz s ≤ 9 := mem_len s 9
theorem sz_pos {n s : Nat} (hn : n ≤ 9) (hs : s < 2^n) (h0 : s ≠ 0) : 1 ≤ sz s := by
  rw [sz_cnt hn hs]
  obtain ⟨k, hk⟩ : ∃ k, s.testBit k = true := by
    rcases Nat.eq_zero_or_pos s with h | h
    · exact absurd h h0
    · exact ⟨_, Nat.testBit_log2 h0⟩
  have hkn : k < n := by
    rcases Nat.lt_or_ge k n with h | h
    · exact h
    · rw [Nat.testBit_lt_two_pow (Nat.lt_of_lt_of_le hs (Nat.pow_le_pow_right (by omega) h))] at hk; cases hk
  have : ∀ m, k < m → 1 ≤ cnt (fun k => s.testBit k) m := by
    intro m
    induction m with
    | zero => intro h; omega
    | succ m ih =>
      intro h
      simp only [cnt]
      by_cases e : k = m
      · subst e; simp [hk]
      · have := ih (by omega); omega
  exact this n hkn
/-- What a set gives to each of its members: 2520 for all of them together. -/
def partOf (s : Nat) : Nat := 2520 / sz s
theorem partOf_le (s : Nat) : partOf s ≤ 2520 := Nat.div_le_self _ _
theorem partOf_all {n s : Nat} (hn : n ≤ 9) (hs : s < 2^n) (h0 : s ≠ 0) : sz s * partOf s = 2520 := by
  have h1 := sz_pos hn hs h0
  have h9 := sz_le9 s
  unfold partOf
  generalize sz s = z at *
  have : z = 1 ∨ z = 2 ∨ z = 3 ∨ z = 4 ∨ z = 5 ∨ z = 6 ∨ z = 7 ∨ z = 8 ∨ z = 9 := by omega
  rcases this with h | h | h | h | h | h | h | h | h <;> subst h <;> rfl
theorem parts_sum {n : Nat} (hn : n ≤ 9) (L : List Nat) (hL : ∀ s ∈ L, s < 2^n ∧ s ≠ 0) : sumN (gainL partOf L) n = 2520 * L.length := by
  rw [gainL_sum partOf hn L fun s hs => (hL s hs).1]
  induction L with
  | nil => rfl
  | cons s L ih =>
    simp only [List.map_cons, List.sum_cons, List.length_cons, Nat.mul_succ]
    rw [ih fun t ht => hL t (by simp [ht]), partOf_all hn (hL s (by simp)).1 (hL s (by simp)).2]
    omega
/-- How many of the sets have a size. -/
def sizeL (L : List Nat) (z : Nat) : Nat := (L.map fun s => if sz s = z then 1 else 0).sum
theorem sizeL_succ (L : List Nat) (z j : Nat) (h : j < L.length) : sizeL (L.take (j+1)) z = sizeL (L.take j) z + if sz (L.getD j 0) = z then 1 else 0 := by
  unfold sizeL
  rw [take_snoc h, List.map_append, List.sum_append, List.map_cons, List.map_nil, List.sum_cons, List.sum_nil, Nat.add_zero]
theorem sizeL_le (L : List Nat) (z : Nat) : sizeL L z ≤ L.length := by
  unfold sizeL
  induction L with
  | nil => simp
  | cons s L ih => simp only [List.map_cons, List.sum_cons, List.length_cons]; split <;> omega

/-- The least of the sizes of the sets of a kind below N, and b. -/
def minK (P : Nat → Bool) (b : Nat) : Nat → Nat
  | 0 => b
  | j+1 => if P j then min (minK P b j) (sz j) else minK P b j
/-- The greatest of the sizes of the sets of a kind below N. -/
def maxK (P : Nat → Bool) : Nat → Nat
  | 0 => 0
  | j+1 => if P j then max (maxK P j) (sz j) else maxK P j
theorem maxK_le (P : Nat → Bool) (N : Nat) : maxK P N ≤ 9 := by
  induction N with
  | zero => simp [maxK]
  | succ j ih => simp only [maxK]; have := sz_le9 j; split <;> omega
theorem minK_le (P b N) : minK P b N ≤ b := by
  induction N with
  | zero => exact Nat.le_refl _
  | succ j ih => simp only [minK]; split <;> omega
theorem minK_at {P b N s} (hs : s < N) (h : P s = true) : minK P b N ≤ sz s := by
  induction N with
  | zero => omega
  | succ j ih =>
    simp only [minK]
    by_cases e : s = j
    · subst e; rw [if_pos h]; omega
    · have := ih (by omega); split <;> omega
theorem minK_ge {P : Nat → Bool} {b N m : Nat} (hb : m ≤ b) (h : ∀ s, s < N → P s = true → m ≤ sz s) : m ≤ minK P b N := by
  induction N with
  | zero => exact hb
  | succ j ih =>
    simp only [minK]
    have h1 := ih fun s hs => h s (by omega)
    split
    · have := h j (by omega) (by assumption); omega
    · exact h1
end Go.Proofs.Ytlnlkfldlgchhaa.Vo
