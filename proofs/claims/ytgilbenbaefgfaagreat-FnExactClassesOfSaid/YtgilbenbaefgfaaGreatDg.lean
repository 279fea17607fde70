/- Plain facts of desire: it is transitive, and the order of worth. -/
import Derived.Test.YtgilbenbaefgfaaGreatDc
import Derived.Outline
namespace Go.Proofs.YtgilbenbaefgfaaGreat
open Go.RowKit Vo

theorem worth_iff {p : Nat → Bool} {n i j : Nat} : worthP p n i j = true ↔ ∀ s, s < 2^n → s.testBit i = false → s.testBit j = false → p (s ||| 2^j) = true → p (s ||| 2^i) = true := by
  unfold worthP
  rw [allK_iff]
  constructor
  · intro h s hs hi hj hp
    have := h s hs
    unfold worthS at this
    rw [hi, hj, hp] at this
    simpa using this
  · intro h s hs
    unfold worthS
    cases hi : s.testBit i
    · cases hj : s.testBit j
      · cases hp : p (s ||| 2^j)
        · rfl
        · rw [h s hs hi hj hp]; rfl
      · rfl
    · rfl
theorem worth_refl (p : Nat → Bool) (n i : Nat) : worthP p n i i = true := worth_iff.2 fun _ _ _ _ h => h
theorem clear_bit {s j : Nat} (h : s.testBit j = true) : ∃ t, t.testBit j = false ∧ s = t ||| 2^j ∧ (∀ k, k ≠ j → t.testBit k = s.testBit k) ∧ t ≤ s := by
  have h0 : ∀ k, (s ^^^ 2^j).testBit k = (s.testBit k ^^ decide (j = k)) := fun k => by rw [Nat.testBit_xor, Nat.testBit_two_pow]
  have he : s = (s ^^^ 2^j) ||| 2^j := by
    apply Nat.eq_of_testBit_eq
    intro k
    rw [Nat.testBit_or, h0, Nat.testBit_two_pow]
    by_cases e : j = k
    · subst e; rw [h]; simp
    · simp [e]
  refine ⟨s ^^^ 2^j, by rw [h0, h]; simp, he, fun k hk => by rw [h0]; simp [Ne.symm hk], ?_⟩
  have hl : (s ^^^ 2^j) ≤ (s ^^^ 2^j) ||| 2^j := Nat.left_le_or
  rw [← he] at hl
  exact hl
theorem worth_trans {p : Nat → Bool} {n i j k : Nat} (hi : i < n) (hj : j < n) (hk : k < n) (h1 : worthP p n i j = true) (h2 : worthP p n j k = true) : worthP p n i k = true := by
  rw [worth_iff] at h1 h2 ⊢
  intro s hs si sk hp
  by_cases eij : i = j
  · subst eij; exact h2 s hs si sk hp
  by_cases ejk : j = k
  · subst ejk; exact h1 s hs si sk hp
  by_cases eik : i = k
  · subst eik; exact hp
  cases sj : s.testBit j
  · exact h1 s hs si sj (h2 s hs sj sk hp)
  · obtain ⟨t, tj, hst, hte, hle⟩ := clear_bit sj
    have ht : t < 2^n := by omega
    have ti : t.testBit i = false := by rw [hte i eij]; exact si
    have tk : t.testBit k = false := by rw [hte k (Ne.symm ejk)]; exact sk
    have b : ∀ x y, (t ||| 2^x).testBit y = (t.testBit y || decide (x = y)) := fun x y => by rw [Nat.testBit_or, Nat.testBit_two_pow]
    have e1 : s ||| 2^k = (t ||| 2^k) ||| 2^j := by rw [hst, Nat.or_assoc, Nat.or_comm (2^j), ← Nat.or_assoc]
    have e2 : s ||| 2^i = (t ||| 2^i) ||| 2^j := by rw [hst, Nat.or_assoc, Nat.or_comm (2^j), ← Nat.or_assoc]
    have e3 : (t ||| 2^k) ||| 2^i = (t ||| 2^i) ||| 2^k := by rw [Nat.or_assoc, Nat.or_comm (2^k), ← Nat.or_assoc]
    rw [e1] at hp
    have q1 := h1 (t ||| 2^k) (or_pow_lt ht hk) (by rw [b, ti, decide_eq_false (Ne.symm eik)]; rfl) (by rw [b, tj, decide_eq_false (Ne.symm ejk)]; rfl) hp
    rw [e3] at q1
    have q2 := h2 (t ||| 2^i) (or_pow_lt ht hi) (by rw [b, tj, decide_eq_false eij]; rfl) (by rw [b, tk, decide_eq_false eik]; rfl) q1
    rw [e2]
    exact q2

theorem cnt_mono {f g : Nat → Bool} {n : Nat} (h : ∀ j, j < n → f j = true → g j = true) : cnt f n ≤ cnt g n := by
  induction n with
  | zero => exact Nat.le_refl _
  | succ n ih =>
    have := ih (fun j hj => h j (by omega))
    have h2 := h n (by omega)
    simp only [cnt]
    cases hf : f n
    · simp; omega
    · rw [h2 hf]; simp; omega
theorem cnt_strict {f g : Nat → Bool} {n k : Nat} (h : ∀ j, j < n → f j = true → g j = true) (hk : k < n) (hg : g k = true) (hf : f k = false) : cnt f n < cnt g n := by
  induction n with
  | zero => omega
  | succ n ih =>
    simp only [cnt]
    by_cases e : k = n
    · subst e
      have := cnt_mono (n := k) (fun j hj => h j (by omega))
      rw [hf, hg]; simp; omega
    · have := ih (fun j hj => h j (by omega)) (by omega)
      have h2 := h n (by omega)
      cases hfn : f n
      · simp; omega
      · rw [h2 hfn]; simp; omega
theorem selK_size (f : Nat → Bool) {n : Nat} (hn : n ≤ 9) : (mem (selK f n) 9).length = cnt f n := by
  induction n with
  | zero => simp [selK, mem_zero, cnt]
  | succ n ih =>
    simp only [selK, cnt]
    split
    · rw [mem_or (selK_lt f n) (by omega), List.length_append, ih (by omega)]; rfl
    · rw [ih (by omega)]; rfl
/-- Is one greater than another one? -/
def grK (f : Nat → Nat → Bool) (i j : Nat) : Bool := f i j && !f j i
structure Desire (f : Nat → Nat → Bool) (n : Nat) : Prop where
  refl : ∀ i, f i i = true
  trans : ∀ i j k, i < n → j < n → k < n → f i j = true → f j k = true → f i k = true
theorem worth_desire (p : Nat → Bool) (n : Nat) : Desire (worthP p n) n := ⟨worth_refl p n, fun _ _ _ hi hj hk h1 h2 => worth_trans hi hj hk h1 h2⟩
theorem compB_all {f : Nat → Nat → Bool} {n : Nat} (h : compB f n = true) : ∀ i j, i < n → j < n → i ≠ j → (f i j || f j i) = true := by
  have H : ∀ i, i < n → ∀ j, j < i → (f i j || f j i) = true := fun i hi j hj => allK_iff.1 (allK_iff.1 h i hi) j hj
  intro i j hi hj hne
  by_cases e : j < i
  · exact H i hi j e
  · rw [Bool.or_comm]; exact H j hj i (by omega)
/-- In a complete game the greater one is worth more members. -/
theorem great_size {f : Nat → Nat → Bool} {n i j : Nat} (hd : Desire f n) (hc : compB f n = true) (hi : i < n) (hj : j < n) : decide (cnt (f j) n < cnt (f i) n) = grK f i j := by
  have mono : ∀ a b, a < n → b < n → f a b = true → cnt (f b) n ≤ cnt (f a) n := fun a b ha hb h => cnt_mono fun k hk hbk => hd.trans a b k ha hb hk h hbk
  have strict : ∀ a b, a < n → b < n → f a b = true → f b a = false → cnt (f b) n < cnt (f a) n := fun a b ha hb h h' => cnt_strict (k := a) (fun k hk hbk => hd.trans a b k ha hb hk h hbk) ha (hd.refl a) h'
  unfold grK
  by_cases e : i = j
  · subst e; cases f i i <;> simp
  · have hor := compB_all hc i j hi hj e
    cases h1 : f i j
    · cases h2 : f j i
      · rw [h1, h2] at hor; cases hor
      · have := mono j i hj hi h2
        rw [decide_eq_false (by omega)]; rfl
    · cases h2 : f j i
      · rw [decide_eq_true (strict i j hi hj h1 h2)]; rfl
      · have := mono j i hj hi h2
        rw [decide_eq_false (by omega)]; rfl

/-- The place for a new one, looked for from the end on: g tells whether it is greater than the one at a place. -/
def posK (g : Nat → Bool) : Nat → Nat
  | 0 => 0
  | k+1 => if g k then posK g k else k+1
theorem posK_le (g : Nat → Bool) : ∀ k, posK g k ≤ k
  | 0 => Nat.le_refl _
  | k+1 => by
    have := posK_le g k
    simp only [posK]
    split <;> omega
/-- The first i members, in order. -/
def ordL (gr : Nat → Nat → Bool) : Nat → List Nat
  | 0 => []
  | i+1 => (ordL gr i).take (posK (fun t => gr i ((ordL gr i).getD t 0)) i) ++ i :: (ordL gr i).drop (posK (fun t => gr i ((ordL gr i).getD t 0)) i)
theorem ordL_len (gr) (i : Nat) : (ordL gr i).length = i := by
  induction i with
  | zero => rfl
  | succ i ih =>
    have := posK_le (fun t => gr i ((ordL gr i).getD t 0)) i
    simp only [ordL, List.length_append, List.length_take, List.length_cons, List.length_drop, ih]
    omega
theorem ordL_lt (gr) (i : Nat) : ∀ x ∈ ordL gr i, x < i := by
  induction i with
  | zero => intro x h; cases h
  | succ i ih =>
    intro x h
    simp only [ordL, List.mem_append, List.mem_cons] at h
    rcases h with h | h | h
    · have := ih x (List.mem_of_mem_take h); omega
    · omega
    · have := ih x (List.mem_of_mem_drop h); omega
/-- The row while the new one goes down: it stands at j. -/
def dV (L : List Nat) (i j t : Nat) : Nat := if t < j then L.getD t 0 else if t = j then i else if t ≤ i then L.getD (t-1) 0 else t
def outV (L : List Nat) (i t : Nat) : Nat := if t < i then L.getD t 0 else t
theorem dV_start (L : List Nat) (i t : Nat) : dV L i i t = outV L i t := by
  unfold dV outV
  by_cases h : t < i
  · simp [h]
  · by_cases e : t = i
    · subst e; simp
    · simp [h, e, show ¬ t ≤ i from by omega]
theorem dV_swap (L : List Nat) (i j t : Nat) (hj : j + 1 ≤ i) : dV L i j t = if t = j then i else if t = j + 1 then L.getD j 0 else dV L i (j+1) t := by
  unfold dV
  by_cases e : t = j
  · subst e; simp
  · by_cases e2 : t = j + 1
    · subst e2
      simp [show ¬ j + 1 < j from by omega, hj]
    · by_cases h : t < j
      · simp [h, e, e2, show t < j + 1 from by omega]
      · simp [h, e, e2, show ¬ t < j + 1 from by omega]
theorem dV_at (L : List Nat) (i j : Nat) : dV L i j j = i := by unfold dV; simp
theorem dV_below (L : List Nat) (i j : Nat) : dV L i (j+1) j = L.getD j 0 := by unfold dV; simp
theorem dV_end (gr) (i t : Nat) : dV (ordL gr i) i (posK (fun t => gr i ((ordL gr i).getD t 0)) i) t = outV (ordL gr (i+1)) (i+1) t := by
  have hp := posK_le (fun t => gr i ((ordL gr i).getD t 0)) i
  have hl := ordL_len gr i
  unfold outV dV
  simp only [ordL]
  generalize posK (fun t => gr i ((ordL gr i).getD t 0)) i = j at *
  generalize ordL gr i = L at *
  by_cases h : t < j
  · have h1 : t < (L.take j).length := by rw [List.length_take]; omega
    rw [if_pos h, if_pos (show t < i + 1 by omega), List.getD_eq_getElem?_getD, List.getD_eq_getElem?_getD, List.getElem?_append_left h1, List.getElem?_take_of_lt h]
  · rw [if_neg h]
    have hlen : (L.take j).length = j := by rw [List.length_take]; omega
    by_cases e : t = j
    · subst e
      rw [if_pos rfl, if_pos (show t < i + 1 by omega), List.getD_eq_getElem?_getD, List.getElem?_append_right (by omega), hlen]
      simp
    · rw [if_neg e]
      by_cases h2 : t ≤ i
      · rw [if_pos h2, if_pos (show t < i + 1 by omega), List.getD_eq_getElem?_getD, List.getD_eq_getElem?_getD, List.getElem?_append_right (by omega), hlen]
        obtain ⟨d, rfl⟩ : ∃ d, t = j + 1 + d := ⟨t - j - 1, by omega⟩
        rw [show j + 1 + d - j = d + 1 by omega, List.getElem?_cons_succ, List.getElem?_drop, show j + 1 + d - 1 = j + d by omega]
      · rw [if_neg h2, if_neg (by omega)]
def natsI (L : List Nat) : List Int := L.map fun (k : Nat) => (k : Int)
theorem natsI_len (L : List Nat) : (natsI L).length = L.length := by simp [natsI]
theorem natsI_getD (L : List Nat) (t : Nat) : (natsI L).getD t 0 = ((L.getD t 0 : Nat) : Int) := by
  unfold natsI
  rw [List.getD_eq_getElem?_getD, List.getD_eq_getElem?_getD, List.getElem?_map]
  cases L[t]? <;> rfl
theorem all_list (n : Nat) (hn : n ≤ 9) : ∀ t, t < n → (mem (2^n - 1) 9).getD t 0 = (t : Int) ∧ (mem (2^n - 1) 9).length = n := by
  have H : ∀ n, n < 10 → ∀ t, t < n → (mem (2^n - 1) 9).getD t 0 = (t : Int) ∧ (mem (2^n - 1) 9).length = n := by decide +kernel
  exact H n (by omega)
end Go.Proofs.YtgilbenbaefgfaaGreat
