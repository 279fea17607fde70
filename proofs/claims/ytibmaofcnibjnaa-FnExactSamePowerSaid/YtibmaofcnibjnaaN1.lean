/- Plain facts on swings, orders and shares; nothing of any program. -/
import Derived.Test.YtibmaofcnibjnaaMath
namespace Go.Proofs.Ytibmaofcnibjnaa.Vo

/-- 1 2 .. n. -/
def fact : Nat → Nat
  | 0 => 1
  | n+1 => fact n * (n+1)
theorem fact_pos (n : Nat) : 0 < fact n := by
  induction n with
  | zero => simp [fact]
  | succ n ih => simp only [fact]; exact Nat.mul_pos ih (by omega)
theorem fact_le {n : Nat} (h : n ≤ 9) : fact n ≤ 362880 := by
  have : n = 0 ∨ n = 1 ∨ n = 2 ∨ n = 3 ∨ n = 4 ∨ n = 5 ∨ n = 6 ∨ n = 7 ∨ n = 8 ∨ n = 9 := by omega
  rcases this with h | h | h | h | h | h | h | h | h | h <;> subst h <;> decide

/-- A swing of k: k is not in, the set loses, and wins with k. -/
def swP (p : Nat → Bool) (k s : Nat) : Bool := !s.testBit k && (!p s && p (s ||| 2^k))

theorem add_pow {n s k : Nat} (_hs : s < 2^n) (_hk : k < n) (hb : s.testBit k = false) : s + 2^k = s ||| 2^k := by
  have h1 : (s ||| 2^k) = s + 2^k := by
    have := Nat.two_pow_pos k
    apply Nat.eq_of_testBit_eq
    intro j
    rw [Nat.testBit_or, Nat.testBit_two_pow]
    have e : s + 2^k = s + 2^k * 1 := by omega
    rcases Nat.lt_trichotomy j k with h | h | h
    · rw [Nat.add_comm, Nat.testBit_two_pow_add_gt h]; simp; omega
    · subst h
      rw [Nat.add_comm, Nat.testBit_two_pow_add_eq, hb]; simp
    · have hd : s = 2^(k+1) * (s / 2^(k+1)) + s % 2^k := by
        have h2 := Nat.div_add_mod s (2^(k+1))
        have h3 : s % 2^(k+1) = s % 2^k := by
          rw [Nat.pow_succ, Nat.mod_mul]
          have : s / 2^k % 2 = 0 := by
            rw [Nat.testBit_eq_decide_div_mod_eq] at hb
            simp at hb; omega
          rw [this]; simp
        omega
      have hm := Nat.mod_lt s this
      have hlt : s % 2^k + 2^k < 2^(k+1) := by rw [Nat.pow_succ]; omega
      have e1 : (s + 2^k).testBit j = (2^(k+1) * (s / 2^(k+1)) + (s % 2^k + 2^k)).testBit j := by
        congr 1; omega
      have e2 : s.testBit j = (2^(k+1) * (s / 2^(k+1)) + (s % 2^k)).testBit j := by rw [← hd]
      rw [e1, e2, Nat.testBit_two_pow_mul_add _ hlt, Nat.testBit_two_pow_mul_add _ (by omega)]
      rw [if_neg (by omega), if_neg (by omega)]
      simp; omega
  exact h1.symm
theorem or_pow_lt {n s k : Nat} (hs : s < 2^n) (hk : k < n) : s ||| 2^k < 2^n := Nat.or_lt_two_pow hs (Nat.pow_lt_pow_right (by omega) hk)

/-- The swings of k below N, as numbers. -/
def swL (p : Nat → Bool) (k N : Nat) : List Nat := (List.range N).filter (swP p k)
theorem swL_succ (p : Nat → Bool) (k N : Nat) : swL p k (N+1) = swL p k N ++ if swP p k N then [N] else [] := by
  simp only [swL, List.range_succ, List.filter_append, List.filter_cons, List.filter_nil]
theorem swL_len (p : Nat → Bool) (k N : Nat) : (swL p k N).length = cnt (swP p k) N := by
  induction N with
  | zero => rfl
  | succ N ih => rw [swL_succ, List.length_append, ih]; simp only [cnt]; split <;> rfl

/-- The sum of the first k. -/
def sumN (f : Nat → Nat) : Nat → Nat
  | 0 => 0
  | k+1 => sumN f k + f k
theorem sumN_congr {f g : Nat → Nat} {k} (h : ∀ j, j < k → f j = g j) : sumN f k = sumN g k := by
  induction k with
  | zero => rfl
  | succ k ih => simp only [sumN]; rw [ih (fun j hj => h j (by omega)), h k (by omega)]
theorem sumN_add (f g : Nat → Nat) (k) : sumN (fun j => f j + g j) k = sumN f k + sumN g k := by
  induction k with
  | zero => rfl
  | succ k ih => simp only [sumN]; rw [ih]; omega
theorem sumN_zero (k) : sumN (fun _ => 0) k = 0 := by
  induction k with
  | zero => rfl
  | succ k ih => simp only [sumN]; rw [ih]
theorem sumN_one (f : Nat → Nat) {z n : Nat} (hz : z < n) : sumN (fun j => if z = j then f j else 0) n = f z := by
  induction n with
  | zero => omega
  | succ n ih =>
    simp only [sumN]
    by_cases e : z = n
    · subst e
      rw [if_pos rfl]
      have : sumN (fun j => if z = j then f j else 0) z = sumN (fun _ => 0) z := sumN_congr fun j hj => if_neg (by omega)
      rw [this, sumN_zero]; omega
    · rw [ih (by omega), if_neg e]; rfl
theorem sumN_le {f : Nat → Nat} {B k : Nat} (h : ∀ j, j < k → f j ≤ B) : sumN f k ≤ B * k := by
  induction k with
  | zero => simp [sumN]
  | succ k ih =>
    have h1 := ih (fun j hj => h j (by omega)); have h2 := h k (by omega)
    simp only [sumN, Nat.mul_succ]; omega

/-- How many members a set below 512 has. -/
def sz (s : Nat) : Nat := (mem s 9).length
theorem sz_lt {n s k : Nat} (hn : n ≤ 9) (hs : s < 2^n) (hk : k < n) (hb : s.testBit k = false) : sz s < n := by
  have miss : ∀ m, k < m → (mem s m).length + 1 ≤ m := by
    intro m
    induction m with
    | zero => intro h; omega
    | succ m ih =>
      intro h
      simp only [mem, List.length_append]
      by_cases e : k = m
      · subst e; rw [hb]; have := mem_len s k; simp; omega
      · have := ih (by omega); split <;> simp <;> omega
  unfold sz
  rw [mem_stop hs (by omega)]
  have := miss n hk; omega

/-- Of how many orders of n members k is the pivot: by swings one after the other. -/
def wayP (n z : Nat) : Nat := fact z * fact (n - 1 - z)
def pivN (p : Nat → Bool) (n k : Nat) (N : Nat) : Nat := sumN (fun s => if swP p k s then wayP n (sz s) else 0) N
/-- How many swings have a size. -/
def sizN (p : Nat → Bool) (k N z : Nat) : Nat := cnt (fun s => swP p k s && decide (sz s = z)) N
theorem pivN_sizes {p : Nat → Bool} {n k N : Nat} (hn : n ≤ 9) (hk : k < n) (hN : N ≤ 2^n) : sumN (fun z => sizN p k N z * wayP n z) n = pivN p n k N := by
  induction N with
  | zero =>
    simp only [sizN, cnt, pivN, sumN]
    rw [show (fun z => 0 * wayP n z) = fun _ => 0 from by funext z; simp, sumN_zero]
  | succ N ih =>
    rw [show pivN p n k (N+1) = pivN p n k N + if swP p k N then wayP n (sz N) else 0 from rfl, ← ih (by omega)]
    have e : ∀ z, sizN p k (N+1) z * wayP n z = sizN p k N z * wayP n z + (if sz N = z then (if swP p k N then wayP n z else 0) else 0) := by
      intro z
      simp only [sizN, cnt]
      rw [Nat.add_mul]
      congr 1
      by_cases h1 : swP p k N = true
      · by_cases h2 : sz N = z
        · simp [h1, h2]
        · simp [h1, h2]
      · simp at h1; simp [h1]
    rw [show (fun z => sizN p k (N+1) z * wayP n z) = fun z => sizN p k N z * wayP n z + (if sz N = z then (if swP p k N then wayP n z else 0) else 0) from funext e, sumN_add]
    congr 1
    by_cases h1 : swP p k N = true
    · have hb : N.testBit k = false := by
        unfold swP at h1; simp at h1; exact h1.1
      rw [sumN_one (fun z => if swP p k N then wayP n z else 0) (sz_lt hn (show N < 2^n by omega) hk hb)]
    · simp at h1
      rw [h1]
      simp [sumN_zero]
theorem wayP_le {n z : Nat} (hn : n ≤ 9) (hz : z ≤ 9) : wayP n z ≤ 131681894400 := by
  have h1 := fact_le hz
  have h2 := fact_le (n := n - 1 - z) (by omega)
  exact Nat.mul_le_mul h1 h2
theorem pivN_le {p : Nat → Bool} {n k N : Nat} (hn : n ≤ 9) (hN : N ≤ 512) : pivN p n k N ≤ 131681894400 * 512 := by
  refine Nat.le_trans (sumN_le (B := 131681894400) fun j _ => ?_) (Nat.mul_le_mul_left _ hN)
  split
  · exact wayP_le hn (by have := mem_len j 9; unfold sz; omega)
  · omega

/-- A list of numbers, one a member. -/
def perL (f : Nat → Nat) (n : Nat) : List Int := (List.range n).map fun k => ((f k : Nat) : Int)
theorem perL_len (f n) : (perL f n).length = n := by simp [perL]
theorem perL_succ (f n) : perL f (n+1) = perL f n ++ [((f n : Nat) : Int)] := by simp [perL, List.range_succ]
theorem perL_get {f : Nat → Nat} {n k : Nat} (h : k < n) : (perL f n).getD k 0 = ((f k : Nat) : Int) := by
  simp [perL, List.getD_eq_getElem?_getD, h]
theorem perL_congr {f g : Nat → Nat} {n} (h : ∀ j, j < n → f j = g j) : perL f n = perL g n := by
  unfold perL
  apply List.map_congr_left
  intro j hj
  simp at hj
  rw [h j hj]
end Go.Proofs.Ytibmaofcnibjnaa.Vo
