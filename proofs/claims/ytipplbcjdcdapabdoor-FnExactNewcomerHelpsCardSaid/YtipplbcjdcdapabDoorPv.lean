/- What is counted for some members together; the party of one member; gains of the program by swings. -/
import Derived.Test.YtipplbcjdcdapabDoorN9
import Derived.Test.YtipplbcjdcdapabDoorPh
import Derived.Test.YtipplbcjdcdapabDoorN1
namespace Go.Proofs.YtipplbcjdcdapabDoor.Vo

theorem sumN_split (f : Nat → Nat) (a b : Nat) : sumN f (a + b) = sumN f a + sumN (fun s => f (s + a)) b := by
  induction b with
  | zero => rfl
  | succ b ih =>
    rw [show a + (b + 1) = (a + b) + 1 from rfl]
    simp only [sumN]
    rw [ih, Nat.add_comm b a]; omega
theorem sumN_pow (f : Nat → Nat) (n : Nat) : sumN f (2^(n+1)) = sumN f (2^n) + sumN (fun s => f (s + 2^n)) (2^n) := by
  rw [Nat.pow_succ, Nat.mul_two, sumN_split]
theorem sumN_swap (f : Nat → Nat → Nat) (n m : Nat) : sumN (fun k => sumN (fun s => f k s) m) n = sumN (fun s => sumN (fun k => f k s) n) m := by
  induction n with
  | zero => simp only [sumN]; exact (sumN_zero m).symm
  | succ n ih => simp only [sumN]; rw [ih, ← sumN_add]
theorem bit_up {s k n : Nat} (hk : k < n) : (s + 2^n).testBit k = s.testBit k := by
  rw [Nat.add_comm, Nat.testBit_two_pow_add_gt hk]
theorem bit_top {s n : Nat} (hs : s < 2^n) : (s + 2^n).testBit n = true ∧ s.testBit n = false := by
  have h : s.testBit n = false := Nat.testBit_lt_two_pow hs
  refine ⟨?_, h⟩
  rw [Nat.add_comm, Nat.testBit_two_pow_add_eq, h]; rfl
theorem or_up {s k n : Nat} (hs : s < 2^n) (hk : k < n) : (s + 2^n) ||| 2^k = (s ||| 2^k) + 2^n := by
  have h1 : s ||| 2^k < 2^n := Nat.or_lt_two_pow hs (Nat.pow_lt_pow_right (by omega) hk)
  have a := Nat.two_pow_add_eq_or_of_lt hs 1
  have b := Nat.two_pow_add_eq_or_of_lt h1 1
  rw [Nat.mul_one] at a b
  rw [show s + 2^n = 2^n + s from Nat.add_comm _ _, show (s ||| 2^k) + 2^n = 2^n + (s ||| 2^k) from Nat.add_comm _ _, a, b, Nat.or_assoc]
theorem or_top {s n : Nat} (hs : s < 2^n) : s ||| 2^n = s + 2^n := by
  have a := Nat.two_pow_add_eq_or_of_lt hs 1
  rw [Nat.mul_one] at a
  rw [Nat.add_comm s, a, Nat.or_comm]
/-- All sets without k, each with k: all sets with k. -/
theorem sum_with {n k : Nat} (hk : k < n) : ∀ f : Nat → Nat, sumN (fun s => if s.testBit k then 0 else f (s ||| 2^k)) (2^n) = sumN (fun s => if s.testBit k then f s else 0) (2^n) := by
  induction n with
  | zero => omega
  | succ n ih =>
    intro f
    rw [sumN_pow, sumN_pow]
    by_cases e : k = n
    · subst e
      rw [sumN_congr (g := fun s => f (s + 2^k)) fun s hs => by simp [(bit_top hs).2, or_top hs],
        sumN_congr (f := fun s => if (s + 2^k).testBit k then 0 else _) (g := fun _ => 0) fun s hs => by simp [(bit_top hs).1],
        sumN_congr (f := fun s => if s.testBit k then f s else 0) (g := fun _ => 0) fun s hs => by simp [(bit_top hs).2],
        sumN_congr (f := fun s => if (s + 2^k).testBit k then f (s + 2^k) else 0) (g := fun s => f (s + 2^k)) fun s hs => by simp [(bit_top hs).1]]
      omega
    · have hk' : k < n := by omega
      rw [ih hk' f]
      congr 1
      rw [sumN_congr (g := fun s => if s.testBit k then 0 else (fun t => f (t + 2^n)) (s ||| 2^k)) fun s hs => by simp only [bit_up hk', or_up hs hk'],
        sumN_congr (f := fun s => if (s + 2^n).testBit k then f (s + 2^n) else 0) (g := fun s => if s.testBit k then (fun t => f (t + 2^n)) s else 0) fun s hs => by simp only [bit_up hk']]
      exact ih hk' (fun t => f (t + 2^n))
theorem cnt_bits (s n : Nat) : sumN (fun k => if s.testBit k then 1 else 0) n = (mem s n).length := by
  induction n with
  | zero => rfl
  | succ n ih => simp only [sumN, mem, List.length_append]; rw [ih]; cases s.testBit n <;> rfl
theorem cnt_sz {s n : Nat} (hs : s < 2^n) (hn : n ≤ 9) : sumN (fun k => if s.testBit k then 1 else 0) n = sz s := by
  rw [cnt_bits, sz, mem_stop hs hn]
theorem sum_bits {s n : Nat} (a : Nat) (hs : s < 2^n) (hn : n ≤ 9) : sumN (fun k => if s.testBit k then a else 0) n = sz s * a := by
  rw [← cnt_sz hs hn]
  clear hs hn
  induction n with
  | zero => simp [sumN]
  | succ n ih => simp only [sumN]; rw [ih, Nat.add_mul]; cases s.testBit n <;> simp
theorem sum_nobits {s n : Nat} (a : Nat) (hs : s < 2^n) (hn : n ≤ 9) : sumN (fun k => if s.testBit k then 0 else a) n + sz s * a = n * a := by
  rw [← sum_bits a hs hn, ← sumN_add]
  clear hs hn
  induction n with
  | zero => simp [sumN]
  | succ n ih => simp only [sumN]; rw [ih, Nat.succ_mul]; cases s.testBit n <;> simp
theorem szP_le {s n : Nat} (hs : s < 2^n) (hn : n ≤ 9) : sz s ≤ n := by
  have := sum_nobits 1 hs hn; omega
theorem sz_or {s n k : Nat} (hs : s < 2^n) (hk : k < n) (hn : n ≤ 9) (hb : s.testBit k = false) : sz (s ||| 2^k) = sz s + 1 := by
  have ho : s ||| 2^k < 2^n := Nat.or_lt_two_pow hs (Nat.pow_lt_pow_right (by omega) hk)
  rw [← cnt_sz ho hn, ← cnt_sz hs hn]
  have key : ∀ m, sumN (fun j => if (s ||| 2^k).testBit j then 1 else 0) m = sumN (fun j => if s.testBit j then 1 else 0) m + if k < m then 1 else 0 := by
    intro m
    induction m with
    | zero => simp [sumN]
    | succ m ih =>
      simp only [sumN]
      rw [ih]
      by_cases e : m = k
      · subst e
        simp [Nat.testBit_or, hb]
      · rw [Nat.testBit_or, Nat.testBit_two_pow]
        have e1 : decide (k = m) = false := by simp; omega
        rw [e1, Bool.or_false]
        rcases Nat.lt_or_ge k m with h | h
        · rw [if_pos h, if_pos (show k < m + 1 by omega)]; omega
        · rw [if_neg (show ¬ k < m by omega), if_neg (show ¬ k < m + 1 by omega)]; omega
  rw [key n, if_pos hk]
theorem szP_full {n s : Nat} (hn : n ≤ 9) (hs : s < 2^n) (h : sz s = n) : s = 2^n - 1 := by
  have h0 := sum_nobits 1 hs hn
  have hz : sumN (fun k => if s.testBit k then 0 else 1) n = 0 := by omega
  have hb : ∀ m, sumN (fun k => if s.testBit k then 0 else 1) m = 0 → ∀ k, k < m → s.testBit k = true := by
    intro m
    induction m with
    | zero => intro _ k hk; omega
    | succ m ih =>
      intro h k hk
      simp only [sumN] at h
      by_cases e : k = m
      · subst e
        cases hc : s.testBit k
        · rw [hc] at h; simp at h
        · rfl
      · exact ih (by omega) k (by omega)
  apply Nat.eq_of_testBit_eq
  intro i
  rw [Nat.testBit_two_pow_sub_one]
  by_cases hi : i < n
  · rw [hb n hz i hi]; simp [hi]
  · rw [Nat.testBit_lt_two_pow (Nat.lt_of_lt_of_le hs (Nat.pow_le_pow_right (by omega) (by omega)))]; simp [hi]
theorem sz_zero {n s : Nat} (hn : n ≤ 9) (hs : s < 2^n) (h : sz s = 0) : s = 0 := by
  have h0 := cnt_sz hs hn
  have hb : ∀ m, sumN (fun k => if s.testBit k then 1 else 0) m = 0 → ∀ k, k < m → s.testBit k = false := by
    intro m
    induction m with
    | zero => intro _ k hk; omega
    | succ m ih =>
      intro h k hk
      simp only [sumN] at h
      by_cases e : k = m
      · subst e
        cases hc : s.testBit k
        · rfl
        · rw [hc] at h; simp at h
      · exact ih (by omega) k (by omega)
  apply Nat.eq_of_testBit_eq
  intro i
  rw [Nat.zero_testBit]
  by_cases hi : i < n
  · exact hb n (by omega) i hi
  · exact Nat.testBit_lt_two_pow (Nat.lt_of_lt_of_le hs (Nat.pow_le_pow_right (by omega) (by omega)))
theorem sumN_single {f : Nat → Nat} {N z : Nat} (hz : z < N) (h : ∀ j, j < N → j ≠ z → f j = 0) : sumN f N = f z := by
  induction N with
  | zero => omega
  | succ N ih =>
    simp only [sumN]
    by_cases e : z = N
    · subst e
      rw [sumN_congr (g := fun _ => 0) fun j hj => h j (by omega) (by omega), sumN_zero]; omega
    · rw [ih (by omega) fun j hj hne => h j (by omega) hne, h N (by omega) (fun e' => e e'.symm)]; omega
theorem way_in {n z : Nat} (h1 : 0 < z) (_h2 : z < n) : z * wayP n (z - 1) = (n - z) * wayP n z := by
  obtain ⟨y, rfl⟩ : ∃ y, z = y + 1 := ⟨z - 1, by omega⟩
  obtain ⟨d, rfl⟩ : ∃ d, n = y + 1 + d + 1 := ⟨n - (y + 2), by omega⟩
  unfold wayP
  rw [show y + 1 - 1 = y by omega, show y + 1 + d + 1 - 1 - y = d + 1 by omega, show y + 1 + d + 1 - (y + 1) = d + 1 by omega, show y + 1 + d + 1 - 1 - (y + 1) = d by omega]
  simp only [fact]
  ac_rfl
/-- Each order has one pivot. -/
theorem pivots_all {p : Nat → Bool} {n : Nat} (hn1 : 1 ≤ n) (hn : n ≤ 9) (h0 : p 0 = false) (hN : p (2^n - 1) = true) (hm : ∀ s k, s < 2^n → k < n → p s = true → p (s ||| 2^k) = true) :
    sumN (fun k => pivN p n k (2^n)) n = fact n := by
  have e1 : sumN (fun k => pivN p n k (2^n)) n + sumN (fun k => sumN (fun s => if s.testBit k then 0 else if p s then wayP n (sz s) else 0) (2^n)) n
      = sumN (fun k => sumN (fun s => if s.testBit k then (if p s then wayP n (sz s - 1) else 0) else 0) (2^n)) n := by
    rw [← sumN_add]
    apply sumN_congr
    intro k hk
    rw [← sum_with hk (fun t => if p t then wayP n (sz t - 1) else 0)]
    show sumN _ (2^n) + sumN _ (2^n) = _
    rw [← sumN_add]
    apply sumN_congr
    intro s hs
    cases hb : s.testBit k
    · have h1 := sz_or hs hk hn hb
      have h2 := hm s k hs hk
      rw [h1]
      unfold swP
      rw [hb]
      cases hp : p s
      · cases hq : p (s ||| 2^k) <;> simp
      · rw [h2 hp]; simp
    · unfold swP; rw [hb]; simp
  have e2 : sumN (fun s => sumN (fun k => if s.testBit k then (if p s then wayP n (sz s - 1) else 0) else 0) n) (2^n)
      = sumN (fun s => (if s = 2^n - 1 then fact n else 0) + sumN (fun k => if s.testBit k then 0 else if p s then wayP n (sz s) else 0) n) (2^n) := by
    apply sumN_congr
    intro s hs
    rw [sum_bits _ hs hn]
    have h3 := sum_nobits (if p s then wayP n (sz s) else 0) hs hn
    have h4 := szP_le hs hn
    cases hp : p s
    · rw [hp] at h3
      simp at h3
      by_cases he : s = 2^n - 1
      · rw [he, hN] at hp; cases hp
      · rw [if_neg he]
        simp only [Bool.false_eq_true, if_false]
        rw [sumN_congr (f := fun k => if s.testBit k = true then 0 else 0) (g := fun _ => 0) fun k _ => by cases s.testBit k <;> rfl, sumN_zero]
        simp
    · rw [hp] at h3
      simp only [if_true] at h3 ⊢
      by_cases hz : sz s = n
      · have he := szP_full hn hs hz
        rw [if_pos he, hz]
        rw [hz] at h3
        have h5 : sumN (fun k => if s.testBit k then 0 else wayP n n) n = 0 := by omega
        rw [h5]
        clear h5 h3 e1
        obtain ⟨m, rfl⟩ : ∃ m, n = m + 1 := ⟨n - 1, by omega⟩
        unfold wayP
        rw [show m + 1 - 1 - (m + 1 - 1) = 0 by omega, show m + 1 - 1 = m by omega]
        simp only [fact]
        rw [Nat.mul_one, Nat.mul_comm]; rfl
      · have hne : s ≠ 2^n - 1 := by
          intro e
          apply hz
          have h6 := sum_nobits (n := n) 1 hs hn
          have h7 : sumN (fun k => if s.testBit k then 0 else 1) n = 0 := by
            rw [sumN_congr (g := fun _ => 0) fun k hk => by rw [e, Nat.testBit_two_pow_sub_one]; simp [hk], sumN_zero]
          omega
        rw [if_neg hne]
        have hpos : 0 < sz s := by
          rcases Nat.eq_zero_or_pos (sz s) with h | h
          · have := sz_zero hn hs h
            subst this
            rw [h0] at hp; cases hp
          · exact h
        have h8 := way_in hpos (show sz s < n by omega)
        rw [Nat.sub_mul] at h8
        omega
  have s1 := sumN_swap (fun k s => if s.testBit k then (if p s then wayP n (sz s - 1) else 0) else 0) n (2^n)
  have s2 := sumN_swap (fun k s => if s.testBit k then 0 else if p s then wayP n (sz s) else 0) n (2^n)
  rw [sumN_add, sumN_single (f := fun s => if s = 2^n - 1 then fact n else 0) (z := 2^n - 1) (by have := Nat.two_pow_pos n; omega) fun j _ hj => if_neg hj, if_pos rfl] at e2

  omega
theorem wtK_or_ge {ws : List Int} {n s t : Nat} (h : InK 0 1000 ws n) : wtK ws s n ≤ wtK ws (s ||| t) n := by
  induction n with
  | zero => simp [wtK]
  | succ n ih =>
    have h1 := ih (h.mono (by omega))
    have h2 := h n (by omega)
    simp only [wtK, Nat.testBit_or]
    generalize ws.getD n 0 = x at *
    cases s.testBit n <;> cases t.testBit n <;> simp <;> omega
theorem wtK_none (ws : List Int) (k : Nat) : wtK ws 0 k = 0 := by
  induction k with
  | zero => rfl
  | succ k ih => simp only [wtK, Nat.zero_testBit]; rw [ih]; simp
/-- The pivots of a committee's members are together all orders. -/
theorem pivots_good {q : Int} {ws : List Int} {n : Nat} (hg : Good q ws n) : sumN (fun k => pivN (fun s => decide (q ≤ wtK ws s n)) n k (2^n)) n = fact n := by
  have h1 := hg.q1
  have h2 := hg.q2
  refine pivots_all hg.lo hg.hi ?_ ?_ ?_
  · rw [wtK_none]; simp; omega
  · rw [wtK_full (Nat.le_refl _)]; simp; omega
  · intro s k _ _ h
    have h3 := wtK_or_ge (s := s) (t := 2^k) hg.ok
    have h4 := of_decide_eq_true h
    exact decide_eq_true (by omega)
end Go.Proofs.YtipplbcjdcdapabDoor.Vo

namespace Go.Proofs.YtipplbcjdcdapabDoor
open Go.RowKit Vo

/-- What some members have together. -/
def partN (f : Nat → Nat) (s n : Nat) : Nat := sumN (fun j => if s.testBit j then f j else 0) n
theorem sumK_per (f : Nat → Nat) {n k : Nat} (h : k ≤ n) : sumK (perL f n) k = ((sumN f k : Nat) : Int) := by
  induction k with
  | zero => rfl
  | succ k ih => simp only [sumK, sumN]; rw [ih (by omega), perL_get (by omega)]; simp
theorem wtK_per (f : Nat → Nat) (s : Nat) {n k : Nat} (h : k ≤ n) : wtK (perL f n) s k = ((partN f s k : Nat) : Int) := by
  induction k with
  | zero => rfl
  | succ k ih =>
    have e : partN f s (k+1) = partN f s k + if s.testBit k then f k else 0 := rfl
    simp only [wtK]
    rw [ih (by omega), perL_get (by omega), e]
    cases s.testBit k <;> simp
theorem partN_le (f : Nat → Nat) (s n : Nat) : partN f s n ≤ sumN f n := by
  induction n with
  | zero => exact Nat.le_refl _
  | succ n ih =>
    have e : partN f s (n+1) = partN f s n + if s.testBit n then f n else 0 := rfl
    rw [e]
    simp only [sumN]
    cases s.testBit n <;> simp <;> omega
theorem partN_one (f : Nat → Nat) {k n : Nat} (h : k < n) : partN f (2^k) n = f k := by
  unfold partN
  rw [sumN_single h fun j _ hj => by rw [Nat.testBit_two_pow, decide_eq_false (fun e => hj e.symm)]; rfl]
  rw [Nat.testBit_two_pow_self]; rfl
theorem partN_two (f : Nat → Nat) {i j n : Nat} (hi : i < n) (hj : j < n) (hij : i ≠ j) : partN f (2^i ||| 2^j) n = f i + f j := by
  have e : partN f (2^i ||| 2^j) n = sumN (fun k => (if i = k then f k else 0) + (if j = k then f k else 0)) n := sumN_congr fun k _ => by
    rw [Nat.testBit_or, Nat.testBit_two_pow, Nat.testBit_two_pow]
    by_cases h1 : i = k
    · have h2 : ¬ j = k := fun h => hij (h1.trans h.symm)
      simp [h1, h2]
    · by_cases h2 : j = k
      · simp [h1, h2]
      · simp [h1, h2]
  rw [e, sumN_add, sumN_one f hi, sumN_one f hj]
/-- All swings together. -/
def swS (q : Int) (ws : List Int) (n : Nat) : Nat := sumN (swingN q ws n) n
theorem swingN_le (q : Int) (ws : List Int) (n : Nat) (k : Nat) (hn : n ≤ 9) : swingN q ws n k ≤ 512 := Nat.le_trans (cnt_le _ _) (pow_lt hn)
theorem swS_le {q : Int} {ws : List Int} {n : Nat} (hn : n ≤ 9) : swS q ws n ≤ 4608 := by
  have h := sumN_le (f := swingN q ws n) (B := 512) (k := n) fun k _ => swingN_le q ws n k hn
  unfold swS
  have : 512 * n ≤ 4608 := by omega
  omega
theorem perL_in (f : Nat → Nat) {B n : Nat} (h : ∀ k, f k ≤ B) : InK 0 B (perL f n) n := fun j hj => by
  rw [perL_get hj]
  have := h j
  omega
theorem InK.up {a b c : Int} {ws : List Int} {n : Nat} (h : InK a b ws n) (hc : b ≤ c) : InK a c ws n := fun j hj => ⟨(h j hj).1, Int.le_trans (h j hj).2 hc⟩
theorem part_swings {q : Int} {ws : List Int} {n s : Nat} (hg : Vo.Good q ws n) (hs : s < 512) : Part (perL (swingN q ws n) n) s (partN (swingN q ws n) s n) (swS q ws n) where
  len := by rw [perL_len]; have := hg.hi; omega
  set := hs
  ok := by rw [perL_len]; exact InK.up (perL_in _ (fun k => swingN_le q ws n k hg.hi)) (by omega)
  own := by rw [perL_len]; exact wtK_per _ _ (Nat.le_refl _)
  all := by rw [perL_len]; exact sumK_per _ (Nat.le_refl _)
  le := partN_le _ _ _
  one := swings_pos hg
  few := by have := swS_le (q := q) (ws := ws) hg.hi; omega

/-- Whether a part of the second committee's swings is greater than one of the first's. -/
def gainV (q : Int) (ws : List Int) (n s : Nat) (q' : Int) (ws' : List Int) (n' s' : Nat) : Int := sgn ((partN (swingN q' ws' n') s' n' : Int) * swS q ws n - (partN (swingN q ws n) s n : Int) * swS q' ws' n')

set_option maxRecDepth 20000 in
set_option maxHeartbeats 1000000 in
theorem gainSwings_any (q q' : Int) (A A' : Option Addr) (n cap n' cap' s s' : Nat) (ws ws' : List Int) (w : World) (hg : Vo.Good q ws n) (hg' : Vo.Good q' ws' n') (hs : s < 512) (hs' : s' < 512) (hk : Known w A n ws) (hk' : Known w A' n' ws') :
    Calls Tryd.prog 22 #[.agg #[.int .i64 q, .slice A n cap, .int .u64 s], .agg #[.int .i64 q', .slice A' n' cap', .int .u64 s'], .func (.func 24) #[] #[]] w fun e w' => e = .returned (.int .i64 (gainV q ws n s q' ws' n' s')) ∧ Below w.heap.size w w' :=
  gain_any _ _ _ q q' A A' n cap n' cap' s s' _ _ _ _ w (part_swings hg hs) (part_swings hg' hs')
    ((swings_lists q A n cap ws w hk hg).reads (by rw [perL_len]; exact hg.lo)) ((swings_lists q' A' n' cap' ws' w hk' hg').reads (by rw [perL_len]; exact hg'.lo))

set_option maxRecDepth 20000 in
set_option maxHeartbeats 1000000 in
theorem member_any (q : Int) (A : Option Addr) (n cap k : Nat) (w : World) (hk : k < 9) :
    Calls Tryd.prog 23 #[.agg #[.int .i64 q, .slice A n cap], .int .i64 k] w fun e w' => e = .returned (.agg #[.int .i64 q, .slice A n cap, .int .u64 ((2^k : Nat) : Int)]) ∧ Below w.heap.size w w' := by
  have hb0 : Below w.heap.size w ((w.alloc (.cells #[.int .i64 q, .slice A n cap] 28)).alloc (.cells #[.int .i64 0, .slice none 0 0, .int .u64 0] 48)) := (below1 w _).alloc (by simp) _
  have hx := (Box.new w (.int .i64 q) (.slice A n cap)).alloc (.cells #[.int .i64 0, .slice none 0 0, .int .u64 0] 48)
  have hr := Box3.new 48 (w.alloc (.cells #[.int .i64 q, .slice A n cap] 28)) (.int .i64 0) (.slice none 0 0) (.int .u64 0)
  simp only [World.size_alloc] at hr
  obtain ⟨w1, hw1⟩ : ∃ w1, w1 = ((w.alloc (.cells #[.int .i64 q, .slice A n cap] 28)).alloc (.cells #[.int .i64 0, .slice none 0 0, .int .u64 0] 48)) := ⟨_, rfl⟩
  rw [← hw1] at hb0 hx hr
  have HW := Lib.hid (fun W => with0_any k W (by omega))
  have HWW := Lib.hid hw1
  clear hw1
  generalize 2^k = s at *
  have hk9 := kept3a hx hr
  have hkE := kept3 (a := .int .i64 q) (b := .slice A n cap) (c := .int .u64 s) hx hr (Nat.ne_of_lt (Nat.lt_succ_self _))
  obtain ⟨d0, d1, d2⟩ := hr.cells
  obtain ⟨f0, f1, f2⟩ := frozen_box3 hr
  go_enter Tryd.func23, Tryd.ntmps23
  go_wp2_with fail
  rw [← HWW.out]
  obtain ⟨c0, c1⟩ := hx.cells
  go_region_with (first
    | (go_at_call 38; with_reducible refine (HW.out _).mono ?_; rintro e wB ⟨rfl, rfl⟩)
    | fail)
  all_goals
    have hrF := (hr.put (.int .i64 q) (.slice A n cap) (.int .u64 s)).drew
    obtain ⟨e0, e1, e2⟩ := hrF.cells
    have gF := (((hb0.setCell (p := ⟨w.heap.size + 1, 0, none⟩) (Nat.le_succ _) (.int .i64 q)).setCell (p := ⟨w.heap.size + 1, 1, none⟩) (Nat.le_succ _) (.slice A n cap)).setCell (p := ⟨w.heap.size + 1, 2, none⟩) (Nat.le_succ _) (.int .u64 s)).drew
    go_wp2
    refine bodyPost_ret (v := .agg #[.int .i64 q, .slice A n cap, .int .u64 s]) (by simp [results, Tryd.results23, go_sem, e0, e1, e2]) rfl ⟨rfl, ?_⟩
    exact gF
end Go.Proofs.YtipplbcjdcdapabDoor
