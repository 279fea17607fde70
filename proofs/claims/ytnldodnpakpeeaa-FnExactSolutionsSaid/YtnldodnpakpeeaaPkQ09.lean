/- Texts of R6, N1. -/
import Derived.Test.YtnldodnpakpeeaaPkQ08
import Derived.Outline
import Derived.Test.YtnldodnpakpeeaaPkQ00
namespace Go.Proofs.Ytnldodnpakpeeaa
open Go.RowKit Vo

/-- The lists of these sets. -/
def setsL (S : List Nat) : List (List Int) := S.map fun s => mem s 9
theorem setsL_len (S : List Nat) : (setsL S).length = S.length := by simp [setsL]
theorem setsL_take (S : List Nat) (j : Nat) (h : j < S.length) : setsL (S.take (j+1)) = setsL (S.take j) ++ [mem (S.getD j 0) 9] := by
  unfold setsL
  rw [List.take_add_one, List.map_append, List.getElem?_eq_getElem h, List.getD_eq_getElem?_getD, List.getElem?_eq_getElem h]
  rfl

set_option maxRecDepth 20000 in
set_option maxHeartbeats 4000000 in
theorem listsOf_any (S : List Nat) (base cap m : Nat) (A : Option Addr) (w : World) (hm : m = S.length) (hs : m ≤ 512) (hin : ∀ j, j < m → S.getD j 0 < 512) (hown : w.ownsRow base 107 1 (.slice A m cap) m (setsV S)) :
    Calls Try.prog 108 #[.slice A m cap] w fun e w' => ∃ B cp, e = .returned (.slice B m cp) ∧ SSb w.heap.size (setsL S) (.slice B m cp) w' ∧ Below w.heap.size w w' := by
  obtain ⟨i0, hi0, hz0, hz1, hz2⟩ := info_parts infoInts
  have HO := Lib.hid hown
  have HIN := Lib.hid hin
  have HMS := Lib.hid hm
  have HLT := Lib.hid (fun k hk => owns_lt hown (k := k) hk)
  clear hown hin hm
  go_enter Try.func108, Try.ntmps108
  go_wp2_with (at_make; refine wpList_make_own _ rfl _ _ 42 rfl w.heap.size 35 i0 (.slice none 0 0) 1 Try.underlying42 hi0 hz0 hz1 .i64 .i64 m m rfl rfl rfl (by rw [hz2]; omega) (by unfold maxLen; omega) (by simp) ?_; intro w1 hown1 hgrow1)
  have b1 : Below w.heap.size w w1 := (Below.refl _ _).grown hgrow1 (Nat.le_refl _) (fun j hj => by cases hj)
  have HR1 := Lib.hid (SSb.of_row hown1)
  clear hown1 hgrow1
  go_loopw [3, 5, 11] (fun v _ i wr => ∃ (j : Nat) (B : Option Addr) (cp : Nat), j ≤ m ∧ i = .int .i64 j ∧ v = .slice B j cp ∧ SSb w.heap.size (setsL (S.take j)) (.slice B j cp) wr ∧ Below w.heap.size w wr) (fun _ _ i _ => m - (intOf i).toNat)
  case atStart => exact ⟨0, some ⟨w.heap.size, 0, none⟩, m, Nat.zero_le _, rfl, rfl, by simpa [setsL] using HR1.out, b1⟩
  case round =>
    obtain ⟨j, B, cp, hj, rfl, rfl, hssb, hbr⟩ := hrel
    have HSS := Lib.hid hssb
    have hszr := hbr.size
    by_cases hlt : j < m
    · have hlen : (setsL (S.take j)).length = j := by rw [setsL_len, List.length_take, ← HMS.out]; omega
      obtain ⟨xs, G, ho, _⟩ := hssb
      rw [hlen] at ho
      have HXS := Lib.hid ho
      obtain ⟨gs, cps, hvs, hgs, _, _⟩ := owns_head HO.out (by omega)
      obtain ⟨rfl, rfl⟩ : A = some ⟨gs, 0, none⟩ ∧ cap = cps := by simpa using hvs
      have hgsl : gs < w.heap.size := HLT.out gs rfl
      have hcell : wr.cell? ⟨gs, j, none⟩ = some (.int .u64 (S.getD j 0 : Nat)) := by
        have hOwn : Own w gs 107 m (fun i => .int .u64 (S.getD i 0 : Nat)) := Own.of_own HO.out (fun i hi => by
          have : i < S.length := by have := HMS.out; omega
          simp [setsV, List.getD_eq_getElem?_getD, this])
        exact (Own.below hOwn hbr hgsl).cell hlt
      have hs512 := HIN.out j hlt
      have HST := Lib.hid (setsL_take S j (by have := HMS.out; omega))
      have HLEN := Lib.hid hlen
      clear hlen ho hvs
      generalize S.getD j 0 = s at *
      have hgsr : gs < wr.heap.size := by omega
      go_wp2_with (first
        | (go_at_call 153; refine (list_any s _ hs512).mono ?_; rintro e w5 ⟨A5, cap5, rfl, hown5, hb5⟩; have HL5 := Lib.hid hown5; have HO5 := Lib.hid (owns_now HXS.out hb5); have b5 := hbr.trans (hb5.mono hszr); have hsz5 := b5.size; clear hown5)
        | (at_builtin; refine wpList_append_lies _ rfl _ _ _ rfl w.heap.size 35 i0 _ 1 24 Try.underlying42 hi0 hz0 hz1 hz2 rfl (by decide) (.slice B j cp) j xs rfl (HO5.out.alloc _) ⟨w5.heap.size, 0, none⟩ 1 1 [.slice A5 (mem s 9).length cap5] rfl rfl (World.news_of_block (cs := #[.slice A5 (mem s 9).length cap5]) (t := 35) (fr := (0, 0)) (heap_alloc_new w5 _)) (by simp [Value.oneCell']) (by omega) (by unfold maxLen; omega) (by omega) (by simp; omega) (w5.heap.size + 1) (by simp) ?_; intro gg cap4 w6 hown6 hgrow6 hat hlt6))
      have b6 : Below w.heap.size w w6 := (b5.alloc (by omega) (.cells #[.slice A5 (mem s 9).length cap5] 35)).grown hgrow6 (by simp; omega) fun i hi => owns_le HO5.out hi
      have HP := Lib.hid (SSb.push HSS.out HLEN.out.symm hszr hb5 ⟨A5, cap5, rfl, HL5.out⟩ (Nat.le_succ _) _ (below1 w5 (.cells #[.slice A5 (mem s 9).length cap5] 35)) (by simp) xs HXS.out hown6 hgrow6 hat)
      go_roundw
      case rel => exact ⟨j + 1, some ⟨gg, 0, none⟩, cap4, by omega, by go_num, by simp, by rw [HST.out]; exact HP.out, b6⟩
      case measure => simp [intOf]; omega
    · obtain rfl : m = j := by omega
      have HE := Lib.hid (show setsL (S.take m) = setsL S from by rw [HMS.out, List.take_length])
      go_wp2
      go_ret
      exact ⟨B, cp, rfl, by rw [← HE.out]; exact HSS.out, hbr⟩
end Go.Proofs.Ytnldodnpakpeeaa

namespace Go.Proofs.Ytnldodnpakpeeaa.Vo

/-- 1 2 .. n. -/
def fact : Nat → Nat
  | 0 => 1
  | n+1 => fact n * (n+1)
theorem fact_pos (n : Nat) : 0 < fact n := by
  induction n with
  | zero => simp [fact]
  | succ n ih => simp only [fact]; exact Nat.mul_pos ih (by omega)
theorem fact_le {n : Nat} (h : n ≤ 9) : fact n ≤ 362880 := by
  have : n = 0 ∨ n = 1 ∨ n = 2 ∨ n = 3 ∨ n = 4 ∨ n = 5 ∨ n = 6 ∨ n = 7 ∨ n = 8 ∨ n = 9 := by omega
  rcases this with h | h | h | h | h | h | h | h | h | h <;> subst h <;> decide

/-- A swing of k: k is not in, the set loses, and wins with k. -/
def swP (p : Nat → Bool) (k s : Nat) : Bool := !s.testBit k && (!p s && p (s ||| 2^k))

theorem add_pow {n s k : Nat} (_hs : s < 2^n) (_hk : k < n) (hb : s.testBit k = false) : s + 2^k = s ||| 2^k := by
  have h1 : (s ||| 2^k) = s + 2^k := by
    have := Nat.two_pow_pos k
    apply Nat.eq_of_testBit_eq
    intro j
    rw [Nat.testBit_or, Nat.testBit_two_pow]
    have e : s + 2^k = s + 2^k * 1 := by omega
    rcases Nat.lt_trichotomy j k with h | h | h
    · rw [Nat.add_comm, Nat.testBit_two_pow_add_gt h]; simp; omega
    · subst h
      rw [Nat.add_comm, Nat.testBit_two_pow_add_eq, hb]; simp
    · have hd : s = 2^(k+1) * (s / 2^(k+1)) + s % 2^k := by
        have h2 := Nat.div_add_mod s (2^(k+1))
        have h3 : s % 2^(k+1) = s % 2^k := by
          rw [Nat.pow_succ, Nat.mod_mul]
          have : s / 2^k % 2 = 0 := by
            rw [Nat.testBit_eq_decide_div_mod_eq] at hb
            simp at hb; omega
          rw [this]; simp
        omega
      have hm := Nat.mod_lt s this
      have hlt : s % 2^k + 2^k < 2^(k+1) := by rw [Nat.pow_succ]; omega
      have e1 : (s + 2^k).testBit j = (2^(k+1) * (s / 2^(k+1)) + (s % 2^k + 2^k)).testBit j := by
        congr 1; omega
      have e2 : s.testBit j = (2^(k+1) * (s / 2^(k+1)) + (s % 2^k)).testBit j := by rw [← hd]
      rw [e1, e2, Nat.testBit_two_pow_mul_add _ hlt, Nat.testBit_two_pow_mul_add _ (by omega)]
      rw [if_neg (by omega), if_neg (by omega)]
      simp; omega
  exact h1.symm
theorem or_pow_lt {n s k : Nat} (hs : s < 2^n) (hk : k < n) : s ||| 2^k < 2^n := Nat.or_lt_two_pow hs (Nat.pow_lt_pow_right (by omega) hk)

/-- The swings of k below N, as numbers. -/
def swL (p : Nat → Bool) (k N : Nat) : List Nat := (List.range N).filter (swP p k)
theorem swL_succ (p : Nat → Bool) (k N : Nat) : swL p k (N+1) = swL p k N ++ if swP p k N then [N] else [] := by
  simp only [swL, List.range_succ, List.filter_append, List.filter_cons, List.filter_nil]
theorem swL_len (p : Nat → Bool) (k N : Nat) : (swL p k N).length = cnt (swP p k) N := by
  induction N with
  | zero => rfl
  | succ N ih => rw [swL_succ, List.length_append, ih]; simp only [cnt]; split <;> rfl

/-- The sum of the first k. -/
def sumN (f : Nat → Nat) : Nat → Nat
  | 0 => 0
  | k+1 => sumN f k + f k
theorem sumN_congr {f g : Nat → Nat} {k} (h : ∀ j, j < k → f j = g j) : sumN f k = sumN g k := by
  induction k with
  | zero => rfl
  | succ k ih => simp only [sumN]; rw [ih (fun j hj => h j (by omega)), h k (by omega)]
theorem sumN_add (f g : Nat → Nat) (k) : sumN (fun j => f j + g j) k = sumN f k + sumN g k := by
  induction k with
  | zero => rfl
  | succ k ih => simp only [sumN]; rw [ih]; omega
theorem sumN_zero (k) : sumN (fun _ => 0) k = 0 := by
  induction k with
  | zero => rfl
  | succ k ih => simp only [sumN]; rw [ih]
theorem sumN_one (f : Nat → Nat) {z n : Nat} (hz : z < n) : sumN (fun j => if z = j then f j else 0) n = f z := by
  induction n with
  | zero => omega
  | succ n ih =>
    simp only [sumN]
    by_cases e : z = n
    · subst e
      rw [if_pos rfl]
      have : sumN (fun j => if z = j then f j else 0) z = sumN (fun _ => 0) z := sumN_congr fun j hj => if_neg (by omega)
      rw [this, sumN_zero]; omega
    · rw [ih (by omega), if_neg e]; rfl
theorem sumN_le {f : Nat → Nat} {B k : Nat} (h : ∀ j, j < k → f j ≤ B) : sumN f k ≤ B * k := by
  induction k with
  | zero => simp [sumN]
  | succ k ih =>
    have h1 := ih (fun j hj => h j (by omega)); have h2 := h k (by omega)
    simp only [sumN, Nat.mul_succ]; omega

/-- How many members a set below 512 has. -/
def sz (s : Nat) : Nat := (mem s 9).length
theorem sz_lt {n s k : Nat} (hn : n ≤ 9) (hs : s < 2^n) (hk : k < n) (hb : s.testBit k = false) : sz s < n := by
  have miss : ∀ m, k < m → (mem s m).length + 1 ≤ m := by
    intro m
    induction m with
    | zero => intro h; omega
    | succ m ih =>
      intro h
      simp only [mem, List.length_append]
      by_cases e : k = m
      · subst e; rw [hb]; have := mem_len s k; simp; omega
      · have := ih (by omega); split <;> simp <;> omega
  unfold sz
  rw [mem_stop hs (by omega)]
  have := miss n hk; omega

/-- Of how many orders of n members k is the pivot: by swings one after the other. -/
def wayP (n z : Nat) : Nat := fact z * fact (n - 1 - z)
def pivN (p : Nat → Bool) (n k : Nat) (N : Nat) : Nat := sumN (fun s => if swP p k s then wayP n (sz s) else 0) N
/-- How many swings have a size. -/
def sizN (p : Nat → Bool) (k N z : Nat) : Nat := cnt (fun s => swP p k s && decide (sz s = z)) N
theorem pivN_sizes {p : Nat → Bool} {n k N : Nat} (hn : n ≤ 9) (hk : k < n) (hN : N ≤ 2^n) : sumN (fun z => sizN p k N z * wayP n z) n = pivN p n k N := by
  induction N with
  | zero =>
    simp only [sizN, cnt, pivN, sumN]
    rw [show (fun z => 0 * wayP n z) = fun _ => 0 from by funext z; simp, sumN_zero]
  | succ N ih =>
    rw [show pivN p n k (N+1) = pivN p n k N + if swP p k N then wayP n (sz N) else 0 from rfl, ← ih (by omega)]
    have e : ∀ z, sizN p k (N+1) z * wayP n z = sizN p k N z * wayP n z + (if sz N = z then (if swP p k N then wayP n z else 0) else 0) := by
      intro z
      simp only [sizN, cnt]
      rw [Nat.add_mul]
      congr 1
      by_cases h1 : swP p k N = true
      · by_cases h2 : sz N = z
        · simp [h1, h2]
        · simp [h1, h2]
      · simp at h1; simp [h1]
    rw [show (fun z => sizN p k (N+1) z * wayP n z) = fun z => sizN p k N z * wayP n z + (if sz N = z then (if swP p k N then wayP n z else 0) else 0) from funext e, sumN_add]
    congr 1
    by_cases h1 : swP p k N = true
    · have hb : N.testBit k = false := by
        unfold swP at h1; simp at h1; exact h1.1
      rw [sumN_one (fun z => if swP p k N then wayP n z else 0) (sz_lt hn (show N < 2^n by omega) hk hb)]
    · simp at h1
      rw [h1]
      simp [sumN_zero]
theorem wayP_le {n z : Nat} (hn : n ≤ 9) (hz : z ≤ 9) : wayP n z ≤ 131681894400 := by
  have h1 := fact_le hz
  have h2 := fact_le (n := n - 1 - z) (by omega)
  exact Nat.mul_le_mul h1 h2
theorem pivN_le {p : Nat → Bool} {n k N : Nat} (hn : n ≤ 9) (hN : N ≤ 512) : pivN p n k N ≤ 131681894400 * 512 := by
  refine Nat.le_trans (sumN_le (B := 131681894400) fun j _ => ?_) (Nat.mul_le_mul_left _ hN)
  split
  · exact wayP_le hn (by have := mem_len j 9; unfold sz; omega)
  · omega

/-- A list of numbers, one a member. -/
def perL (f : Nat → Nat) (n : Nat) : List Int := (List.range n).map fun k => ((f k : Nat) : Int)
theorem perL_len (f n) : (perL f n).length = n := by simp [perL]
theorem perL_succ (f n) : perL f (n+1) = perL f n ++ [((f n : Nat) : Int)] := by simp [perL, List.range_succ]
theorem perL_get {f : Nat → Nat} {n k : Nat} (h : k < n) : (perL f n).getD k 0 = ((f k : Nat) : Int) := by
  simp [perL, List.getD_eq_getElem?_getD, h]
theorem perL_congr {f g : Nat → Nat} {n} (h : ∀ j, j < n → f j = g j) : perL f n = perL g n := by
  unfold perL
  apply List.map_congr_left
  intro j hj
  simp at hj
  rw [h j hj]
end Go.Proofs.Ytnldodnpakpeeaa.Vo
