/- Sets shifted least and greatest: plain facts; the model's. -/
import Derived.Test.YtgilbenbaefgfaaGreatDl
import Derived.Test.YtgilbenbaefgfaaGreatDd
import Derived.Test.YtgilbenbaefgfaaGreatT4
import Derived.Test.YtgilbenbaefgfaaGreatJz
import Derived.Deep.RegionHeld3
import Derived.BigQuiet
import Derived.Outline
namespace Go.Proofs.YtgilbenbaefgfaaGreat
open Go.RowKit Vo

theorem xor_out {s i : Nat} (hs : s < 512) (hi : i < 9) (h : s.testBit i = true) : out s i = s ^^^ 2^i := by
  apply Nat.eq_of_testBit_eq
  intro j
  rw [Nat.testBit_xor, Nat.testBit_two_pow]
  by_cases hj : j < 64
  · rw [testBit_out (by omega) hj]
    by_cases e : i = j
    · subst e; rw [h]; simp
    · simp [e, Ne.symm e]
  · have h1 : s < 2^j := Nat.lt_of_lt_of_le (show s < 2^9 by omega) (Nat.pow_le_pow_right (by omega) (by omega))
    rw [Nat.testBit_lt_two_pow (Nat.lt_of_le_of_lt (out_le s i) h1), Nat.testBit_lt_two_pow h1]
    simp [show i ≠ j by omega]
theorem swap_bits {s i j : Nat} (hs : s < 512) (hi : i < 9) (h : s.testBit i = true) (hj : s.testBit j = false) : out s i ||| 2^j = (s ^^^ 2^i) ^^^ 2^j := by
  have hne : i ≠ j := fun e => by rw [e, hj] at h; cases h
  rw [xor_out hs hi h]
  apply Nat.eq_of_testBit_eq
  intro k
  rw [Nat.testBit_or, Nat.testBit_xor, Nat.testBit_xor, Nat.testBit_two_pow, Nat.testBit_two_pow]
  by_cases e : j = k
  · subst e; simp [hj, hne]
  · simp [e, Nat.testBit_two_pow]
theorem offK_bit {o s j : Nat} (hs : s < 512) (hj : j < 64) : (offK o s).testBit j = (o.testBit j && !s.testBit j) := by
  unfold offK
  rw [Nat.testBit_and, show 18446744073709551615 - s = co 64 s from rfl, testBit_co (show s < 2^64 by omega)]
  simp [hj]
theorem kwo_iff {o : Nat → Nat} {p : Nat → Bool} {s : Nat} (hs : s < 512) : kwoB o p s = true ↔ ∃ i j, i < 9 ∧ j < 9 ∧ s.testBit i = true ∧ s.testBit j = false ∧ (o i).testBit j = true ∧ p ((s ^^^ 2^i) ^^^ 2^j) = true := by
  unfold kwoB
  rw [List.any_eq_true]
  constructor
  · rintro ⟨x, hx, h⟩
    obtain ⟨i, hi, rfl, hb⟩ := mem_iff.1 hx
    unfold kwoI at h
    rw [List.any_eq_true, Int.toNat_natCast] at h
    obtain ⟨y, hy, h⟩ := h
    obtain ⟨j, hj, rfl, hc⟩ := mem_iff.1 hy
    rw [offK_bit hs (by omega)] at hc
    simp only [Bool.and_eq_true, Bool.not_eq_true'] at hc
    unfold kwoJ at h
    rw [Int.toNat_natCast, swap_bits hs hi hb hc.2] at h
    exact ⟨i, j, hi, hj, hb, hc.2, hc.1, h⟩
  · rintro ⟨i, j, hi, hj, hb, hc, ho, hp⟩
    refine ⟨(i : Int), mem_iff.2 ⟨i, hi, rfl, hb⟩, ?_⟩
    unfold kwoI
    rw [List.any_eq_true, Int.toNat_natCast]
    refine ⟨(j : Int), mem_iff.2 ⟨j, hj, rfl, by rw [offK_bit hs (by omega), ho, hc]; rfl⟩, ?_⟩
    unfold kwoJ
    rw [Int.toNat_natCast, swap_bits hs hi hb hc]
    exact hp

/-- Does a set change its side with each step? -/
def stepJ (p : Nat → Bool) (gr : Nat → Nat → Bool) (l : Bool) (s i j : Nat) : Bool := (s.testBit j == l) || (!gr i j || (p ((s ^^^ 2^i) ^^^ 2^j) != l))
def stepI (p : Nat → Bool) (gr : Nat → Nat → Bool) (n : Nat) (l : Bool) (s i : Nat) : Bool := (s.testBit i != l) || ((p (s ^^^ 2^i) != l) && allK (stepJ p gr l s i) n)
def shiftP (p : Nat → Bool) (gr : Nat → Nat → Bool) (n : Nat) (l : Bool) (s : Nat) : Bool := (p s == l) && allK (stepI p gr n l s) n
theorem stepJ_iff {p gr l s i j} : stepJ p gr l s i j = true ↔ (s.testBit j = !l → gr i j = true → p ((s ^^^ 2^i) ^^^ 2^j) = !l) := by
  unfold stepJ
  generalize s.testBit j = a
  generalize gr i j = b
  generalize p ((s ^^^ 2^i) ^^^ 2^j) = c
  cases a <;> cases b <;> cases c <;> cases l <;> decide
theorem stepI_iff {p gr n l s i} : stepI p gr n l s i = true ↔ (s.testBit i = l → p (s ^^^ 2^i) = (!l) ∧ ∀ j, j < n → s.testBit j = (!l) → gr i j = true → p ((s ^^^ 2^i) ^^^ 2^j) = !l) := by
  have h : allK (stepJ p gr l s i) n = true ↔ ∀ j, j < n → s.testBit j = (!l) → gr i j = true → p ((s ^^^ 2^i) ^^^ 2^j) = !l := by
    rw [allK_iff]; exact forall_congr' fun j => forall_congr' fun _ => stepJ_iff
  rw [← h]
  unfold stepI
  generalize s.testBit i = a
  generalize p (s ^^^ 2^i) = c
  generalize allK (stepJ p gr l s i) n = d
  cases a <;> cases c <;> cases d <;> cases l <;> decide
theorem shiftP_iff {p gr n l s} : shiftP p gr n l s = true ↔ p s = l ∧ ∀ i, i < n → s.testBit i = l → p (s ^^^ 2^i) = (!l) ∧ ∀ j, j < n → s.testBit j = (!l) → gr i j = true → p ((s ^^^ 2^i) ^^^ 2^j) = !l := by
  unfold shiftP
  rw [Bool.and_eq_true, allK_iff, beq_iff_eq]
  exact and_congr Iff.rfl (forall_congr' fun i => forall_congr' fun _ => stepI_iff)
theorem agK_one' (f : Nat → Nat → Bool) (k j : Nat) : agK f k 1 j = grK f k j := by unfold agK cmpK grK; cases f k j <;> cases f j k <;> rfl
theorem agK_less (f : Nat → Nat → Bool) (k j : Nat) : agK f k (-1) j = grK f j k := by unfold agK cmpK grK; cases f k j <;> cases f j k <;> rfl
theorem below_n {s n i : Nat} (hs : s < 2^n) (h : s.testBit i = true) : i < n := by
  rcases Nat.lt_or_ge i n with h1 | h1
  · exact h1
  · rw [Nat.testBit_lt_two_pow (Nat.lt_of_lt_of_le hs (Nat.pow_le_pow_right (by omega) h1))] at h; cases h
theorem selK_iff {f : Nat → Bool} {n j : Nat} : (selK f n).testBit j = true ↔ j < n ∧ f j = true := by rw [selK_bit]; simp

theorem least_shift {p : Nat → Bool} {f : Nat → Nat → Bool} {n s : Nat} (hn : n ≤ 9) (hs : s < 2^n) : (leastP p n s && !kwoB (fun i => selK (agK f i 1) n) p s) = shiftP p (grK f) n true s := by
  have h512 := pow_lt hn
  rw [Bool.eq_iff_iff, shiftP_iff, Bool.and_eq_true, Bool.not_eq_true', ← Bool.not_eq_true, kwo_iff (by omega)]
  unfold leastP noneOut
  rw [Bool.and_eq_true, allK_iff]
  constructor
  · rintro ⟨⟨hp, ho⟩, hk⟩
    refine ⟨hp, fun i hi hb => ⟨?_, fun j hj hc hg => ?_⟩⟩
    · have := ho i hi
      rw [hb, xor_out (by omega) (by omega) hb] at this
      simpa using this
    · cases e : p ((s ^^^ 2^i) ^^^ 2^j)
      · rfl
      · exact absurd ⟨i, j, by omega, by omega, hb, by simpa using hc, selK_iff.2 ⟨hj, by rw [agK_one']; exact hg⟩, e⟩ hk
  · rintro ⟨hp, h⟩
    refine ⟨⟨hp, fun i hi => ?_⟩, ?_⟩
    · cases hb : s.testBit i
      · rfl
      · rw [xor_out (by omega) (by omega) hb, (h i hi hb).1]; rfl
    · rintro ⟨i, j, hi, hj, hb, hc, ho, hq⟩
      obtain ⟨hj2, hg⟩ := selK_iff.1 ho
      rw [agK_one'] at hg
      have := (h i (below_n hs hb) hb).2 j hj2 (by simpa using hc) hg
      rw [hq] at this; cases this
theorem great_shift {p : Nat → Bool} {f : Nat → Nat → Bool} {n s : Nat} (hn : n ≤ 9) (hs : s < 2^n) : (greatP (fun t => !p t) n s && !kwoB (fun i => selK (agK f i (-1)) n) (fun t => !p t) s) = shiftP p (grK f) n false s := by
  have h512 := pow_lt hn
  have hcomm : ∀ i j, (s ^^^ 2^i) ^^^ 2^j = (s ^^^ 2^j) ^^^ 2^i := fun i j => by rw [Nat.xor_assoc, Nat.xor_comm (2^i), ← Nat.xor_assoc]
  have hor : ∀ j, s.testBit j = false → s ||| 2^j = s ^^^ 2^j := fun j hj => by
    apply Nat.eq_of_testBit_eq
    intro k
    rw [Nat.testBit_or, Nat.testBit_xor, Nat.testBit_two_pow]
    by_cases e : j = k
    · subst e; simp [hj]
    · simp [e]
  rw [Bool.eq_iff_iff, shiftP_iff, Bool.and_eq_true, Bool.not_eq_true', ← Bool.not_eq_true, kwo_iff (by omega)]
  unfold greatP noneMore
  rw [Bool.and_eq_true, allK_iff]
  constructor
  · rintro ⟨⟨hp, ho⟩, hk⟩
    refine ⟨by simpa using hp, fun i hi hb => ⟨?_, fun j hj hc hg => ?_⟩⟩
    · have := ho i hi
      rw [hb, hor i hb] at this
      simpa using this
    · have hc' : s.testBit j = true := by simpa using hc
      cases e : p ((s ^^^ 2^i) ^^^ 2^j)
      · exact absurd ⟨j, i, by omega, by omega, hc', hb, selK_iff.2 ⟨hi, by rw [agK_less]; exact hg⟩, by rw [← hcomm, e]; rfl⟩ hk
      · rfl
  · rintro ⟨hp, h⟩
    refine ⟨⟨by simpa using hp, fun i hi => ?_⟩, ?_⟩
    · cases hb : s.testBit i
      · rw [hor i hb]; simp [(h i hi hb).1]
      · rfl
    · rintro ⟨i, j, hi, hj, hb, hc, ho, hq⟩
      obtain ⟨hj2, hg⟩ := selK_iff.1 ho
      rw [agK_less] at hg
      have := (h j hj2 hc).2 i (below_n hs hb) (by simpa using hb) hg
      rw [hcomm] at this
      rw [this] at hq; cases hq
theorem shLK_eq {S : List Nat} {n : Nat} (hn : n ≤ 9) (hS : S = (inOrder n).filter (leastP (winS S) n)) : shLK S n = (inOrder n).filter (shiftP (winS S) (grK (worthP (winS S) n)) n true) := by
  have h : shLK S n = ((inOrder n).filter (leastP (winS S) n)).filter fun s => !kwoB (fun i => selK (agK (worthP (winS S) n) i 1) n) (winS S) s := by rw [← hS]; rfl
  rw [h, List.filter_filter]
  refine List.filter_congr fun s hs => ?_
  rw [← least_shift hn (mem_inOrder.1 hs)]
  try rw [Bool.and_comm]
theorem shGK_eq {S : List Nat} {n : Nat} (hn : n ≤ 9) : shGK S n = (inOrder n).filter (shiftP (winS S) (grK (worthP (winS S) n)) n false) := by
  unfold shGK
  rw [List.filter_filter]
  refine List.filter_congr fun s hs => ?_
  rw [← great_shift hn (mem_inOrder.1 hs)]
  try rw [Bool.and_comm]
theorem i64_xor_nat (a b : Nat) (ha : a < 512) (hb : b < 512) : bits BinOp.xor IntKind.i64 (a : Int) (b : Int) = ((a ^^^ b : Nat) : Int) := by
  have hx : a ^^^ b < 2 ^ 9 := Nat.xor_lt_two_pow (by omega) (by omega)
  show IntKind.i64.wrap ((BitVec.ofInt 64 (a : Int) ^^^ BitVec.ofInt 64 (b : Int)).toNat : Int) = _
  rw [BitVec.toNat_xor, ofInt_u64 a (by omega), ofInt_u64 b (by omega)]
  exact IntWalk.i64_in _ (by omega)

theorem stepJ_same {p gr l s i j} (h : s.testBit j = l) : stepJ p gr l s i j = true := by unfold stepJ; rw [h]; simp
theorem stepJ_less {p gr l s i j} (h : gr i j = false) : stepJ p gr l s i j = true := by unfold stepJ; rw [h]; simp
theorem stepJ_ask {p gr l s i j} (h : s.testBit j = !l) (hg : gr i j = true) : stepJ p gr l s i j = (p ((s ^^^ 2^i) ^^^ 2^j) != l) := by unfold stepJ; rw [h, hg]; cases l <;> simp
theorem stepI_same {p gr n l s i} (h : s.testBit i = !l) : stepI p gr n l s i = true := by unfold stepI; rw [h]; cases l <;> simp
theorem stepI_ask {p gr n l s i} (h : s.testBit i = l) : stepI p gr n l s i = ((p (s ^^^ 2^i) != l) && allK (stepJ p gr l s i) n) := by unfold stepI; rw [h]; simp
/-- What is known while the steps of one member are gone through. -/
def fitJ (p : Nat → Bool) (gr : Nat → Nat → Bool) (n : Nat) (l : Bool) (s i j : Nat) : Bool := allK (stepI p gr n l s) i && ((p (s ^^^ 2^i) != l) && allK (stepJ p gr l s i) j)
theorem fitJ_zero (p gr n l s i) : fitJ p gr n l s i 0 = (allK (stepI p gr n l s) i && (p (s ^^^ 2^i) != l)) := by unfold fitJ; simp [allK]
theorem fitJ_succ (p gr n l s i j) : fitJ p gr n l s i (j+1) = (fitJ p gr n l s i j && stepJ p gr l s i j) := by unfold fitJ; simp only [allK, Bool.and_assoc]
theorem fitJ_all {p gr n l s i} (h : s.testBit i = l) : fitJ p gr n l s i n = allK (stepI p gr n l s) (i+1) := by unfold fitJ; simp only [allK]; rw [stepI_ask h]
theorem allI_skip {p gr n l s i} (h : s.testBit i = !l) : allK (stepI p gr n l s) (i+1) = allK (stepI p gr n l s) i := by simp only [allK]; rw [stepI_same h, Bool.and_true]

end Go.Proofs.YtgilbenbaefgfaaGreat
