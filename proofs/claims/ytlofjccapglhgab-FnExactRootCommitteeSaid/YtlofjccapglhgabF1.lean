/- Plain facts on floats: the root of a small number, cut, is small; nothing of any program. -/
import Ieee.Arith
namespace Go.Proofs.Ytlofjccapglhgab.Vo
open Ieee

theorem fl_binade : double.binade = 4503599627370496 := by decide
theorem fl_sign : double.signWeight = 9223372036854775808 := by decide
theorem fl_inf : double.infRung = 9218868437227405312 := by decide
theorem fl_least : double.leastPlace = -1074 := by decide
theorem fl_word (r : Nat) : double.word false r = r := by unfold Format.word; simp

theorem cut_zero (neg : Bool) (x : Nat) : Toward.even.cut neg x 0 = x := by
  unfold Toward.cut
  simp only [Nat.zero_min, Nat.shiftLeft_zero, Nat.div_one, Nat.mod_one]
  rfl
theorem log2_ge {n k : Nat} (h : 2^k ≤ n) : k ≤ n.log2 := (Nat.le_log2 (by have := Nat.two_pow_pos k; omega)).2 h
theorem log2_lt' {n k : Nat} (h0 : n ≠ 0) (h : n < 2^k) : n.log2 < k := (Nat.log2_lt h0).2 h

/-- A float of a number below 2^24 is that number. -/
theorem fl_of (n : Nat) (h0 : n ≠ 0) (h1 : n < 16777216) : ∃ L K : Nat, L ≤ 23 ∧ 4503599627370496 ≤ K ∧ K < 9007199254740992 ∧ double.write (.number false n 0) = (L + 1022) * 4503599627370496 + K := by
  have hL : n.log2 ≤ 23 := by have := log2_lt' h0 (k := 24) (by omega); omega
  have a1 := Nat.log2_self_le h0
  have a2 := @Nat.lt_log2_self n
  generalize hl : n.log2 = L at *
  refine ⟨L, n <<< (52 - L), hL, ?_, ?_, ?_⟩
  · rw [Nat.shiftLeft_eq]
    calc 4503599627370496 = 2^L * 2^(52 - L) := by rw [← Nat.pow_add, show L + (52 - L) = 52 by omega]
      _ ≤ n * 2^(52-L) := Nat.mul_le_mul_right _ a1
  · rw [Nat.shiftLeft_eq]
    calc n * 2^(52-L) < 2^(L+1) * 2^(52 - L) := Nat.mul_lt_mul_of_pos_right a2 (Nat.two_pow_pos _)
      _ = 9007199254740992 := by rw [← Nat.pow_add, show L + 1 + (52 - L) = 53 by omega]
  · have hk : n <<< (52 - L) < 9007199254740992 := by
      rw [Nat.shiftLeft_eq]
      calc n * 2^(52-L) < 2^(L+1) * 2^(52 - L) := Nat.mul_lt_mul_of_pos_right a2 (Nat.two_pow_pos _)
        _ = 9007199254740992 := by rw [← Nat.pow_add, show L + 1 + (52 - L) = 53 by omega]
    show double.nearest false n 0 = _
    unfold Format.nearest
    rw [if_neg h0]
    simp only [hl, fl_least, fl_binade, fl_inf, fl_word]
    have e1 : max ((0:Int) + (L:Int) - ((double.fractionBits : Nat) : Int)) (-1074) = (L : Int) - 52 := by
      rw [show double.fractionBits = 52 from rfl]; omega
    rw [e1]
    rw [show ((0:Int) - ((L:Int) - 52)).toNat = 52 - L by omega, show (((L:Int) - 52) - 0).toNat = 0 by omega, show (((L:Int) - 52) - -1074).toNat = L + 1022 by omega, cut_zero]
    omega

/-- What such a float stands for. -/
theorem fl_read (L K : Nat) (hL : L ≤ 23) (h1 : 4503599627370496 ≤ K) (h2 : K < 9007199254740992) : double.read ((L + 1022) * 4503599627370496 + K) = .number false K ((L : Int) - 52) := by
  unfold Format.read
  simp only [fl_sign, fl_binade, fl_inf, fl_least]
  have e1 : ((L + 1022) * 4503599627370496 + K) / 9223372036854775808 = 0 := by omega
  have e2 : ((L + 1022) * 4503599627370496 + K) % 9223372036854775808 = (L + 1022) * 4503599627370496 + K := by omega
  have e3 : ((L + 1022) * 4503599627370496 + K) % 4503599627370496 = K - 4503599627370496 := by omega
  have e4 : ((L + 1022) * 4503599627370496 + K) / 4503599627370496 = L + 1023 := by omega
  rw [e2, if_neg (by omega), if_pos (by omega), e1, e3, e4]
  rw [show 4503599627370496 + (K - 4503599627370496) = K by omega, show (-1074 : Int) + ((L + 1023 - 1 : Nat) : Int) = (L:Int) - 52 by omega]
  rfl

theorem rootFrom_lt (n : Nat) : ∀ todo root : Nat, Datum.rootFrom n todo root < root + 2 ^ todo := by
  intro todo
  induction todo with
  | zero => intro root; simp [Datum.rootFrom]
  | succ t ih =>
    intro root
    simp only [Datum.rootFrom]
    rw [Nat.pow_succ]
    split
    · have := ih (root + 1 <<< t)
      rw [Nat.shiftLeft_eq, Nat.one_mul] at this ⊢
      omega
    · have := ih root; omega

theorem fl_root (L K : Nat) (_hL : L ≤ 23) (h1 : 4503599627370496 ≤ K) (h2 : K < 9007199254740992) :
    ∃ M : Nat, M < 72057594037927936 ∧ (Datum.number false K ((L : Int) - 52)).root 54 = some (.number false M (((L / 2 : Nat) : Int) - 55)) := by
  have hK : K.log2 = 52 := by
    have := log2_ge (n := K) (k := 52) (by omega)
    have := log2_lt' (n := K) (k := 53) (by omega) (by omega)
    omega
  unfold Datum.root
  simp only
  rw [if_neg (by omega : ¬ K = 0), hK]
  have e1 : (((L : Int) - 52 - ((2 * 54 - 52 : Nat) : Int)) % 2).toNat = L % 2 := by omega
  simp only [e1, Bool.false_eq_true, if_false]
  generalize hN : K <<< (2 * 54 - 52 + L % 2) = N
  have hNlt : N < 2^110 := by
    rw [← hN, Nat.shiftLeft_eq]
    have : 2 ^ (2 * 54 - 52 + L % 2) ≤ 2^57 := Nat.pow_le_pow_right (by omega) (by omega)
    calc K * 2 ^ (2 * 54 - 52 + L % 2) ≤ K * 2^57 := Nat.mul_le_mul_left _ this
      _ < 2^53 * 2^57 := Nat.mul_lt_mul_of_pos_right (by omega) (by omega)
      _ = 2^110 := by rw [← Nat.pow_add]
  have hl : N.log2 / 2 + 1 ≤ 55 := by
    by_cases h0 : N = 0
    · subst h0; simp
    · have := log2_lt' h0 hNlt; omega
  have hw := rootFrom_lt N (N.log2 / 2 + 1) 0
  have hp : 2 ^ (N.log2 / 2 + 1) ≤ 2^55 := Nat.pow_le_pow_right (by omega) hl
  generalize Datum.rootFrom N (N.log2 / 2 + 1) 0 = r at *
  generalize (r * r != N) = b
  have hb : b.toNat ≤ 1 := by cases b <;> simp
  refine ⟨2 * r + b.toNat, by omega, ?_⟩
  congr 2
  omega

theorem cut_even_le (neg : Bool) (x d : Nat) (hd : d ≤ x.log2 + 2) (B : Nat) (hx : x < 2^d * B) : Toward.even.cut neg x d ≤ B := by
  unfold Toward.cut
  simp only [Nat.shiftLeft_eq, Nat.one_mul]
  rw [Nat.min_eq_left hd]
  have : x / 2^d < B := Nat.div_lt_of_lt_mul hx
  generalize (decide (2^d < 2 * (x % 2^d)) || (2^d == 2 * (x % 2^d) && x / 2^d % 2 == 1)) = b
  have hb : b.toNat ≤ 1 := by cases b <;> simp
  omega

theorem fl_near (L M : Nat) (hL : L ≤ 23) (hM : M < 72057594037927936) : ∃ W : Nat, double.write (.number false M (((L / 2 : Nat) : Int) - 55)) = W ∧ W ≤ (L / 2 + 1024) * 4503599627370496 := by
  refine ⟨_, rfl, ?_⟩
  show double.nearest false M _ ≤ _
  unfold Format.nearest
  by_cases h0 : M = 0
  · rw [if_pos h0, fl_word]; omega
  rw [if_neg h0]
  simp only [fl_least, fl_binade, fl_inf, fl_word]
  have hl : M.log2 ≤ 55 := by have := log2_lt' h0 (k := 56) (by omega); omega
  have a1 := Nat.log2_self_le h0
  have a2 := @Nat.lt_log2_self M
  rw [show double.fractionBits = 52 from rfl]
  generalize hll : M.log2 = l at *
  have e1 : max ((((L / 2 : Nat) : Int) - 55) + (l:Int) - ((52 : Nat) : Int)) (-1074) = ((L / 2 : Nat) : Int) - 107 + l := by omega
  rw [e1]
  rw [show ((((L / 2 : Nat) : Int) - 55) - (((L / 2 : Nat) : Int) - 107 + l)).toNat = 52 - l by omega, show ((((L / 2 : Nat) : Int) - 107 + l) - (((L / 2 : Nat) : Int) - 55)).toNat = l - 52 by omega, show ((((L / 2 : Nat) : Int) - 107 + l) - -1074).toNat = L / 2 + 967 + l by omega]
  have hc : Toward.even.cut false (M <<< (52 - l)) (l - 52) ≤ 9007199254740992 := by
    rcases Nat.le_total l 52 with h | h
    · rw [show l - 52 = 0 by omega, cut_zero, Nat.shiftLeft_eq]
      have : M * 2^(52-l) < 2^(l+1) * 2^(52-l) := Nat.mul_lt_mul_of_pos_right a2 (Nat.two_pow_pos _)
      rw [← Nat.pow_add, show l + 1 + (52 - l) = 53 by omega] at this
      omega
    · rw [show 52 - l = 0 by omega, Nat.shiftLeft_zero]
      refine cut_even_le _ _ _ (by rw [hll]; omega) _ ?_
      rw [show (9007199254740992 : Nat) = 2^53 from rfl, ← Nat.pow_add, show l - 52 + 53 = l + 1 by omega]
      exact a2
  generalize Toward.even.cut false (M <<< (52 - l)) (l - 52) = c at *
  omega

theorem fl_int (L W : Nat) (hL : L ≤ 23) (hW : W ≤ (L / 2 + 1024) * 4503599627370496) : ∃ r : Nat, (double.read W).toInt .zero = some (r : Int) ∧ r < 8192 := by
  have e1 : W / 9223372036854775808 = 0 := by omega
  have e2 : W % 9223372036854775808 = W := by omega
  unfold Format.read
  simp only [fl_sign, fl_binade, fl_inf, fl_least, e1, e2]
  by_cases hs : W < 4503599627370496
  · rw [if_pos hs]
    refine ⟨0, ?_, by omega⟩
    have hc : Toward.zero.cut false W 1074 = 0 := by
      unfold Toward.cut
      simp only [Nat.shiftLeft_eq, Nat.one_mul]
      have hl : W.log2 < 52 := by
        by_cases h0 : W = 0
        · subst h0; decide
        · exact log2_lt' h0 (by omega)
      rw [Nat.min_eq_right (by omega)]
      have h3 : W < 2 ^ (W.log2 + 2) := by have := @Nat.lt_log2_self W; rw [Nat.pow_succ] at *; omega
      rw [Nat.div_eq_of_lt h3]; rfl
    unfold Datum.toInt Datum.integral
    simp only [show ((-1074 : Int)).toNat = 0 from rfl, show (-(-1074 : Int)).toNat = 1074 from rfl, Nat.shiftLeft_zero, show ((0 % 2 == 1) : Bool) = false from rfl, hc]
    rfl
  · rw [if_neg hs, if_pos (by omega)]
    obtain ⟨e, he⟩ : ∃ e, e = W / 4503599627370496 := ⟨_, rfl⟩
    have he1 : 1 ≤ e := by omega
    have he2 : e ≤ L / 2 + 1024 := by omega
    rw [← he]
    obtain ⟨m, hm⟩ : ∃ m, m = 4503599627370496 + W % 4503599627370496 := ⟨_, rfl⟩
    rw [← hm]
    have hm1 : m < 9007199254740992 := by omega
    have hm2 : 4503599627370496 ≤ m := by omega
    have hlm : m.log2 = 52 := by
      have := log2_ge (n := m) (k := 52) (by omega)
      have := log2_lt' (n := m) (k := 53) (by omega) (by omega)
      omega
    have hcl : Toward.zero.cut false m (1075 - e) < 8192 := by
      unfold Toward.cut
      simp only [Nat.shiftLeft_eq, Nat.one_mul, hlm]
      have h4 : 2^40 ≤ 2 ^ (min (1075 - e) (52 + 2)) := Nat.pow_le_pow_right (by omega) (by omega)
      have h5 : m / 2 ^ (min (1075 - e) (52 + 2)) < 8192 := by
        refine Nat.div_lt_of_lt_mul ?_
        have := Nat.mul_le_mul_right 8192 h4
        omega
      simpa using h5
    refine ⟨Toward.zero.cut false m (1075 - e), ?_, hcl⟩
    unfold Datum.toInt Datum.integral
    simp only [show ((-1074 : Int) + ((e - 1 : Nat) : Int)).toNat = 0 by omega, show (-((-1074 : Int) + ((e - 1 : Nat) : Int))).toNat = 1075 - e by omega, Nat.shiftLeft_zero, show ((0 % 2 == 1) : Bool) = false from rfl]
    unfold signed
    simp

/-- The float of a number below 2^24, its root, and this cut: a number below 8192. -/
theorem fl_all (n : Nat) (h : n < 16777216) : ∃ b, double.sqrt (double.write (.number false n 0)) = some b ∧ ∃ r : Nat, (double.read b).toInt .zero = some (r : Int) ∧ r < 8192 := by
  by_cases h0 : n = 0
  · subst h0
    refine ⟨0, by decide, 0, by decide, by omega⟩
  obtain ⟨L, K, hL, h1, h2, e⟩ := fl_of n h0 h
  obtain ⟨M, hM, er⟩ := fl_root L K hL h1 h2
  obtain ⟨W, eW, hW⟩ := fl_near L M hL hM
  refine ⟨W, ?_, fl_int L W hL hW⟩
  unfold Format.sqrt
  rw [e, fl_read L K hL h1 h2, show double.fractionBits + 2 = 54 from rfl, er, Option.map_some, eW]
end Go.Proofs.Ytlofjccapglhgab.Vo
