/- The spread of some sets, the model's deSpread: how often each member is in them, as digits of base 4. -/
import Derived.Test.YtpcijgdpinmcmaaDw
import Derived.Test.YtpcijgdpinmcmaaN2
import Derived.Outline
namespace Go.Proofs.Ytpcijgdpinmcmaa
open Go.RowKit Vo

def spS (s : Nat) : Nat → Nat
  | 0 => 0
  | t+1 => spS s t + (s / 2^t % 2) * 4^t
theorem spS_lt (s : Nat) : ∀ t, spS s t < 4^t
  | 0 => by simp [spS]
  | t+1 => by
    have h := spS_lt s t
    have h2 : s / 2^t % 2 ≤ 1 := by omega
    have h3 : (s / 2^t % 2) * 4^t ≤ 1 * 4^t := Nat.mul_le_mul_right _ h2
    have h4 : 4^(t+1) = 4^t * 4 := Nat.pow_succ ..
    unfold spS
    omega
theorem spS_stay {s t : Nat} (h : s / 2^t = 0) : ∀ d, spS s (t+d) = spS s t
  | 0 => rfl
  | d+1 => by
    have hlt : s < 2^t := by
      rcases Nat.div_eq_zero_iff.1 h with h | h
      · exact absurd h (by have := Nat.two_pow_pos t; omega)
      · exact h
    have hle : 2^t ≤ 2^(t+d) := Nat.pow_le_pow_right (by omega) (by omega)
    have hz : s / 2^(t+d) = 0 := Nat.div_eq_of_lt (by omega)
    show spS s (t+d) + (s / 2^(t+d) % 2) * 4^(t+d) = _
    rw [hz, spS_stay h d]
    simp
theorem spS_end {s t : Nat} (ht : t ≤ 9) (h : s / 2^t = 0) : spS s t = spS s 9 := by
  have := spS_stay h (9 - t)
  rw [show t + (9 - t) = 9 by omega] at this
  exact this.symm
def spK (S : List Nat) : Nat → Nat
  | 0 => 0
  | i+1 => spK S i + spS (S.getD i 0) 9
theorem spK_le (S : List Nat) : ∀ i, spK S i ≤ i * 262144
  | 0 => Nat.le_refl _
  | i+1 => by
    have h := spK_le S i
    have h2 := spS_lt (S.getD i 0) 9
    have h3 : (4 : Nat)^9 = 262144 := by decide
    show spK S i + spS (S.getD i 0) 9 ≤ _
    omega
theorem pow4_le {t : Nat} (ht : t < 9) : 4^t ≤ 65536 := by
  have h : 4^t ≤ 4^8 := Nat.pow_le_pow_right (by omega) (by omega)
  exact Nat.le_trans h (by decide)

theorem bit_div (s k : Nat) : s / 2^k % 2 = if s.testBit k then 1 else 0 := by
  rw [Nat.testBit_eq_decide_div_mod_eq]
  by_cases h : s / 2^k % 2 = 1
  · rw [h]; simp
  · have : s / 2^k % 2 = 0 := by omega
    rw [this]; simp
theorem spK_tl (S : List Nat) : ∀ i, spK S i = tlN S i 0 + 4 * tlN S i 1 + 16 * tlN S i 2 + 64 * tlN S i 3 + 256 * tlN S i 4 + 1024 * tlN S i 5 + 4096 * tlN S i 6 + 16384 * tlN S i 7 + 65536 * tlN S i 8
  | 0 => rfl
  | i+1 => by
    have h := spK_tl S i
    show spK S i + spS (S.getD i 0) 9 = _
    simp only [tlN, spS, bit_div, Nat.zero_add]
    rw [h]
    omega
/-- With at most three sets on each side the spreads tell the tallies. -/
theorem spK_eq {S T : List Nat} {n : Nat} (hS : S.length = n) (hT : T.length = n) (hn : n ≤ 3) : (spK S n == spK T n) = tlE S T := by
  have hs := fun k => tlN_le S k n
  have ht := fun k => tlN_le T k n
  rw [← tlE_all, spK_tl, spK_tl, hS, hT]
  have hs0 := hs 0; have hs1 := hs 1; have hs2 := hs 2; have hs3 := hs 3; have hs4 := hs 4; have hs5 := hs 5; have hs6 := hs 6; have hs7 := hs 7; have hs8 := hs 8
  have ht0 := ht 0; have ht1 := ht 1; have ht2 := ht 2; have ht3 := ht 3; have ht4 := ht 4; have ht5 := ht 5; have ht6 := ht 6; have ht7 := ht 7; have ht8 := ht 8
  clear hs ht
  simp only [List.all_cons, List.all_nil, Bool.and_true]
  rw [Bool.eq_iff_iff]
  simp only [Bool.and_eq_true, beq_iff_eq]
  constructor
  · intro h
    refine ⟨?_, ?_, ?_, ?_, ?_, ?_, ?_, ?_, ?_⟩ <;> omega
  · rintro ⟨h0, h1, h2, h3, h4, h5, h6, h7, h8⟩
    omega

set_option maxRecDepth 20000 in
set_option maxHeartbeats 4000000 in
theorem deSpread_any (S : List Nat) (g n cap : Nat) (w : World) (hk : n = S.length) (hn : n ≤ 3) (hS : ∀ t ∈ S, t < 512) (ho : Own w g 3 n (fun i => .int .i64 (S.getD i 0 : Nat))) :
    Calls Try.prog 44 #[.slice (some ⟨g, 0, none⟩) n cap] w fun e w' => e = .returned (.int .i64 (spK S n : Nat)) ∧ w = w' := by
  have HO := Lib.hid (fun i (h : i < n) => ho.cell h)
  have H5 := Lib.hid (fun i (h : i < n) => hS (S.getD i 0) (getD_mem (by omega)))
  have HKL := Lib.hid (fun i => spK_le S i)
  clear ho hS hk
  go_enter Try.func44, Try.ntmps44
  go_wp2
  go_loopw [3, 5, 6, 9] (fun z _ _ x wr => ∃ i : Nat, i ≤ n ∧ x = .int .i64 i ∧ z = .int .i64 (spK S i : Nat) ∧ wr = w) (fun _ _ _ x _ => n - (intOf x).toNat)
  case atStart => exact ⟨0, Nat.zero_le _, rfl, rfl, rfl⟩
  case round =>
    obtain ⟨i, hi, rfl, rfl, rfl⟩ := hrel
    by_cases hlt : i < n
    · have hc := HO.out i hlt
      have h5 := H5.out i hlt
      have HK := Lib.hid (show spK S (i+1) = spK S i + spS (S.getD i 0) 9 from rfl)
      have hD := HKL.out i
      have hD2 : spK S i ≤ 786432 := by omega
      obtain ⟨s, hs⟩ : ∃ s, s = S.getD i 0 := ⟨_, rfl⟩
      rw [← hs] at hc h5 HK
      clear hs hD
      obtain ⟨D, hDD⟩ : ∃ D, D = spK S i := ⟨_, rfl⟩
      rw [← hDD] at HK hD2 ⊢
      clear hDD
      have HE := Lib.hid (fun t (ht : t ≤ 9) (h : s / 2^t = 0) => spS_end ht h)
      have HL := Lib.hid (fun t => spS_lt s t)
      have HST := Lib.hid (show ∀ t, spS s (t+1) = spS s t + (s / 2^t % 2) * 4^t from fun _ => rfl)
      have HS9 := Lib.hid (show s / 2^9 = 0 from Nat.div_eq_of_lt (by omega))
      have HH := Lib.hid (show ∀ t, s / 2^(t+1) = s / 2^t / 2 from fun t => by rw [Nat.pow_succ, Nat.div_div_eq_div_mul])
      have HP4 := Lib.hid (show ∀ t, 4^(t+1) = 4^t * 4 from fun t => Nat.pow_succ ..)
      have HPL := Lib.hid (fun t (ht : t < 9) => pow4_le ht)
      have H0 : s / 2^0 = s := by simp
      have HZ0 := Lib.hid (show spS s 0 = 0 from rfl)
      go_wp2
      go_loopw [3, 5, 6] (fun z b p wi => ∃ t bb pp zz : Nat, t ≤ 9 ∧ bb = s / 2^t ∧ pp = 4^t ∧ zz = spS s t ∧ b = .int .i64 bb ∧ p = .int .i64 pp ∧ z = .int .i64 (D + zz : Nat) ∧ wi = wr) (fun _ b _ _ => (intOf b).toNat)
      case atStart => exact ⟨0, s, 1, 0, by omega, H0.symm, rfl, rfl, rfl, rfl, rfl, rfl⟩
      case round =>
        obtain ⟨t, bb, pp, zz, ht, hbb, hpp, hzz, rfl, rfl, rfl, rfl⟩ := hrel
        have HB := Lib.hid hbb
        have HP := Lib.hid hpp
        have HZ := Lib.hid hzz
        by_cases hb0 : bb = 0
        · have HEE := Lib.hid (HE.out t ht (by rw [← hbb]; exact hb0))
          clear hbb hpp hzz
          subst hb0
          go_wp2
          go_roundw
          case rel => exact ⟨i + 1, by omega, by go_num, by rw [HK.out, ← HEE.out, ← HZ.out], trivial⟩
          case measure => simp [intOf]; omega
        · have ht9 : t < 9 := by
            by_cases e : t = 9
            · subst e; exact absurd (hbb.trans HS9.out) hb0
            · omega
          have hp6 := HPL.out t ht9
          have hz6 := HL.out t
          rw [← hpp] at hp6 hz6
          rw [← hzz] at hz6
          have HB2 := Lib.hid (show bb / 2 = s / 2^(t+1) from by rw [HH.out, ← hbb])
          have HP2 := Lib.hid (show pp * 4 = 4^(t+1) from by rw [HP4.out, ← hpp])
          have HZ2 := Lib.hid (show zz + (bb % 2) * pp = spS s (t+1) from by rw [HST.out, ← hbb, ← hpp, ← hzz])
          have hbs : bb ≤ s := by rw [hbb]; exact Nat.div_le_self _ _
          clear hbb hpp hzz
          have hb1 : (0 : Int) < (bb : Int) := by omega
          obtain ⟨h, hh⟩ : ∃ h, h = bb / 2 := ⟨_, rfl⟩
          have hq : Int.tdiv (bb : Int) 2 = (h : Int) := by rw [hh]; exact quo_nat bb 2
          have hqw : IntKind.i64.wrap (h : Int) = (h : Int) := IntWalk.i64_in _ (by omega)
          have hpw : IntKind.i64.wrap ((pp : Int) * 4) = ((pp * 4 : Nat) : Int) := by rw [IntWalk.i64_in _ (by omega)]; omega
          rw [← hh] at HB2
          have hhb : h < bb := by omega
          have HHB := Lib.hid hhb
          rcases Nat.mod_two_eq_zero_or_one bb with hm | hm
          · have hr : Int.tmod (bb : Int) 2 = 0 := by have := rem_nat bb 2; rw [hm] at this; simpa using this
            rw [hm, Nat.zero_mul, Nat.add_zero] at HZ2
            clear hm hh
            go_wp2
            go_roundw
            case rel => exact ⟨t + 1, h, pp * 4, zz, by omega, HB2.out, HP2.out, HZ2.out, rfl, by first | rfl | go_num, by first | rfl | go_num, trivial⟩
            case measure => simp [intOf]; omega
          · have hr : Int.tmod (bb : Int) 2 = 1 := by have := rem_nat bb 2; rw [hm] at this; simpa using this
            rw [hm, Nat.one_mul] at HZ2
            clear hm hh
            go_wp2
            go_roundw
            case rel => exact ⟨t + 1, h, pp * 4, zz + pp, by omega, HB2.out, HP2.out, HZ2.out, rfl, by first | rfl | go_num, by first | rfl | go_num, trivial⟩
            case measure => simp [intOf]; omega
    · obtain rfl : i = n := by omega
      go_wp2
      go_ret
      exact ⟨rfl, rfl⟩
end Go.Proofs.Ytpcijgdpinmcmaa
