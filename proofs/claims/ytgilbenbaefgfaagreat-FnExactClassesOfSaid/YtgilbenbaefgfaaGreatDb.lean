/- Desire in the model: who is worth whom; IsWorth, CompareMembers, AreUnlike. -/
import Derived.Test.YtgilbenbaefgfaaGreatDa
import Derived.Test.YtgilbenbaefgfaaGreatN4
import Derived.Outline
namespace Go.Proofs.YtgilbenbaefgfaaGreat
open Go.RowKit Vo

set_option maxRecDepth 20000 in
set_option maxHeartbeats 4000000 in
theorem deWorth_any (p : Nat → Bool) (n i j g cap : Nat) (w : World) (hn : n < 10) (hi : i < n) (hj : j < n) (hw : Own w g 4 (2^n) (fun s => .bool (p s))) :
    Calls Tryz.prog 47 #[.slice (some ⟨g, 0, none⟩) (2^n : Nat) cap, .int .i64 i, .int .i64 j] w fun e w' => e = .returned (.bool (worthP p n i j)) ∧ w = w' := by
  have HW := Lib.hid hw
  have h512 := pow_lt (n := n) (by omega)
  have HNI := Lib.hid (show ∀ s, s < 2^n → s.testBit i = false → s + 2^i < 2^n ∧ s ||| 2^i = s + 2^i from fun s h hb => by rw [add_pow h hi hb]; exact ⟨or_pow_lt h hi, rfl⟩)
  have HNJ := Lib.hid (show ∀ s, s < 2^n → s.testBit j = false → s + 2^j < 2^n ∧ s ||| 2^j = s + 2^j from fun s h hb => by rw [add_pow h hj hb]; exact ⟨or_pow_lt h hj, rfl⟩)
  have hshi := shl_pow i (by omega)
  have hshj := shl_pow j (by omega)
  have hPi := Nat.pow_le_pow_right (show 1 ≤ 2 by omega) (show i ≤ 9 by omega)
  have hPj := Nat.pow_le_pow_right (show 1 ≤ 2 by omega) (show j ≤ 9 by omega)
  have HSW := Lib.hid (show ∀ s, worthS p i j s = (s.testBit i || (s.testBit j || (!p (s ||| 2^j) || p (s ||| 2^i)))) from fun _ => rfl)
  have HF := Lib.hid (fun t (ht : t < 2^n) (h : worthS p i j t = false) => show worthP p n i j = false from allK_false t ht h)
  have HT := Lib.hid (show (∀ t, t < 2^n → worthS p i j t = true) → worthP p n i j = true from fun h => allK_iff.2 h)
  clear hw
  obtain ⟨N, hN⟩ : ∃ N, 2^n = N := ⟨_, rfl⟩
  rw [hN] at HW h512 HNI HNJ HF HT ⊢
  clear hN
  obtain ⟨P, hPe⟩ : ∃ P, 2^i = P := ⟨_, rfl⟩
  rw [hPe] at HNI hshi hPi HSW
  clear hPe
  obtain ⟨Q, hQe⟩ : ∃ Q, 2^j = Q := ⟨_, rfl⟩
  rw [hQe] at HNJ hshj hPj HSW
  clear hQe
  obtain ⟨r, hr⟩ : ∃ r, r = worthP p n i j := ⟨_, rfl⟩
  rw [← hr] at HF HT ⊢
  clear hr
  go_enter Tryz.func47, Tryz.ntmps47
  go_wp2
  go_loopw [7, 10] (fun _ x wr => ∃ b : Nat, b ≤ N ∧ x = .int .i64 b ∧ (∀ t, t < b → worthS p i j t = true) ∧ wr = w) (fun _ x _ => N - (intOf x).toNat)
  case atStart => exact ⟨0, Nat.zero_le _, rfl, fun _ h => by omega, rfl⟩
  case round =>
    obtain ⟨b, hb, rfl, hall, rfl⟩ := hrel
    have HA := Lib.hid hall
    clear hall
    by_cases hlt : b < N
    · have hbi := bit_mod0 b i
      have hbj := bit_mod0 b j
      have hnni := div_nn b i
      have hnnj := div_nn b j
      have HSTEP := Lib.hid (show worthS p i j b = true → ∀ t, t < b + 1 → worthS p i j t = true from fun h t ht => by
        by_cases e : t = b
        · subst e; exact h
        · exact HA.out t (by omega))
      cases hbit : b.testBit i
      · cases hbit2 : b.testBit j
        · obtain ⟨hlt2, hor⟩ := HNI.out b hlt hbit
          obtain ⟨hlt3, hor3⟩ := HNJ.out b hlt hbit2
          have hcI := HW.out.cell hlt2
          have hcJ := HW.out.cell hlt3
          have hsumI : ((b : Int) + (P : Int)).toNat = b + P := by omega
          have hsumJ : ((b : Int) + (Q : Int)).toNat = b + Q := by omega
          have hS2 := HSW.out b
          rw [hbit, hbit2, hor, hor3] at hS2
          rw [hbit] at hbi
          rw [hbit2] at hbj
          have h0 : (0 : Int) ≤ (b : Int) + P := by omega
          have h1 : (b : Int) + P < N := by omega
          have h2 : (0 : Int) ≤ (b : Int) + Q := by omega
          have h3 : (b : Int) + Q < N := by omega
          clear hor hor3
          cases hpj : p (b + Q)
          · rw [hpj] at hcJ hS2
            have HS := Lib.hid (HSTEP.out (by rw [hS2]; rfl))
            clear hbit hbit2 hS2 hpj
            go_wp2
            go_roundw
            case rel => exact ⟨b + 1, by omega, by go_num, HS.out, trivial⟩
            case measure => simp [intOf]; omega
          · cases hpi : p (b + P)
            · rw [hpj] at hcJ hS2
              rw [hpi] at hcI hS2
              have HR := Lib.hid (HF.out b hlt (by rw [hS2]; rfl))
              clear hbit hbit2 hS2 hpj hpi
              go_wp2
              go_ret
              exact ⟨by rw [HR.out]; rfl, rfl⟩
            · rw [hpj] at hcJ hS2
              rw [hpi] at hcI hS2
              have HS := Lib.hid (HSTEP.out (by rw [hS2]; rfl))
              clear hbit hbit2 hS2 hpj hpi
              go_wp2
              go_roundw
              case rel => exact ⟨b + 1, by omega, by go_num, HS.out, trivial⟩
              case measure => simp [intOf]; omega
        · have hS2 := HSW.out b
          rw [hbit, hbit2] at hS2
          rw [hbit] at hbi
          rw [hbit2] at hbj
          have HS := Lib.hid (HSTEP.out (by rw [hS2]; rfl))
          clear hbit hbit2 hS2
          go_wp2
          go_roundw
          case rel => exact ⟨b + 1, by omega, by go_num, HS.out, trivial⟩
          case measure => simp [intOf]; omega
      · have hS2 := HSW.out b
        rw [hbit] at hS2
        rw [hbit] at hbi
        have HS := Lib.hid (HSTEP.out (by rw [hS2]; rfl))
        clear hbit hS2
        go_wp2
        go_roundw
        case rel => exact ⟨b + 1, by omega, by go_num, HS.out, trivial⟩
        case measure => simp [intOf]; omega
    · obtain rfl : b = N := by omega
      have HR := Lib.hid (HT.out HA.out)
      go_wp2
      go_ret
      exact ⟨by rw [HR.out]; rfl, rfl⟩

set_option maxHeartbeats 1000000 in
theorem deGreater_any (p : Nat → Bool) (n i j g cap : Nat) (w : World) (hn : n < 10) (hi : i < n) (hj : j < n) (hw : Own w g 4 (2^n) (fun s => .bool (p s))) :
    Calls Tryz.prog 27 #[.slice (some ⟨g, 0, none⟩) (2^n : Nat) cap, .int .i64 i, .int .i64 j] w fun e w' => e = .returned (.bool (worthP p n i j && !worthP p n j i)) ∧ w = w' := by
  have H1 := Lib.hid (deWorth_any p n i j g cap w hn hi hj hw)
  have H2 := Lib.hid (deWorth_any p n j i g cap w hn hj hi hw)
  clear hw
  obtain ⟨N, hN⟩ : ∃ N, 2^n = N := ⟨_, rfl⟩
  rw [hN] at H1 H2 ⊢
  clear hN
  generalize worthP p n i j = a at *
  generalize worthP p n j i = b at *
  cases a
  · go_enter Tryz.func27, Tryz.ntmps27
    go_wp2_with fail
    refine H1.out.mono ?_
    rintro e w1 ⟨rfl, rfl⟩
    go_wp2
    go_ret
    exact ⟨rfl, rfl⟩
  · go_enter Tryz.func27, Tryz.ntmps27
    go_wp2_with fail
    refine H1.out.mono ?_
    rintro e w1 ⟨rfl, rfl⟩
    go_wp2_with fail
    refine H2.out.mono ?_
    rintro e w1 ⟨rfl, rfl⟩
    go_wp2
    go_ret
    exact ⟨rfl, rfl⟩

set_option maxHeartbeats 1000000 in
theorem deUnlike_any (p : Nat → Bool) (n i j g cap : Nat) (w : World) (hn : n < 10) (hi : i < n) (hj : j < n) (hw : Own w g 4 (2^n) (fun s => .bool (p s))) :
    Calls Tryz.prog 53 #[.slice (some ⟨g, 0, none⟩) (2^n : Nat) cap, .int .i64 i, .int .i64 j] w fun e w' => e = .returned (.bool (!worthP p n i j && !worthP p n j i)) ∧ w = w' := by
  have H1 := Lib.hid (deWorth_any p n i j g cap w hn hi hj hw)
  have H2 := Lib.hid (deWorth_any p n j i g cap w hn hj hi hw)
  clear hw
  obtain ⟨N, hN⟩ : ∃ N, 2^n = N := ⟨_, rfl⟩
  rw [hN] at H1 H2 ⊢
  clear hN
  generalize worthP p n i j = a at *
  generalize worthP p n j i = b at *
  cases a
  · go_enter Tryz.func53, Tryz.ntmps53
    go_wp2_with fail
    refine H1.out.mono ?_
    rintro e w1 ⟨rfl, rfl⟩
    go_wp2_with fail
    refine H2.out.mono ?_
    rintro e w1 ⟨rfl, rfl⟩
    go_wp2
    go_ret
    exact ⟨rfl, rfl⟩
  · go_enter Tryz.func53, Tryz.ntmps53
    go_wp2_with fail
    refine H1.out.mono ?_
    rintro e w1 ⟨rfl, rfl⟩
    go_wp2
    go_ret
    exact ⟨rfl, rfl⟩

end Go.Proofs.YtgilbenbaefgfaaGreat
