/- The model's IsComplete and UnderMembers. -/
import Derived.Test.YtgilbenbaefgfaaGreatDb
import Derived.Test.YtgilbenbaefgfaaGreatDc
import Derived.Outline
namespace Go.Proofs.YtgilbenbaefgfaaGreat
open Go.RowKit Vo

set_option maxRecDepth 20000 in
set_option maxHeartbeats 4000000 in
theorem deComplete_any (p : Nat → Bool) (n g cap : Nat) (w : World) (hn : n < 10) (hw : Own w g 4 (2^n) (fun s => .bool (p s))) :
    Calls Tryz.prog 32 #[.slice (some ⟨g, 0, none⟩) (2^n : Nat) cap, .int .i64 n] w fun e w' => e = .returned (.bool (compB (worthP p n) n)) ∧ w = w' := by
  have HP := Lib.hid (fun i j (hi : i < n) (hj : j < n) => deUnlike_any p n i j g cap w hn hi hj hw)
  clear hw
  obtain ⟨N, hN⟩ : ∃ N, 2^n = N := ⟨_, rfl⟩
  rw [hN] at HP ⊢
  clear hN
  obtain ⟨f, hf⟩ : ∃ f, f = worthP p n := ⟨_, rfl⟩
  simp only [← hf] at HP
  rw [← hf]
  clear hf
  have HF := Lib.hid (fun i (hi : i < n) (h : allK (fun j => f i j || f j i) i = false) => show compB f n = false from allK_false i hi h)
  have HT := Lib.hid (show (∀ i, i < n → allK (fun j => f i j || f j i) i = true) → compB f n = true from fun h => allK_iff.2 h)
  obtain ⟨r, hr⟩ : ∃ r, r = compB f n := ⟨_, rfl⟩
  rw [← hr] at HF HT ⊢
  clear hr
  go_enter Tryz.func32, Tryz.ntmps32
  go_wp2
  go_loopw [5] (fun x wr => ∃ i : Nat, i ≤ n ∧ x = .int .i64 i ∧ (∀ t, t < i → allK (fun j => f t j || f j t) t = true) ∧ wr = w) (fun x _ => n - (intOf x).toNat)
  case atStart => exact ⟨0, Nat.zero_le _, rfl, fun _ h => by omega, rfl⟩
  case round =>
    obtain ⟨i, hi, rfl, hall, rfl⟩ := hrel
    have HA := Lib.hid hall
    clear hall
    by_cases hlt : i < n
    · have HSTEP := Lib.hid (show allK (fun j => f i j || f j i) i = true → ∀ t, t < i + 1 → allK (fun j => f t j || f j t) t = true from fun h t ht => by
        by_cases e : t = i
        · subst e; exact h
        · exact HA.out t (by omega))
      go_wp2
      go_loopw [6] (fun x wi => ∃ j : Nat, j ≤ i ∧ x = .int .i64 j ∧ allK (fun j => f i j || f j i) j = true ∧ wi = wr) (fun x _ => i - (intOf x).toNat)
      case atStart => exact ⟨0, Nat.zero_le _, rfl, rfl, rfl⟩
      case round =>
        obtain ⟨j, hj, rfl, hall2, rfl⟩ := hrel
        have HA2 := Lib.hid hall2
        clear hall2
        by_cases hlt2 : j < i
        · have HPJ := Lib.hid (HP.out i j hlt (by omega))
          have HAF := Lib.hid (fun (h : (f i j || f j i) = false) => HF.out i hlt (allK_false j hlt2 h))
          have HAS := Lib.hid (show (f i j || f j i) = true → allK (fun j => f i j || f j i) (j+1) = true from fun h => by simp only [allK]; rw [HA2.out, h]; rfl)
          generalize f i j = a at *
          generalize f j i = b at *
          cases hab : (a || b)
          · have HR := Lib.hid (HAF.out hab)
            have hu : (!a && !b) = true := by revert hab; cases a <;> cases b <;> simp
            rw [hu] at HPJ
            clear hab hu
            go_wp2_with fail
            refine HPJ.out.mono ?_
            rintro e w3 ⟨rfl, rfl⟩
            go_wp2
            go_ret
            exact ⟨by rw [HR.out]; rfl, rfl⟩
          · have HS := Lib.hid (HAS.out hab)
            have hu : (!a && !b) = false := by revert hab; cases a <;> cases b <;> simp
            rw [hu] at HPJ
            clear hab hu
            go_wp2_with fail
            refine HPJ.out.mono ?_
            rintro e w3 ⟨rfl, rfl⟩
            go_wp2
            go_roundw
            case rel => exact ⟨j + 1, by omega, by go_num, HS.out, trivial⟩
            case measure => simp [intOf]; omega
        · obtain rfl : j = i := by omega
          have HS := Lib.hid (HSTEP.out HA2.out)
          go_wp2
          go_roundw
          case rel => exact ⟨j + 1, by omega, by go_num, HS.out, trivial⟩
          case measure => simp [intOf]; omega
    · obtain rfl : i = n := by omega
      have HR := Lib.hid (HT.out HA.out)
      go_wp2
      go_ret
      exact ⟨by rw [HR.out]; rfl, rfl⟩

theorem agK_self (f : Nat → Nat → Bool) (k : Nat) : agK f k 1 k = false := by unfold agK cmpK; cases f k k <;> rfl
theorem agK_one (f : Nat → Nat → Bool) (k j : Nat) : agK f k 1 j = (f k j && !f j k) := by unfold agK cmpK; cases f k j <;> cases f j k <;> rfl
theorem selK_mem (f : Nat → Bool) (j : Nat) (h : j < 9) : mem (selK f (j+1)) 9 = if f j then mem (selK f j) 9 ++ [(j : Int)] else mem (selK f j) 9 := by
  simp only [selK]
  split
  · exact mem_or (selK_lt f j) h
  · rfl

end Go.Proofs.YtgilbenbaefgfaaGreat
