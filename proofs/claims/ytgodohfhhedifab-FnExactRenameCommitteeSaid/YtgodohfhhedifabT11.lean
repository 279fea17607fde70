/- Orders: of all members, each once. -/
import Derived.Test.YtgodohfhhedifabT9
namespace Go.Proofs.Ytgodohfhhedifab
open Go.RowKit Vo

/-- Is z among the first k? -/
def hasK (xs : List Int) (z : Int) : Nat → Bool
  | 0 => false
  | k+1 => hasK xs z k || decide (xs.getD k 0 = z)
theorem hasK_yes {xs : List Int} {z : Int} {k m : Nat} (hk : k < m) (h : xs.getD k 0 = z) : hasK xs z m = true := by
  induction m with
  | zero => omega
  | succ m ih =>
    simp only [hasK]
    by_cases e : k = m
    · subst e; rw [h]; simp
    · rw [ih (by omega)]; rfl
/-- No two of the first m are the same. -/
def onceK (xs : List Int) (m : Nat) : Bool := allK (fun i => !hasK xs (xs.getD i 0) i) m
def orderB (n : Nat) (xs : List Int) (m : Nat) : Bool := decide (m = n) && (allB 0 ((n : Int) - 1) xs m && onceK xs m)
theorem onceK_succ {xs : List Int} {j : Nat} (h : onceK xs j = true) (h2 : hasK xs (xs.getD j 0) j = false) : onceK xs (j+1) = true := by
  unfold onceK at *
  simp only [allK]; rw [h, h2]; rfl
theorem onceK_no {xs : List Int} {j m : Nat} (hj : j < m) (h : hasK xs (xs.getD j 0) j = true) : onceK xs m = false := allK_false (k := m) j hj (by rw [h]; rfl)
theorem ofK_small {n : Nat} {xs : List Int} {j : Nat} (_hn : n ≤ 9) (h : InK 0 ((n : Int) - 1) xs j) : ofK xs j < 2^n := by
  induction j with
  | zero => exact Nat.two_pow_pos n
  | succ j ih =>
    have h1 := h j (by omega)
    exact Nat.or_lt_two_pow (ih fun i hi => h i (by omega)) (Nat.pow_lt_pow_right (by omega) (by omega))
theorem ofK_has {n : Nat} {xs : List Int} {j z : Nat} (h : InK 0 ((n : Int) - 1) xs j) : (ofK xs j).testBit z = hasK xs (z : Int) j := by
  induction j with
  | zero => simp [ofK, hasK]
  | succ j ih =>
    have h1 := h j (by omega)
    simp only [ofK, hasK]
    rw [Nat.testBit_or, ih fun i hi => h i (by omega), Nat.testBit_two_pow]
    congr 1
    by_cases e : xs.getD j 0 = z
    · rw [e]; simp
    · rw [decide_eq_false e, decide_eq_false (by omega)]

set_option maxHeartbeats 1000000 in
theorem l1Has_any (b off m cap : Nat) (xs : List Int) (z : Int) (w : World) (hm : m ≤ 9223372036854775807) (hsl : Sl w b off m xs) :
    Calls Try.prog 97 #[.slice (some ⟨b, off, none⟩) m cap, .int .i64 z] w fun e w' => e = .returned (.bool (hasK xs z m)) ∧ w = w' := by
  have HSL := Lib.hid hsl
  clear hsl
  have hlt0 := HSL.out.lt
  go_enter Try.func97, Try.ntmps97
  go_wp2
  go_loop [6, 9] (fun _ i => ∃ k : Nat, k ≤ m ∧ i = .int .i64 k ∧ hasK xs z k = false) (fun _ i => m - (intOf i).toNat)
  case atStart => exact ⟨0, Nat.zero_le _, rfl, rfl⟩
  case round =>
    obtain ⟨k, hk, rfl, hin⟩ := hrel
    have HIN := Lib.hid hin
    clear hin
    by_cases hlt : k < m
    · have hcell : w.cell? ⟨b, off + k, none⟩ = some (.int .i64 (xs.getD k 0)) := HSL.out.cell k hlt
      by_cases hw : xs.getD k 0 = z
      · have HY := Lib.hid (hasK_yes hlt hw)
        rw [hw] at hcell
        clear hw
        go_wp2
        go_ret
        exact ⟨by rw [HY.out]; rfl, rfl⟩
      · have HS := Lib.hid (show hasK xs z (k+1) = false from by simp only [hasK]; rw [HIN.out, decide_eq_false hw]; rfl)
        have hbe : (xs.getD k 0 == z) = false := by simpa using hw
        clear hw
        generalize xs.getD k 0 = x at *
        go_wp2
        go_round
        case rel => exact ⟨k + 1, by omega, by go_num, HS.out⟩
        case measure => simp [intOf]; omega
    · obtain rfl : k = m := by omega
      go_wp2
      go_ret
      exact ⟨by rw [HIN.out]; rfl, rfl⟩

set_option maxHeartbeats 2000000 in
theorem voOrder_any (n b off m cap : Nat) (xs : List Int) (w : World) (_hn : n < 10) (hm : m ≤ 9223372036854775807) (hc : m ≤ cap) (hsl : Sl w b off m xs) :
    Calls Try.prog 67 #[.int .i64 n, .slice (some ⟨b, off, none⟩) m cap] w fun e w' => e = .returned (.bool (orderB n xs m)) ∧ w = w' := by
  have HSL := Lib.hid hsl
  clear hsl
  have hlt0 := HSL.out.lt
  by_cases hmn : m = n
  · subst hmn
    cases hal : allB 0 ((m : Int) - 1) xs m
    · have HAL := Lib.hid hal
      have HO := Lib.hid (show orderB m xs m = false from by unfold orderB; rw [hal]; simp)
      clear hal
      go_enter Try.func67, Try.ntmps67
      go_wp2_with (go_at_call 86; refine (l1All_any b off m cap xs 0 ((m : Int) - 1) _ hm HSL.out).mono ?_; rintro e w' ⟨rfl, rfl⟩; rw [HAL.out])
      go_ret
      exact ⟨by rw [HO.out]; rfl, rfl⟩
    · have HAL := Lib.hid hal
      have HO := Lib.hid (show orderB m xs m = onceK xs m from by unfold orderB; rw [hal]; simp)
      clear hal
      go_enter Try.func67, Try.ntmps67
      go_wp2_with (go_at_call 86; refine (l1All_any b off m cap xs 0 ((m : Int) - 1) _ hm HSL.out).mono ?_; rintro e w' ⟨rfl, rfl⟩; rw [HAL.out])
      go_loop [5, 6, 20] (fun _ _ i => ∃ k : Nat, k ≤ m ∧ i = .int .i64 k ∧ onceK xs k = true) (fun _ _ i => m - (intOf i).toNat)
      case atStart => exact ⟨0, Nat.zero_le _, rfl, rfl⟩
      case round =>
        obtain ⟨k, hk, rfl, hin⟩ := hrel
        have HIN := Lib.hid hin
        clear hin
        by_cases hlt : k < m
        · have hcell : w.cell? ⟨b, off + k, none⟩ = some (.int .i64 (xs.getD k 0)) := HSL.out.cell k hlt
          have HSK := Lib.hid (show Sl w b off k xs from ⟨HSL.out.lt, fun j hj => HSL.out.cell j (by omega)⟩)
          have hkc : (k : Int) ≤ cap := by omega
          have hkc2 : k ≤ cap := by omega
          cases hh : hasK xs (xs.getD k 0) k
          · have HH := Lib.hid hh
            have HS := Lib.hid (onceK_succ HIN.out hh)
            clear hh
            obtain ⟨x, hx⟩ : ∃ x, xs.getD k 0 = x := ⟨_, rfl⟩
            rw [hx] at hcell HH
            clear hx
            go_wp2_with (go_at_call 97; refine (l1Has_any b off k cap xs x _ (by omega) HSK.out).mono ?_; rintro e w' ⟨rfl, rfl⟩; rw [HH.out])
            go_round
            case rel => exact ⟨k + 1, by omega, by go_num, HS.out⟩
            case measure => simp [intOf]; omega
          · have HH := Lib.hid hh
            have HS := Lib.hid (onceK_no hlt hh)
            clear hh
            obtain ⟨x, hx⟩ : ∃ x, xs.getD k 0 = x := ⟨_, rfl⟩
            rw [hx] at hcell HH
            clear hx
            go_wp2_with (go_at_call 97; refine (l1Has_any b off k cap xs x _ (by omega) HSK.out).mono ?_; rintro e w' ⟨rfl, rfl⟩; rw [HH.out])
            go_ret
            exact ⟨by rw [HO.out, HS.out]; rfl, rfl⟩
        · obtain rfl : k = m := by omega
          go_wp2
          go_ret
          exact ⟨by rw [HO.out, HIN.out]; rfl, rfl⟩
  · have HO := Lib.hid (show orderB n xs m = false from by unfold orderB; simp [hmn])
    have hne : ((m : Int) == n) = false := by simp; omega
    have hne2 : ((m : Int) != n) = true := by simp; omega
    go_enter Try.func67, Try.ntmps67
    go_wp2
    go_ret
    exact ⟨by rw [HO.out]; rfl, rfl⟩

set_option maxHeartbeats 2000000 in
theorem isOrder_any (n b off m cap : Nat) (xs : List Int) (w : World) (hn : n < 10) (hm : m ≤ 9223372036854775807) (hsl : Sl w b off m xs) :
    Calls Try.prog 68 #[.int .i64 n, .slice (some ⟨b, off, none⟩) m cap] w fun e w' => e = .returned (.bool (orderB n xs m)) ∧ w = w' := by
  have HSL := Lib.hid hsl
  clear hsl
  have hlt0 := HSL.out.lt
  by_cases hmn : m = n
  · subst hmn
    have HO := Lib.hid (show orderB m xs m = (allB 0 ((m : Int) - 1) xs m && onceK xs m) from by unfold orderB; simp)
    go_enter Try.func68, Try.ntmps68
    go_wp2
    go_loop [5, 7, 14] (fun v _ i => ∃ k : Nat, k ≤ m ∧ i = .int .i64 k ∧ v = .int .u64 (ofK xs k : Nat) ∧ InK 0 ((m : Int) - 1) xs k ∧ onceK xs k = true) (fun _ _ i => m - (intOf i).toNat)
    case atStart => exact ⟨0, Nat.zero_le _, rfl, rfl, InK.zero, rfl⟩
    case round =>
      obtain ⟨k, hk, rfl, rfl, hik, hin⟩ := hrel
      have HIK := Lib.hid hik
      have HIN := Lib.hid hin
      have h512 : ofK xs k < 512 := by have h1 := ofK_small (n := m) (by omega) hik; have h2 := pow_lt (n := m) (by omega); omega
      clear hik hin
      by_cases hlt : k < m
      · have hcell : w.cell? ⟨b, off + k, none⟩ = some (.int .i64 (xs.getD k 0)) := HSL.out.cell k hlt
        by_cases hw : 0 ≤ xs.getD k 0 ∧ xs.getD k 0 ≤ (m : Int) - 1
        · have HS := Lib.hid (HIK.out.succ hw.1 hw.2)
          have HB := Lib.hid (inB_yes hw.1 hw.2)
          obtain ⟨z, hz⟩ : ∃ z : Nat, xs.getD k 0 = z := ⟨(xs.getD k 0).toNat, by omega⟩
          have hzm : z < m := by omega
          have HOF := Lib.hid (show ofK xs (k+1) = ofK xs k ||| 2 ^ z from by simp only [ofK]; rw [hz, Int.toNat_natCast])
          have HBT := Lib.hid (ofK_has (z := z) HIK.out)
          cases hh : hasK xs (xs.getD k 0) k
          · have HOS := Lib.hid (onceK_succ HIN.out hh)
            rw [hz] at hcell HB hh
            have HH := Lib.hid (HBT.out.trans hh)
            clear hh hz hw
            obtain ⟨s, hs⟩ : ∃ s, ofK xs k = s := ⟨_, rfl⟩
            rw [hs] at HOF HH h512 ⊢
            clear hs HBT
            go_wp2_with (first
              | (go_at_call 72; refine (isMember_any m z _ (by omega)).mono ?_; rintro e w' ⟨rfl, rfl⟩; rw [HB.out])
              | (go_at_call 94; refine (has_any s z _ (by omega) h512).mono ?_; rintro e w' ⟨rfl, rfl⟩; rw [HH.out])
              | (go_at_call 79; refine (with_any s z _ (by omega) h512).mono ?_; rintro e w' ⟨rfl, rfl⟩; rw [← HOF.out]))
            go_round
            case rel => exact ⟨k + 1, by omega, by go_num, rfl, HS.out, HOS.out⟩
            case measure => simp [intOf]; omega
          · have HN := Lib.hid (onceK_no hlt hh)
            rw [hz] at hcell HB hh
            have HH := Lib.hid (HBT.out.trans hh)
            clear hh hz hw
            obtain ⟨s, hs⟩ : ∃ s, ofK xs k = s := ⟨_, rfl⟩
            rw [hs] at HOF HH h512 ⊢
            clear hs HBT
            go_wp2_with (first
              | (go_at_call 72; refine (isMember_any m z _ (by omega)).mono ?_; rintro e w' ⟨rfl, rfl⟩; rw [HB.out])
              | (go_at_call 94; refine (has_any s z _ (by omega) h512).mono ?_; rintro e w' ⟨rfl, rfl⟩; rw [HH.out]))
            go_ret
            exact ⟨by rw [HO.out, HN.out, Bool.and_false]; rfl, rfl⟩
        · have HB := Lib.hid (inB_no hw)
          have HN := Lib.hid (allB_no (fun g : InK 0 ((m : Int) - 1) xs m => hw (g k hlt)))
          clear hw
          generalize xs.getD k 0 = x at *
          go_wp2_with (go_at_call 72; refine (isMember_any m x _ (by omega)).mono ?_; rintro e w' ⟨rfl, rfl⟩; rw [HB.out])
          go_ret
          exact ⟨by rw [HO.out, HN.out]; rfl, rfl⟩
      · obtain rfl : k = m := by omega
        have HY := Lib.hid (allB_yes HIK.out)
        go_wp2
        go_ret
        exact ⟨by rw [HO.out, HY.out, HIN.out]; rfl, rfl⟩
  · have HO := Lib.hid (show orderB n xs m = false from by unfold orderB; simp [hmn])
    have hne : ((m : Int) == n) = false := by simp; omega
    have hne2 : ((m : Int) != n) = true := by simp; omega
    go_enter Try.func68, Try.ntmps68
    go_wp2
    go_ret
    exact ⟨by rw [HO.out]; rfl, rfl⟩
end Go.Proofs.Ytgodohfhhedifab
