/- Contracts of what the laws use: sizes, copies, comparisons. -/
import Derived.Test.YtpcijgdpinmcmabW2
namespace Go.Proofs.Ytpcijgdpinmcmab
open Go.RowKit Vo

/-- The first n of two lists are the same. -/
def sameB (xs ys : List Int) (n : Nat) : Bool := decide (∀ j, j < n → xs.getD j 0 = ys.getD j 0)
theorem sameB_yes {xs ys : List Int} {n : Nat} (h : ∀ j, j < n → xs.getD j 0 = ys.getD j 0) : sameB xs ys n = true := decide_eq_true h
theorem sameB_no {xs ys : List Int} {n : Nat} (h : ¬ ∀ j, j < n → xs.getD j 0 = ys.getD j 0) : sameB xs ys n = false := decide_eq_false h

set_option maxHeartbeats 1000000 in
theorem eqIntS_in (b off n c b2 off2 c2 : Nat) (xs ys : List Int) (w : World) (hm : n ≤ 9223372036854775807) (hx : Sl w b off n xs) (hy : Sl w b2 off2 n ys) :
    Calls Try.prog 39 #[.slice (some ⟨b, off, none⟩) n c, .slice (some ⟨b2, off2, none⟩) n c2] w fun e w' => e = .returned (.bool (sameB xs ys n)) ∧ Below w.heap.size w w' := by
  have HX := Lib.hid hx
  have HY := Lib.hid hy
  clear hx hy
  go_enter Try.func39, Try.ntmps39
  go_wp2
  go_loopw [5] (fun i wr => ∃ k : Nat, k ≤ n ∧ i = .int .i64 k ∧ (∀ j, j < k → xs.getD j 0 = ys.getD j 0) ∧ Below w.heap.size w wr) (fun i _ => n - (intOf i).toNat)
  case atStart => exact ⟨0, Nat.zero_le _, rfl, fun _ h => by omega, Below.refl _ _⟩
  case round =>
    obtain ⟨k, hk, rfl, hsame, hb⟩ := hrel
    have HS := Lib.hid hsame
    clear hsame
    by_cases hlt : k < n
    · have hcx := (HX.out.now hb).cell k hlt
      have hcy := (HY.out.now hb).cell k hlt
      by_cases he : xs.getD k 0 = ys.getD k 0
      · have HS2 := Lib.hid (show ∀ j, j < k + 1 → xs.getD j 0 = ys.getD j 0 from fun j hj => by
          by_cases e : j = k
          · subst e; exact he
          · exact HS.out j (by omega))
        rw [he] at hcx
        clear he
        generalize ys.getD k 0 = y at *
        have hlt' : (k : Int) < n := by omega
        go_wp2_with fail
        go_quiet (fail)
        go_wp2
        go_roundw
        case rel => exact ⟨k + 1, by omega, by go_num, HS2.out, below_drewN hb _⟩
        case measure => simp [intOf]; omega
      · have HN := Lib.hid (sameB_no (fun g => he (g k hlt)))
        have hne : (xs.getD k 0 == ys.getD k 0) = false := by simpa using he
        have hne2 : (xs.getD k 0 != ys.getD k 0) = true := by simpa using he
        generalize xs.getD k 0 = x at *
        generalize ys.getD k 0 = y at *
        have hlt' : (k : Int) < n := by omega
        go_wp2_with fail
        go_quiet (fail)
        go_wp2
        go_ret
        exact ⟨by rw [HN.out]; rfl, below_drewN hb _⟩
    · obtain rfl : k = n := by omega
      go_wp2
      go_ret
      exact ⟨by rw [sameB_yes HS.out]; rfl, hb⟩

end Go.Proofs.Ytpcijgdpinmcmab
