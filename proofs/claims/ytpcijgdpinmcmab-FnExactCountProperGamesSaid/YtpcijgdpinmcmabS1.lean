/- Contracts of the given model's smallest functions. -/
import Derived.Test.YtpcijgdpinmcmabW3
namespace Go.Proofs.Ytpcijgdpinmcmab
open Go.RowKit Vo

def inB (x lo hi : Int) : Bool := decide (lo ≤ x) && decide (x ≤ hi)
theorem inB_yes {x lo hi : Int} (h1 : lo ≤ x) (h2 : x ≤ hi) : inB x lo hi = true := by simp [inB, h1, h2]
theorem inB_no {x lo hi : Int} (h : ¬ (lo ≤ x ∧ x ≤ hi)) : inB x lo hi = false := by
  unfold inB
  by_cases h1 : lo ≤ x
  · have : ¬ x ≤ hi := fun h2 => h ⟨h1, h2⟩
    simp [this]
  · simp [h1]

set_option maxHeartbeats 400000 in
theorem l1In_any (x lo hi : Int) (w : World) : Calls Try.prog 75 #[.int .i64 x, .int .i64 lo, .int .i64 hi] w fun e w' => e = .returned (.bool (inB x lo hi)) ∧ w = w' := by
  by_cases h1 : lo ≤ x
  · by_cases h2 : x ≤ hi
    · have H := Lib.hid (inB_yes h1 h2)
      go_enter Try.func75, Try.ntmps75
      go_wp2
      go_ret
      exact ⟨by rw [H.out]; rfl, rfl⟩
    · have H := Lib.hid (inB_no (x := x) (lo := lo) (hi := hi) (fun h => h2 h.2))
      go_enter Try.func75, Try.ntmps75
      go_wp2
      go_ret
      exact ⟨by rw [H.out]; rfl, rfl⟩
  · have H := Lib.hid (inB_no (x := x) (lo := lo) (hi := hi) (fun h => h1 h.1))
    have hd : decide (lo ≤ x) = false := by simpa using h1
    go_enter Try.func75, Try.ntmps75
    go_wp2
    go_ret
    exact ⟨by rw [H.out]; simp, rfl⟩

def allB (lo hi : Int) (xs : List Int) (m : Nat) : Bool := decide (InK lo hi xs m)
theorem allB_yes {lo hi : Int} {xs m} (h : InK lo hi xs m) : allB lo hi xs m = true := decide_eq_true h
theorem allB_no {lo hi : Int} {xs m} (h : ¬ InK lo hi xs m) : allB lo hi xs m = false := decide_eq_false h

theorem bit_mod (s k : Nat) : ((s : Int) / 2 ^ k % 2 == 1) = s.testBit k := by
  have e : ((s : Int) / 2 ^ k) = ((s / 2 ^ k : Nat) : Int) := by simp
  rw [e]
  rw [Nat.testBit_eq_decide_div_mod_eq]
  generalize s / 2 ^ k = m
  by_cases h : m % 2 = 1
  · have : (m : Int) % 2 = 1 := by omega
    simp [h, this]
  · have h0 : m % 2 = 0 := by omega
    have : (m : Int) % 2 = 0 := by omega
    simp [h0, this]
theorem div_nn (s k : Nat) : 0 ≤ (s : Int) / 2 ^ k := by
  have e : ((s : Int) / 2 ^ k) = ((s / 2 ^ k : Nat) : Int) := by simp
  rw [e]; exact Int.natCast_nonneg _

end Go.Proofs.Ytpcijgdpinmcmab
