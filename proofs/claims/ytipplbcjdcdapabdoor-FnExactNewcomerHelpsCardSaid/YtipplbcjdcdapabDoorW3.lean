/- Contracts of TotalWeight, WeightOfSet, IsWinning, IsBlocking. -/
import Derived.Test.YtipplbcjdcdapabDoorW2
namespace Go.Proofs.YtipplbcjdcdapabDoor
open Go.RowKit Vo

theorem Sl.congr {w : World} {b off n : Nat} {xs ys : List Int} (h : Sl w b off n xs) (e : ∀ j, j < n → xs.getD j 0 = ys.getD j 0) : Sl w b off n ys :=
  ⟨h.lt, fun j hj => by rw [h.cell j hj, e j hj]⟩

theorem sumK_bd2 {B : Int} {ws : List Int} {k : Nat} (h : InK 0 B ws k) : 0 ≤ sumK ws k ∧ sumK ws k ≤ B * k := by
  induction k with
  | zero => simp [sumK]
  | succ k ih =>
    have h1 := ih (h.mono (by omega)); have h2 := h k (by omega)
    simp only [sumK]
    rw [show (B * ((k + 1 : Nat) : Int)) = B * (k : Int) + B from by push_cast; rw [Int.mul_add]; simp]
    omega
set_option maxHeartbeats 400000 in
theorem sumOf_any (b off n cap : Nat) (xs : List Int) (w : World) (hn : n < 10) (hok : InK 0 1000000000000 xs n) (hsl : Sl w b off n xs) :
    Calls Tryd.prog 66 #[.slice (some ⟨b, off, none⟩) n cap] w fun e w' => e = .returned (.int .i64 (sumK xs n)) ∧ w = w' := by
  have HSL := Lib.hid hsl
  have HOK := Lib.hid hok
  clear hsl hok
  have hlt0 := HSL.out.lt
  go_enter Tryd.func66, Tryd.ntmps66
  go_wp2
  go_loop [3, 5, 8] (fun t _ i => ∃ k : Nat, k ≤ n ∧ i = .int .i64 k ∧ t = .int .i64 (sumK xs k)) (fun _ _ i => n - (intOf i).toNat)
  case atStart => exact ⟨0, Nat.zero_le _, rfl, rfl⟩
  case round =>
    obtain ⟨k, hk, rfl, rfl⟩ := hrel
    have s0 := sumK_bd2 (InK.mono HOK.out hk)
    by_cases hlt : k < n
    · have w1 := HOK.out k hlt
      have hcell : w.cell? ⟨b, off + k, none⟩ = some (.int .i64 (xs.getD k 0)) := HSL.out.cell k hlt
      have HS := Lib.hid (show sumK xs (k+1) = sumK xs k + xs.getD k 0 from rfl)
      generalize xs.getD k 0 = x at *
      generalize sumK xs k = t at *
      go_wp2
      go_round
      case rel => exact ⟨k + 1, by omega, by go_num, by rw [HS.out]⟩
      case measure => simp [intOf]; omega
    · obtain rfl : k = n := by omega
      go_wp2
      go_ret
      exact ⟨rfl, rfl⟩
end Go.Proofs.YtipplbcjdcdapabDoor

namespace Go.Proofs.YtipplbcjdcdapabDoor
open Go.RowKit Vo

def totB (q : Int) (ws : List Int) (n : Nat) : Int := if goodB q ws n then sumK ws n else 0
theorem totB_yes {q ws n} (h : goodB q ws n = true) : totB q ws n = sumK ws n := if_pos h
theorem totB_no {q ws n} (h : goodB q ws n = false) : totB q ws n = 0 := if_neg (by rw [h]; simp)
def wtB (q : Int) (ws : List Int) (n : Nat) (xs : List Int) (m : Nat) : Int := if okB q ws n xs m then wtK ws (ofK xs m) n else 0
theorem wtB_yes {q ws n xs m} (h : okB q ws n xs m = true) : wtB q ws n xs m = wtK ws (ofK xs m) n := if_pos h
theorem wtB_no {q ws n xs m} (h : okB q ws n xs m = false) : wtB q ws n xs m = 0 := if_neg (by rw [h]; simp)
theorem okB_parts {q : Int} {ws : List Int} {n : Nat} {xs : List Int} {m : Nat} (h : okB q ws n xs m = true) : Vo.Good q ws n ∧ RiseK n xs m := by
  unfold okB goodB riseB at h
  simpa using h

end Go.Proofs.YtipplbcjdcdapabDoor
