/- Contracts of the model's IsProperGame and IsStrongGame. -/
import Derived.Test.YtpcijgdpinmcmabJ4
import Derived.Test.YtpcijgdpinmcmabJ5
import Derived.Outline
namespace Go.Proofs.Ytpcijgdpinmcmab
open Go.RowKit Vo

set_option maxRecDepth 20000 in
set_option maxHeartbeats 1000000 in
theorem gmProper_any (p : Nat → Bool) (N g cap : Nat) (w : World) (hN : N ≤ 512) (hw : Own w g 4 N (fun j => .bool (p j))) :
    Calls Try.prog 103 #[.slice (some ⟨g, 0, none⟩) N cap] w fun e w' => e = .returned (.bool (allK (fun s => !p s || !p (N - 1 - s)) N)) ∧ w = w' := by
  have HO := Lib.hid hw
  clear hw
  go_enter Try.func103, Try.ntmps103
  go_wp2
  go_loopw [3, 4, 7] (fun _ _ i wr => ∃ j : Nat, j ≤ N ∧ i = .int .i64 j ∧ allK (fun s => !p s || !p (N - 1 - s)) j = true ∧ wr = w) (fun _ _ i _ => N - (intOf i).toNat)
  case atStart => exact ⟨0, Nat.zero_le _, rfl, rfl, rfl⟩
  case round =>
    obtain ⟨k, hk, rfl, hall, rfl⟩ := hrel
    have HL := Lib.hid hall
    clear hall
    by_cases hlt : k < N
    · have hcell := HO.out.cell hlt
      have hcell2 := HO.out.cell (show N - 1 - k < N by omega)
      have HPK := Lib.hid (show allK (fun s => !p s || !p (N - 1 - s)) (k+1) = (allK (fun s => !p s || !p (N - 1 - s)) k && (!p k || !p (N - 1 - k))) from rfl)
      have HF := Lib.hid (show (!p k || !p (N - 1 - k)) = false → allK (fun s => !p s || !p (N - 1 - s)) N = false from fun h => allK_false k hlt h)
      have hcoi : ((N : Int) - 1 - k).toNat = N - 1 - k := by omega
      cases hwin : p k <;> cases hwin2 : p (N - 1 - k)
      all_goals
        rw [hwin] at hcell HPK HF
        rw [hwin2] at hcell2 HPK HF
        clear hwin hwin2
        have h0 : (0 : Int) ≤ (N : Int) - 1 - k := by omega
        have h1 : (N : Int) - 1 - k < N := by omega
        go_wp2
        first
          | (go_roundw
             case rel => exact ⟨k + 1, by omega, by go_num, by rw [HPK.out, HL.out]; rfl, trivial⟩
             case measure => simp [intOf]; omega)
          | (go_ret
             exact ⟨by rw [HF.out rfl]; rfl, rfl⟩)
    · obtain rfl : k = N := by omega
      go_wp2
      go_ret
      exact ⟨by rw [HL.out]; rfl, rfl⟩

theorem proper_all (p : Nat → Bool) (q : Nat) : allK (fun s => !p s || !p (2^q - 1 - s)) (2^q) = allK (properS p q) (2^q) := rfl
theorem strong_all (p : Nat → Bool) (q : Nat) : allK (fun s => !!p (2^q - 1 - s) || !!p (2^q - 1 - (2^q - 1 - s))) (2^q) = allK (strongS p q) (2^q) :=
  allK_congr fun s hs => by
    unfold strongS co
    rw [show 2^q - 1 - (2^q - 1 - s) = s from by omega, Bool.not_not, Bool.not_not, Bool.or_comm]
theorem gmStrong_any (p : Nat → Bool) (q g : Nat) (w : World) (hq : 2^q ≤ 512) (hw : Own w g 4 (2^q) (fun j => .bool (!p (2^q - 1 - j)))) :
    Calls Try.prog 103 #[.slice (some ⟨g, 0, none⟩) (2^q : Nat) (2^q : Nat)] w fun e w' => e = .returned (.bool (allK (strongS p q) (2^q))) ∧ w = w' :=
  (gmProper_any (fun s => !p (2^q - 1 - s)) (2^q) g (2^q) w hq hw).mono fun e w' h => ⟨by rw [← strong_all]; exact h.1, h.2⟩


end Go.Proofs.Ytpcijgdpinmcmab
