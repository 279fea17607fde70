/- Contracts of shares compared, the program's and the model's; the walk of its law. -/
import Derived.Test.YtbecagfokcadnaaQ0
import Derived.Laws.StructEq
import Derived.Deep.RegionHeld3
import Derived.Outline
namespace Go.Proofs.Ytbecagfokcadnaa
open Go.RowKit Vo

set_option maxHeartbeats 1000000 in
theorem isShare_any (x y : Int) (w : World) :
    Calls Try.prog 95 #[.agg #[.int .i64 x, .int .i64 y]] w fun e w' => e = .returned (.bool (sgB x y)) ∧ Below w.heap.size w w' := by
  have hb0 := below1 w (.cells #[.int .i64 x, .int .i64 y] 87)
  by_cases h1 : 1 ≤ y
  · by_cases h2 : y ≤ 1000000
    · by_cases h3 : 0 ≤ x
      · by_cases h4 : x ≤ y
        · obtain ⟨a, rfl⟩ : ∃ a : Nat, x = a := ⟨x.toNat, by omega⟩
          obtain ⟨b, rfl⟩ : ∃ b : Nat, y = b := ⟨y.toNat, by omega⟩
          have HV := Lib.hid (show sgB (a : Int) (b : Int) = (((Nat.gcd a b : Nat) : Int) == 1) from by
            by_cases h : Nat.gcd a b = 1
            · rw [sgB_yes (show Sg (a : Int) (b : Int) from ⟨by omega, by omega, by omega, by omega, by simpa using h⟩), h]; rfl
            · rw [sgB_no (fun g : Sg (a : Int) (b : Int) => h (by simpa using g.2.2.2.2))]; symm; simp; omega)
          have HG := Lib.hid (fun W => greatestDivisor_any a b W (by omega) (by omega))
          go_enter Try.func95, Try.ntmps95
          go_wp2_with (go_at_call 96; refine (HG.out _).mono ?_; rintro e w1 ⟨rfl, hb1⟩)
          go_ret
          exact ⟨by rw [HV.out]; simp, bfrom hb0 hb1⟩
        · have HV := Lib.hid (sgB_no (fun h : Sg x y => h4 h.2.2.2.1))
          go_enter Try.func95, Try.ntmps95
          go_wp2
          go_ret
          exact ⟨by rw [HV.out]; rfl, hb0⟩
      · have HV := Lib.hid (sgB_no (fun h : Sg x y => h3 h.2.2.1))
        have hd : decide (0 ≤ x) = false := by simpa using h3
        go_enter Try.func95, Try.ntmps95
        go_wp2
        go_ret
        exact ⟨by rw [HV.out]; simp, hb0⟩
    · have HV := Lib.hid (sgB_no (fun h : Sg x y => h2 h.2.1))
      have hd : decide (y ≤ 1000000) = false := by simpa using h2
      go_enter Try.func95, Try.ntmps95
      go_wp2
      go_ret
      exact ⟨by rw [HV.out]; simp, hb0⟩
  · have HV := Lib.hid (sgB_no (fun h : Sg x y => h1 h.1))
    have hd : decide (1 ≤ y) = false := by simpa using h1
    go_enter Try.func95, Try.ntmps95
    go_wp2
    go_ret
    exact ⟨by rw [HV.out]; simp, hb0⟩

end Go.Proofs.Ytbecagfokcadnaa
