/- Contracts of the given model: committees, totals, sets, who wins and who blocks. -/
import Derived.Test.YtipplbcjdcdapabDoorS1
namespace Go.Proofs.YtipplbcjdcdapabDoor
open Go.RowKit Vo

theorem goodB_parts (q : Int) (ws : List Int) (n : Nat) : goodB q ws n = (inB n 1 9 && allB 0 1000 ws n && inB q 1 (sumK ws n)) := by
  by_cases h1 : (1 : Int) ≤ n ∧ (n : Int) ≤ 9
  · rw [inB_yes h1.1 h1.2]
    by_cases h2 : InK 0 1000 ws n
    · rw [allB_yes h2]
      by_cases h3 : 1 ≤ q ∧ q ≤ sumK ws n
      · rw [inB_yes h3.1 h3.2, goodB_true ⟨by omega, by omega, h2, h3.1, h3.2⟩]; rfl
      · rw [inB_no h3, goodB_false (fun g => h3 ⟨g.q1, g.q2⟩)]; rfl
    · rw [allB_no h2, goodB_false (fun g => h2 g.ok)]; rfl
  · rw [inB_no h1, goodB_false (fun g => h1 (by have := g.lo; have := g.hi; omega))]; rfl

set_option maxHeartbeats 1000000 in
theorem voGood_any (q : Int) (A : Option Addr) (n cap : Nat) (ws : List Int) (w : World) (hm : n ≤ 9223372036854775807) (hk : Known w A n ws) :
    Calls Tryd.prog 26 #[.agg #[.int .i64 q, .slice A n cap]] w fun e w' => e = .returned (.bool (goodB q ws n)) ∧ Below w.heap.size w w' := by
  have HK := Lib.hid hk
  clear hk
  have hb0 := below1 w (.cells #[.int .i64 q, .slice A n cap] 28)
  have hx := Box.new w (.int .i64 q) (.slice A n cap)
  have HP := Lib.hid (goodB_parts q ws n)
  by_cases h1 : 1 ≤ n ∧ n ≤ 9
  · obtain ⟨b, off, rfl, hsl⟩ := HK.out.get h1.1
    have HI := Lib.hid (inB_yes (x := n) (lo := 1) (hi := 9) (by omega) (by omega))
    have HSL := Lib.hid (hsl.now hb0)
    clear hsl
    obtain ⟨ha, hb⟩ := h1
    by_cases h2 : InK 0 1000 ws n
    · have HA := Lib.hid (allB_yes h2)
      have HOK := Lib.hid h2
      clear h2
      go_enter Tryd.func26, Tryd.ntmps26
      go_wp2_with fail
      refine (l1In_any n 1 9 _).mono ?_
      rintro e w1 ⟨rfl, rfl⟩
      rw [HI.out]
      go_wp2_with fail
      refine (l1All_any b off n cap ws 0 1000 _ hm HSL.out).mono ?_
      rintro e w1 ⟨rfl, rfl⟩
      rw [HA.out]
      go_wp2_with fail
      go_region_held3 (fun w' => w'.cell? ⟨w.heap.size, 0, none⟩ = some (.int .i64 q) ∧ w'.cell? ⟨w.heap.size, 1, none⟩ = some (.slice (some ⟨b, off, none⟩) n cap))
        (first | go_keep | exact hx.cells)
        (first
          | (go_at_call 30; refine (voSum_any b off n cap ws _ (by omega) HOK.out (HSL.out.drew)).mono ?_; rintro e w2 ⟨rfl, rfl⟩)
          | (go_at_call 27; refine (l1In_any q 1 (sumK ws n) _).mono ?_; rintro e w2 ⟨rfl, rfl⟩))
      go_wp2
      go_ret
      exact ⟨by rw [HP.out, HI.out, HA.out]; simp, (below1 w _).drew⟩
    · have HA := Lib.hid (allB_no h2)
      clear h2
      go_enter Tryd.func26, Tryd.ntmps26
      go_wp2_with fail
      refine (l1In_any n 1 9 _).mono ?_
      rintro e w1 ⟨rfl, rfl⟩
      rw [HI.out]
      go_wp2_with fail
      refine (l1All_any b off n cap ws 0 1000 _ hm HSL.out).mono ?_
      rintro e w1 ⟨rfl, rfl⟩
      rw [HA.out]
      go_wp2
      go_ret
      exact ⟨by rw [HP.out, HI.out, HA.out]; simp, (below1 w _)⟩
  · have HI := Lib.hid (inB_no (x := n) (lo := 1) (hi := 9) (by omega))
    clear h1
    go_enter Tryd.func26, Tryd.ntmps26
    go_wp2_with fail
    refine (l1In_any n 1 9 _).mono ?_
    rintro e w1 ⟨rfl, rfl⟩
    rw [HI.out]
    go_wp2
    go_ret
    exact ⟨by rw [HP.out, HI.out]; simp, (below1 w _)⟩

theorem or_pow64 (s k : Nat) (hk : k < 9) (hs : s < 512) : bits BinOp.or IntKind.i64 (s : Int) (wrap64 (2 ^ k)) = ((s ||| 2 ^ k : Nat) : Int) := by
  have h1 : (2:Nat)^k < 2^9 := Nat.pow_lt_pow_right (by omega) (by omega)
  have e : wrap64 (2 ^ k) = ((2 ^ k : Nat) : Int) := by
    rw [show ((2:Int) ^ k) = ((2 ^ k : Nat) : Int) from by simp]
    generalize 2^k = p at *
    exact IntWalk.wrap64_in _ (by omega)
  rw [e]
  generalize 2^k = p at *
  have hx : s ||| p < 2 ^ 9 := Nat.or_lt_two_pow (by omega) (by omega)
  show IntKind.i64.wrap ((BitVec.ofInt 64 (s : Int) ||| BitVec.ofInt 64 (p : Int)).toNat : Int) = _
  rw [BitVec.toNat_or, ofInt_u64 s (by omega), ofInt_u64 p (by omega)]
  exact IntWalk.i64_in _ (by omega)

end Go.Proofs.YtipplbcjdcdapabDoor
