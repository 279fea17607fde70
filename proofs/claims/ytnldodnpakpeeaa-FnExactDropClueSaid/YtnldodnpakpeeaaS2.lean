/- Contracts of the given model: committees, totals, sets, who wins and who blocks. -/
import Derived.Test.YtnldodnpakpeeaaS1
namespace Go.Proofs.Ytnldodnpakpeeaa
open Go.RowKit Vo

theorem goodB_parts (q : Int) (ws : List Int) (n : Nat) : goodB q ws n = (inB n 1 9 && allB 0 1000 ws n && inB q 1 (sumK ws n)) := by
  by_cases h1 : (1 : Int) ≤ n ∧ (n : Int) ≤ 9
  · rw [inB_yes h1.1 h1.2]
    by_cases h2 : InK 0 1000 ws n
    · rw [allB_yes h2]
      by_cases h3 : 1 ≤ q ∧ q ≤ sumK ws n
      · rw [inB_yes h3.1 h3.2, goodB_true ⟨by omega, by omega, h2, h3.1, h3.2⟩]; rfl
      · rw [inB_no h3, goodB_false (fun g => h3 ⟨g.q1, g.q2⟩)]; rfl
    · rw [allB_no h2, goodB_false (fun g => h2 g.ok)]; rfl
  · rw [inB_no h1, goodB_false (fun g => h1 (by have := g.lo; have := g.hi; omega))]; rfl

set_option maxHeartbeats 1000000 in
theorem voGood_any (q : Int) (A : Option Addr) (n cap : Nat) (ws : List Int) (w : World) (hm : n ≤ 9223372036854775807) (hk : Known w A n ws) :
    Calls Try.prog 128 #[.agg #[.int .i64 q, .slice A n cap]] w fun e w' => e = .returned (.bool (goodB q ws n)) ∧ Below w.heap.size w w' := by
  have HK := Lib.hid hk
  clear hk
  have hb0 := below1 w (.cells #[.int .i64 q, .slice A n cap] 116)
  have hx := Box.new w (.int .i64 q) (.slice A n cap)
  have HP := Lib.hid (goodB_parts q ws n)
  by_cases h1 : 1 ≤ n ∧ n ≤ 9
  · obtain ⟨b, off, rfl, hsl⟩ := HK.out.get h1.1
    have HI := Lib.hid (inB_yes (x := n) (lo := 1) (hi := 9) (by omega) (by omega))
    have HSL := Lib.hid (hsl.now hb0)
    clear hsl
    obtain ⟨ha, hb⟩ := h1
    by_cases h2 : InK 0 1000 ws n
    · have HA := Lib.hid (allB_yes h2)
      have HOK := Lib.hid h2
      clear h2
      go_enter Try.func128, Try.ntmps128
      go_wp2_with fail
      refine (l1In_any n 1 9 _).mono ?_
      rintro e w1 ⟨rfl, rfl⟩
      rw [HI.out]
      go_wp2_with fail
      refine (l1All_any b off n cap ws 0 1000 _ hm HSL.out).mono ?_
      rintro e w1 ⟨rfl, rfl⟩
      rw [HA.out]
      go_wp2_with fail
      go_region_held3 (fun w' => w'.cell? ⟨w.heap.size, 0, none⟩ = some (.int .i64 q) ∧ w'.cell? ⟨w.heap.size, 1, none⟩ = some (.slice (some ⟨b, off, none⟩) n cap))
        (first | go_keep | exact hx.cells)
        (first
          | (go_at_call 168; refine (voSum_any b off n cap ws _ (by omega) HOK.out (HSL.out.drew)).mono ?_; rintro e w2 ⟨rfl, rfl⟩)
          | (go_at_call 49; refine (l1In_any q 1 (sumK ws n) _).mono ?_; rintro e w2 ⟨rfl, rfl⟩))
      go_wp2
      go_ret
      exact ⟨by rw [HP.out, HI.out, HA.out]; simp, (below1 w _).drew⟩
    · have HA := Lib.hid (allB_no h2)
      clear h2
      go_enter Try.func128, Try.ntmps128
      go_wp2_with fail
      refine (l1In_any n 1 9 _).mono ?_
      rintro e w1 ⟨rfl, rfl⟩
      rw [HI.out]
      go_wp2_with fail
      refine (l1All_any b off n cap ws 0 1000 _ hm HSL.out).mono ?_
      rintro e w1 ⟨rfl, rfl⟩
      rw [HA.out]
      go_wp2
      go_ret
      exact ⟨by rw [HP.out, HI.out, HA.out]; simp, (below1 w _)⟩
  · have HI := Lib.hid (inB_no (x := n) (lo := 1) (hi := 9) (by omega))
    clear h1
    go_enter Try.func128, Try.ntmps128
    go_wp2_with fail
    refine (l1In_any n 1 9 _).mono ?_
    rintro e w1 ⟨rfl, rfl⟩
    rw [HI.out]
    go_wp2
    go_ret
    exact ⟨by rw [HP.out, HI.out]; simp, (below1 w _)⟩

set_option maxHeartbeats 1000000 in
theorem l1Rising_any (n b off m cap : Nat) (xs : List Int) (w : World) (_hn : n < 10) (hm : m ≤ 9223372036854775807) (hsl : Sl w b off m xs) :
    Calls Try.prog 187 #[.slice (some ⟨b, off, none⟩) m cap, .int .i64 0, .int .i64 ((n : Int) - 1)] w fun e w' => e = .returned (.bool (riseB n xs m)) ∧ w = w' := by
  have HSL := Lib.hid hsl
  clear hsl
  have hlt0 := HSL.out.lt
  go_enter Try.func187, Try.ntmps187
  go_wp2
  go_loop [7, 8, 11] (fun _ _ i => ∃ k : Nat, k ≤ m ∧ i = .int .i64 k ∧ RiseK n xs k) (fun _ _ i => m - (intOf i).toNat)
  case atStart => exact ⟨0, Nat.zero_le _, rfl, RiseK.zero⟩
  case round =>
    obtain ⟨k, hk, rfl, hr⟩ := hrel
    have HR := Lib.hid hr
    clear hr
    by_cases hlt : k < m
    · have hcell : w.cell? ⟨b, off + k, none⟩ = some (.int .i64 (xs.getD k 0)) := HSL.out.cell k hlt
      by_cases hi : 0 ≤ xs.getD k 0 ∧ xs.getD k 0 ≤ (n : Int) - 1
      · have HB := Lib.hid (inB_yes hi.1 hi.2)
        by_cases hk0 : k = 0
        · have hk1 : k ≤ 0 := by omega
          have HS := Lib.hid (HR.out.succ hi.1 (by omega) (fun h => by omega))
          clear hi hk0
          generalize xs.getD k 0 = x at *
          go_wp2_with (go_at_call 49; refine (l1In_any x 0 _ _).mono ?_; rintro e w' ⟨rfl, rfl⟩; rw [HB.out])
          go_round
          case rel => exact ⟨k + 1, by omega, by go_num, HS.out⟩
          case measure => simp [intOf]; omega
        · have hcell2 : w.cell? ⟨b, off + (k - 1), none⟩ = some (.int .i64 (xs.getD (k-1) 0)) := HSL.out.cell (k-1) (by omega)
          obtain ⟨j, rfl⟩ : ∃ j, k = j + 1 := ⟨k - 1, by omega⟩
          simp only [Nat.add_sub_cancel] at hcell2
          by_cases hc : xs.getD j 0 < xs.getD (j+1) 0
          · have HS := Lib.hid (HR.out.succ hi.1 (by omega) (fun _ => hc))
            clear hi
            generalize xs.getD (j+1) 0 = x at *
            generalize xs.getD j 0 = y at *
            go_wp2_with (go_at_call 49; refine (l1In_any x 0 _ _).mono ?_; rintro e w' ⟨rfl, rfl⟩; rw [HB.out])
            go_round
            case rel => exact ⟨j + 2, by omega, by go_num, HS.out⟩
            case measure => simp [intOf]; omega
          · have HN := Lib.hid (riseB_no (fun g : RiseK n xs m => hc ((g (j+1) hlt).2.2 (by omega))))
            clear hi
            generalize xs.getD (j+1) 0 = x at *
            generalize xs.getD j 0 = y at *
            go_wp2_with (go_at_call 49; refine (l1In_any x 0 _ _).mono ?_; rintro e w' ⟨rfl, rfl⟩; rw [HB.out])
            go_ret
            exact ⟨by rw [HN.out]; rfl, rfl⟩
      · have HB := Lib.hid (inB_no hi)
        have HN := Lib.hid (riseB_no (fun g : RiseK n xs m => hi (by have := g k hlt; omega)))
        clear hi
        generalize xs.getD k 0 = x at *
        go_wp2_with (go_at_call 49; refine (l1In_any x 0 _ _).mono ?_; rintro e w' ⟨rfl, rfl⟩; rw [HB.out])
        go_ret
        exact ⟨by rw [HN.out]; rfl, rfl⟩
    · obtain rfl : k = m := by omega
      go_wp2
      go_ret
      exact ⟨by rw [riseB_yes HR.out]; rfl, rfl⟩

set_option maxHeartbeats 400000 in
theorem voSet_any (n b off m cap : Nat) (xs : List Int) (w : World) (hn : n < 10) (hm : m ≤ 9223372036854775807) (hsl : Sl w b off m xs) :
    Calls Try.prog 157 #[.int .i64 n, .slice (some ⟨b, off, none⟩) m cap] w fun e w' => e = .returned (.bool (riseB n xs m)) ∧ w = w' := by
  have HSL := Lib.hid hsl
  clear hsl
  go_enter Try.func157, Try.ntmps157
  go_wp2_with fail
  refine (l1Rising_any n b off m cap xs _ hn hm HSL.out).mono ?_
  rintro e w1 ⟨rfl, rfl⟩
  go_wp2
  go_ret
  exact ⟨rfl, rfl⟩

theorem or_pow64 (s k : Nat) (hk : k < 9) (hs : s < 512) : bits BinOp.or IntKind.i64 (s : Int) (wrap64 (2 ^ k)) = ((s ||| 2 ^ k : Nat) : Int) := by
  have h1 : (2:Nat)^k < 2^9 := Nat.pow_lt_pow_right (by omega) (by omega)
  have e : wrap64 (2 ^ k) = ((2 ^ k : Nat) : Int) := by
    rw [show ((2:Int) ^ k) = ((2 ^ k : Nat) : Int) from by simp]
    generalize 2^k = p at *
    exact IntWalk.wrap64_in _ (by omega)
  rw [e]
  generalize 2^k = p at *
  have hx : s ||| p < 2 ^ 9 := Nat.or_lt_two_pow (by omega) (by omega)
  show IntKind.i64.wrap ((BitVec.ofInt 64 (s : Int) ||| BitVec.ofInt 64 (p : Int)).toNat : Int) = _
  rw [BitVec.toNat_or, ofInt_u64 s (by omega), ofInt_u64 p (by omega)]
  exact IntWalk.i64_in _ (by omega)

set_option maxHeartbeats 400000 in
theorem voBits_any (n b off m cap : Nat) (xs : List Int) (w : World) (hn : n < 10) (hm : m ≤ 9223372036854775807) (hr : RiseK n xs m) (hsl : Sl w b off m xs) :
    Calls Try.prog 115 #[.slice (some ⟨b, off, none⟩) m cap] w fun e w' => e = .returned (.int .i64 (ofK xs m : Nat)) ∧ w = w' := by
  have HSL := Lib.hid hsl
  have HR := Lib.hid hr
  clear hsl hr
  have hlt0 := HSL.out.lt
  go_enter Try.func115, Try.ntmps115
  go_wp2
  go_loop [3, 5, 8] (fun t _ i => ∃ k : Nat, k ≤ m ∧ i = .int .i64 k ∧ t = .int .i64 (ofK xs k : Nat)) (fun _ _ i => m - (intOf i).toNat)
  case atStart => exact ⟨0, Nat.zero_le _, rfl, rfl⟩
  case round =>
    obtain ⟨k, hk, rfl, rfl⟩ := hrel
    have hof := ofK_lt (HR.out.mono hk)
    have h512 := pow_lt (n := n) (by omega)
    by_cases hlt : k < m
    · have hcell : w.cell? ⟨b, off + k, none⟩ = some (.int .i64 (xs.getD k 0)) := HSL.out.cell k hlt
      have hi := HR.out k hlt
      have HO := Lib.hid (show ofK xs (k+1) = ofK xs k ||| 2 ^ (xs.getD k 0).toNat from rfl)
      obtain ⟨x, hx⟩ : ∃ x : Nat, xs.getD k 0 = x := ⟨(xs.getD k 0).toNat, by omega⟩
      rw [hx] at hcell HO hi
      clear hx
      rw [Int.toNat_natCast] at HO
      obtain ⟨_, hi2, _⟩ := hi
      generalize ofK xs k = s at *
      have HE := Lib.hid (or_pow64 s x (by omega) (by omega))
      go_wp2
      go_round
      case rel => exact ⟨k + 1, by omega, by go_num, by rw [HE.out, HO.out]⟩
      case measure => simp [intOf]; omega
    · obtain rfl : k = m := by omega
      go_wp2
      go_ret
      exact ⟨rfl, rfl⟩

end Go.Proofs.Ytnldodnpakpeeaa
