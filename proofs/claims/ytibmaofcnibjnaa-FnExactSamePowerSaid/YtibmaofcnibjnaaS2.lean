/- Contracts of the given model: committees, totals, sets, who wins and who blocks. -/
import Derived.Test.YtibmaofcnibjnaaS1
namespace Go.Proofs.Ytibmaofcnibjnaa
open Go.RowKit Vo

theorem goodB_parts (q : Int) (ws : List Int) (n : Nat) : goodB q ws n = (inB n 1 9 && allB 0 1000 ws n && inB q 1 (sumK ws n)) := by
  by_cases h1 : (1 : Int) ≤ n ∧ (n : Int) ≤ 9
  · rw [inB_yes h1.1 h1.2]
    by_cases h2 : InK 0 1000 ws n
    · rw [allB_yes h2]
      by_cases h3 : 1 ≤ q ∧ q ≤ sumK ws n
      · rw [inB_yes h3.1 h3.2, goodB_true ⟨by omega, by omega, h2, h3.1, h3.2⟩]; rfl
      · rw [inB_no h3, goodB_false (fun g => h3 ⟨g.q1, g.q2⟩)]; rfl
    · rw [allB_no h2, goodB_false (fun g => h2 g.ok)]; rfl
  · rw [inB_no h1, goodB_false (fun g => h1 (by have := g.lo; have := g.hi; omega))]; rfl

set_option maxHeartbeats 1000000 in
theorem voGood_any (q : Int) (A : Option Addr) (n cap : Nat) (ws : List Int) (w : World) (hm : n ≤ 9223372036854775807) (hk : Known w A n ws) :
    Calls Try.prog 49 #[.agg #[.int .i64 q, .slice A n cap]] w fun e w' => e = .returned (.bool (goodB q ws n)) ∧ Below w.heap.size w w' := by
  have HK := Lib.hid hk
  clear hk
  have hb0 := below1 w (.cells #[.int .i64 q, .slice A n cap] 24)
  have hx := Box.new w (.int .i64 q) (.slice A n cap)
  have HP := Lib.hid (goodB_parts q ws n)
  by_cases h1 : 1 ≤ n ∧ n ≤ 9
  · obtain ⟨b, off, rfl, hsl⟩ := HK.out.get h1.1
    have HI := Lib.hid (inB_yes (x := n) (lo := 1) (hi := 9) (by omega) (by omega))
    have HSL := Lib.hid (hsl.now hb0)
    clear hsl
    obtain ⟨ha, hb⟩ := h1
    by_cases h2 : InK 0 1000 ws n
    · have HA := Lib.hid (allB_yes h2)
      have HOK := Lib.hid h2
      clear h2
      go_enter Try.func49, Try.ntmps49
      go_wp2_with fail
      refine (l1In_any n 1 9 _).mono ?_
      rintro e w1 ⟨rfl, rfl⟩
      rw [HI.out]
      go_wp2_with fail
      refine (l1All_any b off n cap ws 0 1000 _ hm HSL.out).mono ?_
      rintro e w1 ⟨rfl, rfl⟩
      rw [HA.out]
      go_wp2_with fail
      go_region_held3 (fun w' => w'.cell? ⟨w.heap.size, 0, none⟩ = some (.int .i64 q) ∧ w'.cell? ⟨w.heap.size, 1, none⟩ = some (.slice (some ⟨b, off, none⟩) n cap))
        (first | go_keep | exact hx.cells)
        (first
          | (go_at_call 46; refine (voSum_any b off n cap ws _ (by omega) HOK.out (HSL.out.drew)).mono ?_; rintro e w2 ⟨rfl, rfl⟩)
          | (go_at_call 77; refine (l1In_any q 1 (sumK ws n) _).mono ?_; rintro e w2 ⟨rfl, rfl⟩))
      go_wp2
      go_ret
      exact ⟨by rw [HP.out, HI.out, HA.out]; simp, (below1 w _).drew⟩
    · have HA := Lib.hid (allB_no h2)
      clear h2
      go_enter Try.func49, Try.ntmps49
      go_wp2_with fail
      refine (l1In_any n 1 9 _).mono ?_
      rintro e w1 ⟨rfl, rfl⟩
      rw [HI.out]
      go_wp2_with fail
      refine (l1All_any b off n cap ws 0 1000 _ hm HSL.out).mono ?_
      rintro e w1 ⟨rfl, rfl⟩
      rw [HA.out]
      go_wp2
      go_ret
      exact ⟨by rw [HP.out, HI.out, HA.out]; simp, (below1 w _)⟩
  · have HI := Lib.hid (inB_no (x := n) (lo := 1) (hi := 9) (by omega))
    clear h1
    go_enter Try.func49, Try.ntmps49
    go_wp2_with fail
    refine (l1In_any n 1 9 _).mono ?_
    rintro e w1 ⟨rfl, rfl⟩
    rw [HI.out]
    go_wp2
    go_ret
    exact ⟨by rw [HP.out, HI.out]; simp, (below1 w _)⟩

set_option maxHeartbeats 400000 in
theorem sIsCommittee_any (q : Int) (A : Option Addr) (n cap : Nat) (ws : List Int) (w : World) (hm : n ≤ 9223372036854775807) (hk : Known w A n ws) :
    Calls Try.prog 15 #[.agg #[.int .i64 q, .slice A n cap]] w fun e w' => e = .returned (.bool (goodB q ws n)) ∧ Below w.heap.size w w' := by
  have HK := Lib.hid hk
  clear hk
  have hb0 := below1 w (.cells #[.int .i64 q, .slice A n cap] 24)
  go_enter Try.func15, Try.ntmps15
  go_wp2_with fail
  refine (voGood_any q A n cap ws _ hm (HK.out.now hb0)).mono ?_
  rintro e w1 ⟨rfl, hb⟩
  go_wp2
  go_ret
  exact ⟨rfl, bfrom hb0 hb⟩

set_option maxHeartbeats 1000000 in
theorem sTotalWeight_any (q : Int) (A : Option Addr) (n cap : Nat) (ws : List Int) (w : World) (hm : n ≤ 9223372036854775807) (hk : Known w A n ws) :
    Calls Try.prog 13 #[.agg #[.int .i64 q, .slice A n cap]] w fun e w' =>
      e = .returned (.tuple #[.int .i64 (totB q ws n), .bool (goodB q ws n)]) ∧ Below w.heap.size w w' := by
  have HK := Lib.hid hk
  clear hk
  have hx := Box.new w (.int .i64 q) (.slice A n cap)
  have hb0 := below1 w (.cells #[.int .i64 q, .slice A n cap] 24)
  by_cases hg : Vo.Good q ws n
  · obtain ⟨b, off, rfl, hsl⟩ := HK.out.get hg.lo
    have HSL := Lib.hid hsl
    have HOK := Lib.hid hg.ok
    have HGB := Lib.hid (goodB_true hg)
    have hn9 := hg.hi
    clear hg hsl
    go_enter Try.func13, Try.ntmps13
    go_wp2_with fail
    refine (voGood_any q _ n cap ws _ hm (HK.out.now hb0)).mono ?_
    rintro e w1 ⟨rfl, hb⟩
    rw [HGB.out]
    obtain ⟨hc0, hc1⟩ := (hx.now hb).cells
    go_wp2_with fail
    refine (voSum_any b off n cap ws _ (by omega) HOK.out ((HSL.out.now hb0).now hb)).mono ?_
    rintro e w2 ⟨rfl, rfl⟩
    go_wp2
    go_ret2
    exact ⟨by rw [totB_yes HGB.out, HGB.out]; rfl, bfrom hb0 hb⟩
  · have HGB := Lib.hid (goodB_false hg)
    clear hg
    go_enter Try.func13, Try.ntmps13
    go_wp2_with fail
    refine (voGood_any q A n cap ws _ hm (HK.out.now hb0)).mono ?_
    rintro e w1 ⟨rfl, hb⟩
    rw [HGB.out]
    go_wp2
    go_ret2
    exact ⟨by rw [totB_no HGB.out, HGB.out]; rfl, bfrom hb0 hb⟩

set_option maxHeartbeats 1000000 in
theorem l1Rising_any (n b off m cap : Nat) (xs : List Int) (w : World) (_hn : n < 10) (hm : m ≤ 9223372036854775807) (hsl : Sl w b off m xs) :
    Calls Try.prog 96 #[.slice (some ⟨b, off, none⟩) m cap, .int .i64 0, .int .i64 ((n : Int) - 1)] w fun e w' => e = .returned (.bool (riseB n xs m)) ∧ w = w' := by
  have HSL := Lib.hid hsl
  clear hsl
  have hlt0 := HSL.out.lt
  go_enter Try.func96, Try.ntmps96
  go_wp2
  go_loop [7, 8, 11] (fun _ _ i => ∃ k : Nat, k ≤ m ∧ i = .int .i64 k ∧ RiseK n xs k) (fun _ _ i => m - (intOf i).toNat)
  case atStart => exact ⟨0, Nat.zero_le _, rfl, RiseK.zero⟩
  case round =>
    obtain ⟨k, hk, rfl, hr⟩ := hrel
    have HR := Lib.hid hr
    clear hr
    by_cases hlt : k < m
    · have hcell : w.cell? ⟨b, off + k, none⟩ = some (.int .i64 (xs.getD k 0)) := HSL.out.cell k hlt
      by_cases hi : 0 ≤ xs.getD k 0 ∧ xs.getD k 0 ≤ (n : Int) - 1
      · have HB := Lib.hid (inB_yes hi.1 hi.2)
        by_cases hk0 : k = 0
        · have hk1 : k ≤ 0 := by omega
          have HS := Lib.hid (HR.out.succ hi.1 (by omega) (fun h => by omega))
          clear hi hk0
          generalize xs.getD k 0 = x at *
          go_wp2_with (go_at_call 77; refine (l1In_any x 0 _ _).mono ?_; rintro e w' ⟨rfl, rfl⟩; rw [HB.out])
          go_round
          case rel => exact ⟨k + 1, by omega, by go_num, HS.out⟩
          case measure => simp [intOf]; omega
        · have hcell2 : w.cell? ⟨b, off + (k - 1), none⟩ = some (.int .i64 (xs.getD (k-1) 0)) := HSL.out.cell (k-1) (by omega)
          obtain ⟨j, rfl⟩ : ∃ j, k = j + 1 := ⟨k - 1, by omega⟩
          simp only [Nat.add_sub_cancel] at hcell2
          by_cases hc : xs.getD j 0 < xs.getD (j+1) 0
          · have HS := Lib.hid (HR.out.succ hi.1 (by omega) (fun _ => hc))
            clear hi
            generalize xs.getD (j+1) 0 = x at *
            generalize xs.getD j 0 = y at *
            go_wp2_with (go_at_call 77; refine (l1In_any x 0 _ _).mono ?_; rintro e w' ⟨rfl, rfl⟩; rw [HB.out])
            go_round
            case rel => exact ⟨j + 2, by omega, by go_num, HS.out⟩
            case measure => simp [intOf]; omega
          · have HN := Lib.hid (riseB_no (fun g : RiseK n xs m => hc ((g (j+1) hlt).2.2 (by omega))))
            clear hi
            generalize xs.getD (j+1) 0 = x at *
            generalize xs.getD j 0 = y at *
            go_wp2_with (go_at_call 77; refine (l1In_any x 0 _ _).mono ?_; rintro e w' ⟨rfl, rfl⟩; rw [HB.out])
            go_ret
            exact ⟨by rw [HN.out]; rfl, rfl⟩
      · have HB := Lib.hid (inB_no hi)
        have HN := Lib.hid (riseB_no (fun g : RiseK n xs m => hi (by have := g k hlt; omega)))
        clear hi
        generalize xs.getD k 0 = x at *
        go_wp2_with (go_at_call 77; refine (l1In_any x 0 _ _).mono ?_; rintro e w' ⟨rfl, rfl⟩; rw [HB.out])
        go_ret
        exact ⟨by rw [HN.out]; rfl, rfl⟩
    · obtain rfl : k = m := by omega
      go_wp2
      go_ret
      exact ⟨by rw [riseB_yes HR.out]; rfl, rfl⟩

set_option maxHeartbeats 400000 in
theorem voSet_any (n b off m cap : Nat) (xs : List Int) (w : World) (hn : n < 10) (hm : m ≤ 9223372036854775807) (hsl : Sl w b off m xs) :
    Calls Try.prog 73 #[.int .i64 n, .slice (some ⟨b, off, none⟩) m cap] w fun e w' => e = .returned (.bool (riseB n xs m)) ∧ w = w' := by
  have HSL := Lib.hid hsl
  clear hsl
  go_enter Try.func73, Try.ntmps73
  go_wp2_with fail
  refine (l1Rising_any n b off m cap xs _ hn hm HSL.out).mono ?_
  rintro e w1 ⟨rfl, rfl⟩
  go_wp2
  go_ret
  exact ⟨rfl, rfl⟩

set_option maxHeartbeats 1000000 in
theorem voAsked_any (q : Int) (A : Option Addr) (n cap : Nat) (ws : List Int) (b2 off2 m cap2 : Nat) (xs : List Int) (w : World) (hm : n ≤ 9223372036854775807) (hk : Known w A n ws) (hm2 : m ≤ 9223372036854775807) (hs : Sl w b2 off2 m xs) :
    Calls Try.prog 42 #[.agg #[.int .i64 q, .slice A n cap], .slice (some ⟨b2, off2, none⟩) m cap2] w fun e w' =>
      e = .returned (.bool (okB q ws n xs m)) ∧ Below w.heap.size w w' := by
  have HK := Lib.hid hk
  have HSL := Lib.hid hs
  clear hk hs
  have hx := Box.new w (.int .i64 q) (.slice A n cap)
  have hb0 := below1 w (.cells #[.int .i64 q, .slice A n cap] 24)
  by_cases hg : Vo.Good q ws n
  · have HGB := Lib.hid (goodB_true hg)
    have hn9 := hg.hi
    clear hg
    go_enter Try.func42, Try.ntmps42
    go_wp2_with fail
    refine (voGood_any q A n cap ws _ hm (HK.out.now hb0)).mono ?_
    rintro e w1 ⟨rfl, hb⟩
    rw [HGB.out]
    obtain ⟨hc0, hc1⟩ := (hx.now hb).cells
    go_wp2_with fail
    refine (voSet_any n b2 off2 m cap2 xs _ (by omega) hm2 ((HSL.out.now hb0).now hb)).mono ?_
    rintro e w3 ⟨rfl, rfl⟩
    go_wp2
    go_ret
    exact ⟨by unfold okB; rw [HGB.out]; simp, bfrom hb0 hb⟩
  · have HGB := Lib.hid (goodB_false hg)
    clear hg
    go_enter Try.func42, Try.ntmps42
    go_wp2_with fail
    refine (voGood_any q A n cap ws _ hm (HK.out.now hb0)).mono ?_
    rintro e w1 ⟨rfl, hb⟩
    rw [HGB.out]
    go_wp2
    go_ret
    exact ⟨by unfold okB; rw [HGB.out]; simp, bfrom hb0 hb⟩

theorem or_pow64 (s k : Nat) (hk : k < 9) (hs : s < 512) : bits BinOp.or IntKind.i64 (s : Int) (wrap64 (2 ^ k)) = ((s ||| 2 ^ k : Nat) : Int) := by
  have h1 : (2:Nat)^k < 2^9 := Nat.pow_lt_pow_right (by omega) (by omega)
  have e : wrap64 (2 ^ k) = ((2 ^ k : Nat) : Int) := by
    rw [show ((2:Int) ^ k) = ((2 ^ k : Nat) : Int) from by simp]
    generalize 2^k = p at *
    exact IntWalk.wrap64_in _ (by omega)
  rw [e]
  generalize 2^k = p at *
  have hx : s ||| p < 2 ^ 9 := Nat.or_lt_two_pow (by omega) (by omega)
  show IntKind.i64.wrap ((BitVec.ofInt 64 (s : Int) ||| BitVec.ofInt 64 (p : Int)).toNat : Int) = _
  rw [BitVec.toNat_or, ofInt_u64 s (by omega), ofInt_u64 p (by omega)]
  exact IntWalk.i64_in _ (by omega)

set_option maxHeartbeats 400000 in
theorem voBits_any (n b off m cap : Nat) (xs : List Int) (w : World) (hn : n < 10) (hm : m ≤ 9223372036854775807) (hr : RiseK n xs m) (hsl : Sl w b off m xs) :
    Calls Try.prog 44 #[.slice (some ⟨b, off, none⟩) m cap] w fun e w' => e = .returned (.int .i64 (ofK xs m : Nat)) ∧ w = w' := by
  have HSL := Lib.hid hsl
  have HR := Lib.hid hr
  clear hsl hr
  have hlt0 := HSL.out.lt
  go_enter Try.func44, Try.ntmps44
  go_wp2
  go_loop [3, 5, 8] (fun t _ i => ∃ k : Nat, k ≤ m ∧ i = .int .i64 k ∧ t = .int .i64 (ofK xs k : Nat)) (fun _ _ i => m - (intOf i).toNat)
  case atStart => exact ⟨0, Nat.zero_le _, rfl, rfl⟩
  case round =>
    obtain ⟨k, hk, rfl, rfl⟩ := hrel
    have hof := ofK_lt (HR.out.mono hk)
    have h512 := pow_lt (n := n) (by omega)
    by_cases hlt : k < m
    · have hcell : w.cell? ⟨b, off + k, none⟩ = some (.int .i64 (xs.getD k 0)) := HSL.out.cell k hlt
      have hi := HR.out k hlt
      have HO := Lib.hid (show ofK xs (k+1) = ofK xs k ||| 2 ^ (xs.getD k 0).toNat from rfl)
      obtain ⟨x, hx⟩ : ∃ x : Nat, xs.getD k 0 = x := ⟨(xs.getD k 0).toNat, by omega⟩
      rw [hx] at hcell HO hi
      clear hx
      rw [Int.toNat_natCast] at HO
      obtain ⟨_, hi2, _⟩ := hi
      generalize ofK xs k = s at *
      have HE := Lib.hid (or_pow64 s x (by omega) (by omega))
      go_wp2
      go_round
      case rel => exact ⟨k + 1, by omega, by go_num, by rw [HE.out, HO.out]⟩
      case measure => simp [intOf]; omega
    · obtain rfl : k = m := by omega
      go_wp2
      go_ret
      exact ⟨rfl, rfl⟩

set_option maxHeartbeats 1000000 in
theorem sWeightOfSet_any (q : Int) (A : Option Addr) (n cap : Nat) (ws : List Int) (b2 off2 m cap2 : Nat) (xs : List Int) (w : World) (hm : n ≤ 9223372036854775807) (hk : Known w A n ws) (hm2 : m ≤ 9223372036854775807) (hs : Sl w b2 off2 m xs) :
    Calls Try.prog 11 #[.agg #[.int .i64 q, .slice A n cap], .slice (some ⟨b2, off2, none⟩) m cap2] w fun e w' =>
      e = .returned (.tuple #[.int .i64 (wtB q ws n xs m), .bool (okB q ws n xs m)]) ∧ Below w.heap.size w w' := by
  have HK := Lib.hid hk
  have HSL := Lib.hid hs
  clear hk hs
  have hx := Box.new w (.int .i64 q) (.slice A n cap)
  have hb0 := below1 w (.cells #[.int .i64 q, .slice A n cap] 24)
  cases hok : okB q ws n xs m with
  | true =>
    have HE := Lib.hid hok
    obtain ⟨hg, hr⟩ := okB_parts hok
    obtain ⟨b, off, rfl, hsl⟩ := HK.out.get hg.lo
    have HW := Lib.hid hsl
    have HOK := Lib.hid hg.ok
    have HR := Lib.hid hr
    have hn10 : n < 10 := by have := hg.hi; omega
    have hs2 := ofK_lt hr
    have hs512 : ofK xs m < 512 := by have := pow_lt hg.hi; omega
    have htot := hg.tot
    have hwt := hg.wt (s := ofK xs m)
    have HC := Lib.hid (show (!decide (q ≤ wtK ws (co n (ofK xs m)) n)) = decide (sumK ws n - wtK ws (ofK xs m) n < q) from by rw [wtK_co hs2 (Nat.le_refl _)]; by_cases h : sumK ws n - wtK ws (ofK xs m) n < q <;> simp [h] <;> omega)
    clear hg hr hok hsl
    go_enter Try.func11, Try.ntmps11
    go_wp2_with fail
    refine (voAsked_any q _ n cap ws b2 off2 m cap2 xs _ hm (HK.out.now hb0) hm2 (HSL.out.now hb0)).mono ?_
    rintro e w1 ⟨rfl, hb⟩
    rw [HE.out]
    have hx1 := hx.now hb
    obtain ⟨hc0, hc1⟩ := hx1.cells
    have hsl1 := Lib.hid ((HSL.out.now hb0).now hb)
    have hw1 := Lib.hid ((HW.out.now hb0).now hb)
    go_wp2_with fail
    go_region_held3 (fun w' => w'.cell? ⟨w.heap.size, 0, none⟩ = some (.int .i64 q) ∧ w'.cell? ⟨w.heap.size, 1, none⟩ = some (.slice (some ⟨b, off, none⟩) n cap))
      (first | go_keep | exact hd | exact hx1.cells)
      (first
        | (go_at_call 44; refine (voBits_any n b2 off2 m cap2 xs _ hn10 hm2 HR.out hsl1.out.drew).mono ?_; rintro e w2 ⟨rfl, rfl⟩)
        | (go_at_call 43; refine (voWeight_any _ b off n cap ws (ofK xs m) _ hn10 hs512 HOK.out hw1.out.drew).mono ?_; rintro e w3 ⟨rfl, hb3⟩; have hd := (hx1.drew.now hb3).cells)
        | (go_at_call 46; refine (voSum_any b off n cap ws _ hn10 HOK.out hw1.out.drew).mono ?_; rintro e w4 ⟨rfl, rfl⟩)
        | (go_at_call 46; refine (voSum_any b off n cap ws _ hn10 HOK.out (hw1.out.drew.now hb3)).mono ?_; rintro e w4 ⟨rfl, rfl⟩))
    go_wp2
    go_ret2
    exact ⟨by rw [wtB_yes HE.out]; rfl, bfrom hb0 (bfrom hb.drew hb3)⟩
  | false =>
    have HE := Lib.hid hok
    clear hok
    go_enter Try.func11, Try.ntmps11
    go_wp2_with fail
    refine (voAsked_any q _ n cap ws b2 off2 m cap2 xs _ hm (HK.out.now hb0) hm2 (HSL.out.now hb0)).mono ?_
    rintro e w1 ⟨rfl, hb⟩
    rw [HE.out]
    go_wp2
    go_ret2
    exact ⟨by rw [wtB_no HE.out]; rfl, bfrom hb0 hb⟩

set_option maxHeartbeats 1000000 in
theorem sIsWinning_any (q : Int) (A : Option Addr) (n cap : Nat) (ws : List Int) (b2 off2 m cap2 : Nat) (xs : List Int) (w : World) (hm : n ≤ 9223372036854775807) (hk : Known w A n ws) (hm2 : m ≤ 9223372036854775807) (hs : Sl w b2 off2 m xs) :
    Calls Try.prog 7 #[.agg #[.int .i64 q, .slice A n cap], .slice (some ⟨b2, off2, none⟩) m cap2] w fun e w' =>
      e = .returned (.tuple #[.bool (okB q ws n xs m && decide (q ≤ wtK ws (ofK xs m) n)), .bool (okB q ws n xs m)]) ∧ Below w.heap.size w w' := by
  have HK := Lib.hid hk
  have HSL := Lib.hid hs
  clear hk hs
  have hx := Box.new w (.int .i64 q) (.slice A n cap)
  have hb0 := below1 w (.cells #[.int .i64 q, .slice A n cap] 24)
  cases hok : okB q ws n xs m with
  | true =>
    have HE := Lib.hid hok
    obtain ⟨hg, hr⟩ := okB_parts hok
    obtain ⟨b, off, rfl, hsl⟩ := HK.out.get hg.lo
    have HW := Lib.hid hsl
    have HOK := Lib.hid hg.ok
    have HR := Lib.hid hr
    have hn10 : n < 10 := by have := hg.hi; omega
    have hs2 := ofK_lt hr
    have hs512 : ofK xs m < 512 := by have := pow_lt hg.hi; omega
    have htot := hg.tot
    have hwt := hg.wt (s := ofK xs m)
    have HC := Lib.hid (show (!decide (q ≤ wtK ws (co n (ofK xs m)) n)) = decide (sumK ws n - wtK ws (ofK xs m) n < q) from by rw [wtK_co hs2 (Nat.le_refl _)]; by_cases h : sumK ws n - wtK ws (ofK xs m) n < q <;> simp [h] <;> omega)
    clear hg hr hok hsl
    go_enter Try.func7, Try.ntmps7
    go_wp2_with fail
    refine (voAsked_any q _ n cap ws b2 off2 m cap2 xs _ hm (HK.out.now hb0) hm2 (HSL.out.now hb0)).mono ?_
    rintro e w1 ⟨rfl, hb⟩
    rw [HE.out]
    have hx1 := hx.now hb
    obtain ⟨hc0, hc1⟩ := hx1.cells
    have hsl1 := Lib.hid ((HSL.out.now hb0).now hb)
    have hw1 := Lib.hid ((HW.out.now hb0).now hb)
    go_wp2_with fail
    go_region_held3 (fun w' => w'.cell? ⟨w.heap.size, 0, none⟩ = some (.int .i64 q) ∧ w'.cell? ⟨w.heap.size, 1, none⟩ = some (.slice (some ⟨b, off, none⟩) n cap))
      (first | go_keep | exact hd | exact hx1.cells)
      (first
        | (go_at_call 44; refine (voBits_any n b2 off2 m cap2 xs _ hn10 hm2 HR.out hsl1.out.drew).mono ?_; rintro e w2 ⟨rfl, rfl⟩)
        | (go_at_call 43; refine (voWeight_any _ b off n cap ws (ofK xs m) _ hn10 hs512 HOK.out hw1.out.drew).mono ?_; rintro e w3 ⟨rfl, hb3⟩; have hd := (hx1.drew.now hb3).cells)
        | (go_at_call 46; refine (voSum_any b off n cap ws _ hn10 HOK.out hw1.out.drew).mono ?_; rintro e w4 ⟨rfl, rfl⟩)
        | (go_at_call 46; refine (voSum_any b off n cap ws _ hn10 HOK.out (hw1.out.drew.now hb3)).mono ?_; rintro e w4 ⟨rfl, rfl⟩))
    go_wp2
    go_ret2
    exact ⟨by simp, bfrom hb0 (bfrom hb.drew hb3)⟩
  | false =>
    have HE := Lib.hid hok
    clear hok
    go_enter Try.func7, Try.ntmps7
    go_wp2_with fail
    refine (voAsked_any q _ n cap ws b2 off2 m cap2 xs _ hm (HK.out.now hb0) hm2 (HSL.out.now hb0)).mono ?_
    rintro e w1 ⟨rfl, hb⟩
    rw [HE.out]
    go_wp2
    go_ret2
    exact ⟨by simp, bfrom hb0 hb⟩

set_option maxHeartbeats 1000000 in
theorem sIsBlocking_any (q : Int) (A : Option Addr) (n cap : Nat) (ws : List Int) (b2 off2 m cap2 : Nat) (xs : List Int) (w : World) (hm : n ≤ 9223372036854775807) (hk : Known w A n ws) (hm2 : m ≤ 9223372036854775807) (hs : Sl w b2 off2 m xs) :
    Calls Try.prog 9 #[.agg #[.int .i64 q, .slice A n cap], .slice (some ⟨b2, off2, none⟩) m cap2] w fun e w' =>
      e = .returned (.tuple #[.bool (okB q ws n xs m && !decide (q ≤ wtK ws (co n (ofK xs m)) n)), .bool (okB q ws n xs m)]) ∧ Below w.heap.size w w' := by
  have HK := Lib.hid hk
  have HSL := Lib.hid hs
  clear hk hs
  have hx := Box.new w (.int .i64 q) (.slice A n cap)
  have hb0 := below1 w (.cells #[.int .i64 q, .slice A n cap] 24)
  cases hok : okB q ws n xs m with
  | true =>
    have HE := Lib.hid hok
    obtain ⟨hg, hr⟩ := okB_parts hok
    obtain ⟨b, off, rfl, hsl⟩ := HK.out.get hg.lo
    have HW := Lib.hid hsl
    have HOK := Lib.hid hg.ok
    have HR := Lib.hid hr
    have hn10 : n < 10 := by have := hg.hi; omega
    have hs2 := ofK_lt hr
    have hs512 : ofK xs m < 512 := by have := pow_lt hg.hi; omega
    have htot := hg.tot
    have hwt := hg.wt (s := ofK xs m)
    have HC := Lib.hid (show (!decide (q ≤ wtK ws (co n (ofK xs m)) n)) = decide (sumK ws n - wtK ws (ofK xs m) n < q) from by rw [wtK_co hs2 (Nat.le_refl _)]; by_cases h : sumK ws n - wtK ws (ofK xs m) n < q <;> simp [h] <;> omega)
    clear hg hr hok hsl
    go_enter Try.func9, Try.ntmps9
    go_wp2_with fail
    refine (voAsked_any q _ n cap ws b2 off2 m cap2 xs _ hm (HK.out.now hb0) hm2 (HSL.out.now hb0)).mono ?_
    rintro e w1 ⟨rfl, hb⟩
    rw [HE.out]
    have hx1 := hx.now hb
    obtain ⟨hc0, hc1⟩ := hx1.cells
    have hsl1 := Lib.hid ((HSL.out.now hb0).now hb)
    have hw1 := Lib.hid ((HW.out.now hb0).now hb)
    go_wp2_with fail
    go_region_held3 (fun w' => w'.cell? ⟨w.heap.size, 0, none⟩ = some (.int .i64 q) ∧ w'.cell? ⟨w.heap.size, 1, none⟩ = some (.slice (some ⟨b, off, none⟩) n cap))
      (first | go_keep | exact hd | exact hx1.cells)
      (first
        | (go_at_call 44; refine (voBits_any n b2 off2 m cap2 xs _ hn10 hm2 HR.out hsl1.out.drew).mono ?_; rintro e w2 ⟨rfl, rfl⟩)
        | (go_at_call 43; refine (voWeight_any _ b off n cap ws (ofK xs m) _ hn10 hs512 HOK.out hw1.out.drew).mono ?_; rintro e w3 ⟨rfl, hb3⟩; have hd := (hx1.drew.now hb3).cells)
        | (go_at_call 46; refine (voSum_any b off n cap ws _ hn10 HOK.out hw1.out.drew).mono ?_; rintro e w4 ⟨rfl, rfl⟩)
        | (go_at_call 46; refine (voSum_any b off n cap ws _ hn10 HOK.out (hw1.out.drew.now hb3)).mono ?_; rintro e w4 ⟨rfl, rfl⟩))
    go_wp2
    go_ret2
    exact ⟨by rw [HC.out]; simp; rw [IntWalk.i64_in _ (by omega)], bfrom hb0 (bfrom hb.drew hb3)⟩
  | false =>
    have HE := Lib.hid hok
    clear hok
    go_enter Try.func9, Try.ntmps9
    go_wp2_with fail
    refine (voAsked_any q _ n cap ws b2 off2 m cap2 xs _ hm (HK.out.now hb0) hm2 (HSL.out.now hb0)).mono ?_
    rintro e w1 ⟨rfl, hb⟩
    rw [HE.out]
    go_wp2
    go_ret2
    exact ⟨by simp, bfrom hb0 hb⟩
end Go.Proofs.Ytibmaofcnibjnaa
