/- Contracts of the given model's VetoMembers and DictatorOf. -/
import Derived.Test.YtldpdjnedoflcaaP1
import Derived.Test.YtldpdjnedoflcaaS2
namespace Go.Proofs.Ytldpdjnedoflcaa
open Go.RowKit Vo

theorem aloneL_len (p : Nat → Bool) (k : Nat) : (aloneL p k).length ≤ k := by
  induction k with
  | zero => simp [aloneL]
  | succ k ih => simp only [aloneL, List.length_append]; split <;> simp <;> omega
theorem aloneL_more (p : Nat → Bool) (k d : Nat) : ∃ t, aloneL p (k + d) = aloneL p k ++ t := by
  induction d with
  | zero => exact ⟨[], by simp⟩
  | succ d ih =>
    obtain ⟨t, ht⟩ := ih
    exact ⟨t ++ if p (2^(k+d)) then [((k+d : Nat) : Int)] else [], by rw [show k + (d + 1) = (k + d) + 1 from rfl, aloneL, ht, List.append_assoc]⟩
theorem aloneL_first {p : Nat → Bool} {k n : Nat} (h0 : aloneL p k = []) (hp : p (2^k) = true) (hk : k < n) : firstOf (aloneL p n) = k ∧ anyOf (aloneL p n) = true := by
  obtain ⟨t, ht⟩ := aloneL_more p (k+1) (n - (k+1))
  rw [show k + 1 + (n - (k + 1)) = n by omega, aloneL, h0, hp] at ht
  rw [ht]
  exact ⟨by simp [firstOf], by simp [anyOf]⟩

set_option maxRecDepth 20000 in
set_option maxHeartbeats 2000000 in
theorem sVetoMembers_any (q : Int) (A : Option Addr) (n cap : Nat) (ws : List Int) (w : World) (hm : n ≤ 9223372036854775807) (hk : Known w A n ws) :
    Calls Try.prog 36 #[.agg #[.int .i64 q, .slice A n cap]] w fun e w' => PairAt (vetoL q ws n) (goodB q ws n) w w' e := by
  have HK := Lib.hid hk
  clear hk
  obtain ⟨i0, hi0, hz0, hz1, hz2⟩ := infoIntParts
  have hx := Box.new w (.int .i64 q) (.slice A n cap)
  have hb0 := below1 w (.cells #[.int .i64 q, .slice A n cap] 27)
  by_cases hg : Vo.Good q ws n
  · obtain ⟨b, off, rfl, hsl⟩ := HK.out.get hg.lo
    have HSL := Lib.hid hsl
    have HOK := Lib.hid hg.ok
    have HGB := Lib.hid (goodB_true hg)
    have hn9 := hg.hi
    have hn10 : n < 10 := by omega
    have htot := hg.tot
    clear hg hsl
    go_enter Try.func36, Try.ntmps36
    go_wp2_with fail
    refine (voGood_any q _ n cap ws _ hm (HK.out.now hb0)).mono ?_
    rintro e w1 ⟨rfl, hb⟩
    rw [HGB.out]
    have hx1 := hx.now hb
    have g1 := bfrom hb0 hb
    have hsz1 : w.heap.size + 1 ≤ w1.heap.size := by have := hb.size; simpa using this
    obtain ⟨hc0, hc1⟩ := hx1.cells
    go_wp2_with fail
    clear hc0 hc1
    go_loopw [4, 5, 6, 13] (fun v _ _ i wr => ∃ (k : Nat) (A : Option Addr) (cap : Nat), k ≤ n ∧ i = .int .i64 k ∧ v = .slice A (aloneL (vetoP q ws n) k).length cap ∧ wr.ownsRow w1.heap.size 3 1 (.slice A (aloneL (vetoP q ws n) k).length cap) (aloneL (vetoP q ws n) k).length ((aloneL (vetoP q ws n) k).map (Value.int .i64)) ∧ Below w1.heap.size w1 wr) (fun _ _ _ i _ => n - (intOf i).toNat)
    case atStart => exact ⟨0, none, 0, by omega, rfl, rfl, World.ownsRow_nil _ _ _ _, Below.refl _ _⟩
    case round =>
      obtain ⟨k, A, cap4, hk, rfl, rfl, hown, hbr⟩ := hrel
      have HO := Lib.hid hown
      clear hown
      have hlen := aloneL_len (vetoP q ws n) k
      have hsz := hbr.size
      have hxr := hx1.now hbr
      obtain ⟨hc0, hc1⟩ := hxr.cells
      by_cases hlt : k < n
      · have hsr := Lib.hid (((HSL.out.now hb0).now hb).now hbr)
        have hcell := hsr.out.cell k hlt
        have hw0 := HOK.out k hlt
        have HV := Lib.hid (vetoP_one (q := q) (ws := ws) hlt)
        have HS := Lib.hid (show aloneL (vetoP q ws n) (k+1) = aloneL (vetoP q ws n) k ++ if vetoP q ws n (2^k) then [(k : Int)] else [] from rfl)
        obtain ⟨L, hL⟩ : ∃ L, aloneL (vetoP q ws n) k = L := ⟨_, rfl⟩
        rw [hL] at HO HS hlen ⊢
        clear hL
        obtain ⟨m, hm1⟩ : ∃ m, m = L.length := ⟨_, rfl⟩
        have HM := Lib.hid hm1
        rw [← hm1] at HO hlen ⊢
        clear hm1
        generalize ws.getD k 0 = x at *
        have HWR := Lib.hid (show IntKind.i64.wrap (sumK ws n - x) = sumK ws n - x from IntWalk.i64_in _ (by omega))
        by_cases hd : sumK ws n - x < q
        · have HD := Lib.hid (show vetoP q ws n (2^k) = true from by rw [HV.out]; exact decide_eq_true hd)
          rw [HD.out] at HS
          go_wp2_with fail
          go_region_held3 (fun w' => w'.cell? ⟨w.heap.size, 0, none⟩ = some (.int .i64 q) ∧ w'.cell? ⟨w.heap.size, 1, none⟩ = some (.slice (some ⟨b, off, none⟩) n cap))
            (first | go_keep | exact hxr.cells)
            (first
              | (go_at_call 53; refine (voSum_any b off n cap ws _ hn10 HOK.out hsr.out.drew).mono ?_; rintro e w2 ⟨rfl, rfl⟩))
          all_goals
            first
              | rw [HWR.out]
              | skip
            go_wp2_with (at_builtin; refine wpList_append_lies _ rfl _ _ _ rfl w1.heap.size 3 i0 _ 1 8 Try.underlying22 hi0 hz0 hz1 hz2 rfl (by decide) (.slice A m cap4) m (L.map (Value.int .i64)) rfl ((World.ownsRow.drew HO.out).alloc _) ⟨wr.heap.size, 0, none⟩ 1 1 [.int .i64 k] rfl rfl (World.news_of_block (cs := #[.int .i64 k]) (t := 3) (fr := (0, 0)) (heap_alloc_new wr.drew _)) (by simp [Value.oneCell']) (by omega) (by unfold maxLen; omega) (by omega) (by simp; omega) (wr.heap.size + 1) (by simp) ?_; intro gg cap2 w4 hown4 hgrow hat hlt4)
            have hb4 : Below w1.heap.size w1 w4 := ((hbr.drew).alloc hsz (.cells #[.int .i64 k] 3)).grown hgrow (by simp; omega) fun j hj => owns_le HO.out hj
            go_roundw
            case rel => exact ⟨k + 1, some ⟨gg, 0, none⟩, cap2, by omega, by go_num, by rw [HS.out, HM.out]; simp, by rw [HS.out]; simpa [HM.out] using hown4, hb4⟩
            case measure => simp [intOf]; omega
        · have HD := Lib.hid (show vetoP q ws n (2^k) = false from by rw [HV.out]; exact decide_eq_false hd)
          rw [HD.out] at HS
          go_wp2_with fail
          go_region_held3 (fun w' => w'.cell? ⟨w.heap.size, 0, none⟩ = some (.int .i64 q) ∧ w'.cell? ⟨w.heap.size, 1, none⟩ = some (.slice (some ⟨b, off, none⟩) n cap))
            (first | go_keep | exact hxr.cells)
            (first
              | (go_at_call 53; refine (voSum_any b off n cap ws _ hn10 HOK.out hsr.out.drew).mono ?_; rintro e w2 ⟨rfl, rfl⟩))
          all_goals
            first
              | rw [HWR.out]
              | skip
            go_wp2
            go_roundw
            case rel => exact ⟨k + 1, A, cap4, by omega, by go_num, by rw [HS.out, HM.out]; simp, by rw [HS.out]; have h := World.ownsRow.drew HO.out; simpa [HM.out] using h, hbr.drew⟩
            case measure => simp [intOf]; omega
      · obtain rfl : k = n := by omega
        have HV := Lib.hid (vetoL_yes HGB.out)
        go_wp2
        go_ret2
        exact ⟨A, cap4, by rw [HV.out, HGB.out]; rfl, by rw [HV.out]; exact owns_less HO.out (by omega), bfrom g1 hbr⟩
  · have HGB := Lib.hid (goodB_false hg)
    clear hg
    go_enter Try.func36, Try.ntmps36
    go_wp2_with fail
    refine (voGood_any q A n cap ws _ hm (HK.out.now hb0)).mono ?_
    rintro e w1 ⟨rfl, hb⟩
    rw [HGB.out]
    go_wp2
    go_ret2
    rw [vetoL_no HGB.out, HGB.out]
    exact PairAt.none_ (bfrom hb0 hb)

set_option maxRecDepth 20000 in
set_option maxHeartbeats 2000000 in
theorem sDictatorOf_any (q : Int) (A : Option Addr) (n cap : Nat) (ws : List Int) (w : World) (hm : n ≤ 9223372036854775807) (hk : Known w A n ws) :
    Calls Try.prog 34 #[.agg #[.int .i64 q, .slice A n cap]] w fun e w' => e = .returned (.tuple #[.int .i64 (firstOf (ruleL q ws n)), .bool (anyOf (ruleL q ws n))]) ∧ Below w.heap.size w w' := by
  have HK := Lib.hid hk
  clear hk
  have hx := Box.new w (.int .i64 q) (.slice A n cap)
  have hb0 := below1 w (.cells #[.int .i64 q, .slice A n cap] 27)
  by_cases hg : Vo.Good q ws n
  · obtain ⟨b, off, rfl, hsl⟩ := HK.out.get hg.lo
    have HSL := Lib.hid hsl
    have HOK := Lib.hid hg.ok
    have HGB := Lib.hid (goodB_true hg)
    have hn9 := hg.hi
    have hn10 : n < 10 := by omega
    have htot := hg.tot
    clear hg hsl
    go_enter Try.func34, Try.ntmps34
    go_wp2_with fail
    refine (voGood_any q _ n cap ws _ hm (HK.out.now hb0)).mono ?_
    rintro e w1 ⟨rfl, hb⟩
    rw [HGB.out]
    have hx1 := hx.now hb
    have g1 := bfrom hb0 hb
    obtain ⟨hc0, hc1⟩ := hx1.cells
    go_wp2_with fail
    clear hc0 hc1
    go_loopw [4, 5, 12] (fun _ _ i wr => ∃ k : Nat, k ≤ n ∧ i = .int .i64 k ∧ aloneL (ruleP q ws n) k = [] ∧ Below w1.heap.size w1 wr) (fun _ _ i _ => n - (intOf i).toNat)
    case atStart => exact ⟨0, by omega, rfl, rfl, Below.refl _ _⟩
    case round =>
      obtain ⟨k, hk, rfl, hall, hbr⟩ := hrel
      have HL := Lib.hid hall
      clear hall
      have hxr := hx1.now hbr
      obtain ⟨hc0, hc1⟩ := hxr.cells
      by_cases hlt : k < n
      · have hsr := Lib.hid (((HSL.out.now hb0).now hb).now hbr)
        have hcell := hsr.out.cell k hlt
        have hw0 := HOK.out k hlt
        have HV := Lib.hid (ruleP_one (q := q) (ws := ws) hlt)
        have HS := Lib.hid (show aloneL (ruleP q ws n) (k+1) = aloneL (ruleP q ws n) k ++ if ruleP q ws n (2^k) then [(k : Int)] else [] from rfl)
        generalize ws.getD k 0 = x at *
        have HWR := Lib.hid (show IntKind.i64.wrap (sumK ws n - x) = sumK ws n - x from IntWalk.i64_in _ (by omega))
        by_cases hq : q ≤ x
        · by_cases hd : sumK ws n - x < q
          · have HD := Lib.hid (show ruleP q ws n (2^k) = true from by rw [HV.out, decide_eq_true hd, decide_eq_true hq]; rfl)
            have HF := Lib.hid (aloneL_first HL.out HD.out hlt)
            have HR := Lib.hid (ruleL_yes HGB.out)
            go_wp2_with fail
            go_region_held3 (fun w' => w'.cell? ⟨w.heap.size, 0, none⟩ = some (.int .i64 q) ∧ w'.cell? ⟨w.heap.size, 1, none⟩ = some (.slice (some ⟨b, off, none⟩) n cap))
              (first | go_keep | exact hxr.cells)
              (first
                | (go_at_call 53; refine (voSum_any b off n cap ws _ hn10 HOK.out hsr.out.drew).mono ?_; rintro e w2 ⟨rfl, rfl⟩))
            all_goals
              first
                | rw [HWR.out]
                | skip
              go_wp2
              go_ret2
              exact ⟨by rw [HR.out, HF.out.1, HF.out.2]; rfl, bfrom g1 hbr.drew⟩
          · have HD := Lib.hid (show ruleP q ws n (2^k) = false from by rw [HV.out, decide_eq_false hd]; simp)
            rw [HD.out, HL.out] at HS
            go_wp2_with fail
            go_region_held3 (fun w' => w'.cell? ⟨w.heap.size, 0, none⟩ = some (.int .i64 q) ∧ w'.cell? ⟨w.heap.size, 1, none⟩ = some (.slice (some ⟨b, off, none⟩) n cap))
              (first | go_keep | exact hxr.cells)
              (first
                | (go_at_call 53; refine (voSum_any b off n cap ws _ hn10 HOK.out hsr.out.drew).mono ?_; rintro e w2 ⟨rfl, rfl⟩))
            all_goals
              first
                | rw [HWR.out]
                | skip
              go_wp2
              go_roundw
              case rel => exact ⟨k + 1, by omega, by go_num, by rw [HS.out]; rfl, hbr.drew⟩
              case measure => simp [intOf]; omega
        · have HD := Lib.hid (show ruleP q ws n (2^k) = false from by rw [HV.out, decide_eq_false hq]; simp)
          rw [HD.out, HL.out] at HS
          have hqd : decide (q ≤ x) = false := by simpa using hq
          go_wp2_with fail
          go_quiet (fail)
          go_wp2
          go_roundw
          case rel => exact ⟨k + 1, by omega, by go_num, by rw [HS.out]; rfl, below_drewN hbr _⟩
          case measure => simp [intOf]; omega
      · obtain rfl : k = n := by omega
        have HR := Lib.hid (ruleL_yes HGB.out)
        go_wp2
        go_ret2
        exact ⟨by rw [HR.out, HL.out]; rfl, bfrom g1 hbr⟩
  · have HGB := Lib.hid (goodB_false hg)
    clear hg
    go_enter Try.func34, Try.ntmps34
    go_wp2_with fail
    refine (voGood_any q A n cap ws _ hm (HK.out.now hb0)).mono ?_
    rintro e w1 ⟨rfl, hb⟩
    rw [HGB.out]
    go_wp2
    go_ret2
    exact ⟨by rw [ruleL_no HGB.out]; rfl, bfrom hb0 hb⟩

theorem vetoL_len (q : Int) (ws : List Int) (n : Nat) : (vetoL q ws n).length ≤ 9 := by
  by_cases hg : Vo.Good q ws n
  · rw [vetoL_yes (goodB_true hg)]; have := aloneL_len (vetoP q ws n) n; have := hg.hi; omega
  · rw [vetoL_no (goodB_false hg)]; simp
end Go.Proofs.Ytldpdjnedoflcaa
