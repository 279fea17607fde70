/- Contracts of the given model: who wins, of all sets; how many win; proper and strong committees. -/
import Derived.Test.YtldpdjnedoflcaaS2
import Derived.Test.YtldpdjnedoflcaaW5
import Derived.Deep.AppendLies
namespace Go.Proofs.Ytldpdjnedoflcaa
open Go.RowKit Vo

set_option maxHeartbeats 400000 in
theorem voAll_any (n : Nat) (w : World) (hn : n < 10) : Calls Try.prog 70 #[.int .i64 n] w fun e w' => e = .returned (.int .i64 ((2^n - 1 : Nat) : Int)) ∧ w = w' := by
  go_enter Try.func70, Try.ntmps70
  go_wp2
  go_ret
  refine ⟨ret_int ?_, rfl⟩
  have h512 := pow_lt (n := n) (by omega)
  have hpos := Nat.two_pow_pos n
  rw [show ((2:Int) ^ n) = ((2 ^ n : Nat) : Int) from by simp]
  generalize 2^n = N at *
  first | (rw [IntWalk.wrap64_in _ (by omega), IntWalk.wrap64_in _ (by omega)]; omega) | (rw [IntWalk.wrap64_in (N : Int) (by omega)]; rw [IntWalk.wrap64_in _ (by omega)]; omega)

/-- Who wins, of the first k sets. -/
def winsL (q : Int) (ws : List Int) (n k : Nat) : List Value := (List.range k).map fun j => Value.bool (winB q ws n j)
theorem winsL_succ (q : Int) (ws : List Int) (n k : Nat) : winsL q ws n (k+1) = winsL q ws n k ++ [.bool (winB q ws n k)] := by simp [winsL, List.range_succ]

def WinsAt (q : Int) (ws : List Int) (n : Nat) (w w' : World) (e : Ending) : Prop :=
  ∃ g cap, e = .returned (.slice (some ⟨g, 0, none⟩) (2^n : Nat) cap) ∧ w.heap.size ≤ g ∧ Own w' g 4 (2^n) (fun j => .bool (winB q ws n j)) ∧ Below w.heap.size w w'

set_option maxRecDepth 20000 in
set_option maxHeartbeats 2000000 in
theorem voWins_any (q : Int) (b off n cap : Nat) (ws : List Int) (w : World) (hn : n < 10) (hok : InK 0 1000 ws n) (hsl : Sl w b off n ws) :
    Calls Try.prog 61 #[.agg #[.int .i64 q, .slice (some ⟨b, off, none⟩) n cap]] w fun e w' => WinsAt q ws n w w' e := by
  have HOK := Lib.hid hok
  have HSL := Lib.hid hsl
  clear hok hsl
  have h512 := pow_lt (n := n) (by omega)
  have hpos := Nat.two_pow_pos n
  obtain ⟨N, hN⟩ : ∃ N, N = 2^n := ⟨_, rfl⟩
  have HE := Lib.hid (show ((2^n - 1 : Nat) : Int) = (N : Int) - 1 from by omega)
  rw [← hN] at h512 hpos
  have HN2 := Lib.hid hN
  clear hN
  have hx0 := Box.new w (.int .i64 q) (.slice (some ⟨b, off, none⟩) n cap)
  have hb0 := below1 w (.cells #[.int .i64 q, .slice (some ⟨b, off, none⟩) n cap] 27)
  obtain ⟨i0, hi0, hz0, hz1, hz2⟩ := info_parts infoBool
  go_enter Try.func61, Try.ntmps61
  go_wp2_with fail
  go_loopw [3, 4] (fun v i wr => ∃ k : Nat, k ≤ N ∧ i = .int .i64 k ∧ wr.ownsRow (w.heap.size + 1) 4 1 v k (winsL q ws n k) ∧ Box wr w.heap.size (.int .i64 q) (.slice (some ⟨b, off, none⟩) n cap) ∧ w.heap.size + 1 ≤ wr.heap.size ∧ Below w.heap.size w wr) (fun _ i _ => N - (intOf i).toNat)
  case atStart => exact ⟨0, Nat.zero_le _, rfl, World.ownsRow_nil _ _ _ _, hx0, by simp, hb0⟩
  case round =>
    obtain ⟨k, hk, rfl, hown, hx, hsz, hb⟩ := hrel
    have HO := Lib.hid hown
    clear hown
    obtain ⟨hc0, hc1⟩ := hx.cells
    go_wp2_with fail
    refine (voAll_any n _ hn).mono ?_
    rintro e w1 ⟨rfl, rfl⟩
    rw [HE.out]
    by_cases hlt : k < N
    · have hlt2 : (k : Int) ≤ (N : Int) - 1 := by omega
      have hs1 := Lib.hid ((HSL.out.now hb).drew)
      go_wp2_with fail
      go_region_held3 (fun w' => w'.cell? ⟨w.heap.size, 0, none⟩ = some (.int .i64 q) ∧ w'.cell? ⟨w.heap.size, 1, none⟩ = some (.slice (some ⟨b, off, none⟩) n cap))
        (first | go_keep | exact hd | exact hd2)
        (first
          | (go_at_call 56; refine (voWeight_any _ b off n cap ws k _ hn (by omega) HOK.out hs1.out).mono ?_; rintro e w2 ⟨rfl, hb2⟩; have hd := (hx.drew.now hb2).cells)
          | (refine step_append_lies _ (by rfl) _ _ _ (by rfl) (w.heap.size + 1) 4 i0 _ 1 1 Try.underlying59 hi0 hz0 hz1 hz2 rfl (by omega) u3 k (winsL q ws n k) (by rfl) ((owns_now (World.ownsRow.drew HO.out) hb2).alloc _)
              ⟨w2.heap.size, 0, none⟩ 1 1 [.bool (winB q ws n k)] (by rfl) (by rfl) (World.news_of_block (cs := #[.bool (winB q ws n k)]) (t := 4) (fr := (0, 0)) (heap_alloc_new w2 _)) (by simp [Value.oneCell'])
              (by omega) (by unfold maxLen; omega) (by omega) (by have := hb2.size; simp at this ⊢; omega) (w2.heap.size + 1) (by simp) ?_; intro gg cap2 w4 hown4 hgrow hat hlt4; have hd2 := (((hx.drew.now hb2).alloc _).grown hgrow (owns_ne HO.out (by omega))).cells))
      have hx4 := ((hx.drew.now hb2).alloc (.cells #[.bool (winB q ws n k)] 4)).grown hgrow (owns_ne HO.out (by omega))
      have hsz4 : w.heap.size + 1 ≤ w4.heap.size := by have := hb2.size; have := hgrow.size; simp at *; omega
      have hb4 : Below w.heap.size w w4 := by
        refine (((hb.drew).trans (hb2.mono (by simp; omega))).alloc (by have := hb2.size; simp at this; omega) (.cells #[.bool (winB q ws n k)] 4)).grown hgrow (by have := hb2.size; simp at this ⊢; omega) fun j hj => by have := owns_le HO.out hj; omega
      have hown5 := Lib.hid (show w4.ownsRow (w.heap.size + 1) 4 1 (.slice (some ⟨gg, 0, none⟩) (k + 1) cap2) (k + 1) (winsL q ws n (k + 1)) from by rw [winsL_succ]; exact hown4)
      clear hown4 hgrow hat hd hd2 hb2
      go_wp2
      go_roundw
      case rel => exact ⟨k + 1, by omega, by go_num, hown5.out, hx4, hsz4, hb4⟩
      case measure => simp [intOf]; omega
    · obtain rfl : k = N := by omega
      have hlt2 : ¬ (k : Int) ≤ (k : Int) - 1 := by omega
      go_wp2
      go_ret
      obtain ⟨g, cap2, rfl, hg, _, _⟩ := owns_head HO.out hpos
      refine ⟨g, cap2, by rw [← HN2.out]; rfl, by omega, ?_, hb⟩
      rw [← HN2.out]
      refine Own.of_own HO.out fun i hi => ?_
      simp [winsL, hi]

set_option maxHeartbeats 1000000 in
theorem sCountWinning_any (q : Int) (A : Option Addr) (n cap : Nat) (ws : List Int) (w : World) (hm : n ≤ 9223372036854775807) (hk : Known w A n ws) :
    Calls Try.prog 30 #[.agg #[.int .i64 q, .slice A n cap]] w fun e w' =>
      e = .returned (.tuple #[.int .i64 (cntB q ws n), .bool (goodB q ws n)]) ∧ Below w.heap.size w w' := by
  have HK := Lib.hid hk
  clear hk
  have hx := Box.new w (.int .i64 q) (.slice A n cap)
  have hb0 := below1 w (.cells #[.int .i64 q, .slice A n cap] 27)
  by_cases hg : Vo.Good q ws n
  · obtain ⟨b, off, rfl, hsl⟩ := HK.out.get hg.lo
    have HSL := Lib.hid hsl
    have HOK := Lib.hid hg.ok
    have HGB := Lib.hid (goodB_true hg)
    have hn9 := hg.hi
    have h512 := pow_lt hn9
    clear hg hsl
    go_enter Try.func30, Try.ntmps30
    go_wp2_with fail
    refine (voGood_any q _ n cap ws _ hm (HK.out.now hb0)).mono ?_
    rintro e w1 ⟨rfl, hb⟩
    rw [HGB.out]
    obtain ⟨hc0, hc1⟩ := (hx.now hb).cells
    go_wp2_with fail
    refine (voWins_any q b off n cap ws _ (by omega) HOK.out ((HSL.out.now hb0).now hb)).mono ?_
    rintro e w2 ⟨g, cap2, rfl, hg, hown, hb2⟩
    have HO := Lib.hid hown
    have hgl := hown.lt
    clear hown hc0 hc1
    have HC := Lib.hid (cntB_yes HGB.out)
    obtain ⟨N, hN⟩ : ∃ N, 2^n = N := ⟨_, rfl⟩
    rw [hN] at HO HC h512 ⊢
    clear hN
    go_wp2_with fail
    go_loop [4, 6, 13] (fun c _ i => ∃ k : Nat, k ≤ N ∧ i = .int .i64 k ∧ c = .int .i64 (cnt (winB q ws n) k : Nat)) (fun _ _ i => N - (intOf i).toNat)
    case atStart => exact ⟨0, Nat.zero_le _, rfl, rfl⟩
    case round =>
      obtain ⟨k, hk, rfl, rfl⟩ := hrel
      have hcl := cnt_le (winB q ws n) k
      by_cases hlt : k < N
      · have hcell := HO.out.cell hlt
        have HS := Lib.hid (show cnt (winB q ws n) (k+1) = cnt (winB q ws n) k + if winB q ws n k then 1 else 0 from rfl)
        generalize cnt (winB q ws n) k = t at *
        cases hwin : winB q ws n k
        all_goals
          rw [hwin] at hcell HS
          clear hwin
          go_wp2
          go_round
          case rel => exact ⟨k + 1, by omega, by go_num, by rw [HS.out]; simp⟩
          case measure => simp [intOf]; omega
      · obtain rfl : k = N := by omega
        go_wp2
        go_ret2
        exact ⟨by rw [HGB.out, HC.out]; rfl, bfrom hb0 (bfrom hb hb2)⟩
  · have HGB := Lib.hid (goodB_false hg)
    clear hg
    go_enter Try.func30, Try.ntmps30
    go_wp2_with fail
    refine (voGood_any q A n cap ws _ hm (HK.out.now hb0)).mono ?_
    rintro e w1 ⟨rfl, hb⟩
    rw [HGB.out]
    go_wp2
    go_ret2
    exact ⟨by rw [cntB_no HGB.out, HGB.out]; rfl, bfrom hb0 hb⟩

set_option maxRecDepth 20000 in
set_option maxHeartbeats 2000000 in
theorem sIsProper_any (q : Int) (A : Option Addr) (n cap : Nat) (ws : List Int) (w : World) (hm : n ≤ 9223372036854775807) (hk : Known w A n ws) :
    Calls Try.prog 41 #[.agg #[.int .i64 q, .slice A n cap]] w fun e w' =>
      e = .returned (.tuple #[.bool (isProperB q ws n), .bool (goodB q ws n)]) ∧ Below w.heap.size w w' := by
  have HK := Lib.hid hk
  clear hk
  have hx := Box.new w (.int .i64 q) (.slice A n cap)
  have hb0 := below1 w (.cells #[.int .i64 q, .slice A n cap] 27)
  by_cases hg : Vo.Good q ws n
  · obtain ⟨b, off, rfl, hsl⟩ := HK.out.get hg.lo
    have HSL := Lib.hid hsl
    have HOK := Lib.hid hg.ok
    have HGB := Lib.hid (goodB_true hg)
    have hn9 := hg.hi
    have h512 := pow_lt hn9
    have hpos := Nat.two_pow_pos n
    clear hg hsl
    go_enter Try.func41, Try.ntmps41
    go_wp2_with fail
    refine (voGood_any q _ n cap ws _ hm (HK.out.now hb0)).mono ?_
    rintro e w1 ⟨rfl, hb⟩
    rw [HGB.out]
    obtain ⟨hc0, hc1⟩ := (hx.now hb).cells
    go_wp2_with fail
    refine (voWins_any q b off n cap ws _ (by omega) HOK.out ((HSL.out.now hb0).now hb)).mono ?_
    rintro e w2 ⟨g, cap2, rfl, hg, hown, hb2⟩
    have HO := Lib.hid hown
    have hgl := hown.lt
    clear hown hc0 hc1
    obtain ⟨hc0, hc1⟩ := ((hx.now hb).now hb2).cells
    have HC := Lib.hid (isProperB_yes HGB.out)
    go_wp2_with fail
    refine (voAll_any n _ (by omega)).mono ?_
    rintro e w3 ⟨rfl, rfl⟩
    have HCO := Lib.hid (show ∀ k, co n k = 2^n - 1 - k from fun _ => rfl)
    obtain ⟨N, hN⟩ : ∃ N, 2^n = N := ⟨_, rfl⟩
    rw [hN] at HO HC h512 hpos HCO ⊢
    rw [show ((N - 1 : Nat) : Int) = (N : Int) - 1 from by omega]
    clear hN
    go_wp2_with fail
    go_loop [6, 18] (fun _ i => ∃ k : Nat, k ≤ N ∧ i = .int .i64 k ∧ allK (properP q ws n) k = true) (fun _ i => N - (intOf i).toNat)
    case atStart => exact ⟨0, Nat.zero_le _, rfl, rfl⟩
    case round =>
      obtain ⟨k, hk, rfl, hall⟩ := hrel
      have HL := Lib.hid hall
      clear hall
      by_cases hlt : k < N
      · have hcell := HO.out.cell hlt
        have hcell2 := HO.out.cell (show N - 1 - k < N by omega)
        rw [← HCO.out k] at hcell2
        have HPK := Lib.hid (show properP q ws n k = (!winB q ws n k || !winB q ws n (co n k)) from rfl)
        have hco : N - 1 - k = co n k := (HCO.out k).symm
        have HCK := Lib.hid hco
        have hcoi : ((N : Int) - 1 - k).toNat = co n k := by omega
        clear hco
        cases hwin : winB q ws n k <;> cases hwin2 : winB q ws n (co n k)
        all_goals
          rw [hwin] at hcell HPK
          rw [hwin2] at hcell2 HPK
          clear hwin hwin2
          have h0 : (0 : Int) ≤ (N : Int) - 1 - k := by omega
          have h1 : (N : Int) - 1 - k < N := by omega
          go_wp2
          first
            | (go_round
               case rel => exact ⟨k + 1, by omega, by go_num, by simp only [allK]; rw [HL.out, HPK.out]; rfl⟩
               case measure => simp [intOf]; omega)
            | (go_ret2
               exact ⟨by rw [HGB.out, HC.out, allK_false k hlt (by rw [HPK.out]; rfl)]; rfl, bfrom hb0 (bfrom hb hb2)⟩)
      · obtain rfl : k = N := by omega
        go_wp2
        go_ret2
        exact ⟨by rw [HGB.out, HC.out, HL.out]; rfl, bfrom hb0 (bfrom hb hb2)⟩
  · have HGB := Lib.hid (goodB_false hg)
    clear hg
    go_enter Try.func41, Try.ntmps41
    go_wp2_with fail
    refine (voGood_any q A n cap ws _ hm (HK.out.now hb0)).mono ?_
    rintro e w1 ⟨rfl, hb⟩
    rw [HGB.out]
    go_wp2
    go_ret2
    exact ⟨by rw [isProperB_no HGB.out, HGB.out]; rfl, bfrom hb0 hb⟩

set_option maxRecDepth 20000 in
set_option maxHeartbeats 2000000 in
theorem sIsStrong_any (q : Int) (A : Option Addr) (n cap : Nat) (ws : List Int) (w : World) (hm : n ≤ 9223372036854775807) (hk : Known w A n ws) :
    Calls Try.prog 43 #[.agg #[.int .i64 q, .slice A n cap]] w fun e w' =>
      e = .returned (.tuple #[.bool (isStrongB q ws n), .bool (goodB q ws n)]) ∧ Below w.heap.size w w' := by
  have HK := Lib.hid hk
  clear hk
  have hx := Box.new w (.int .i64 q) (.slice A n cap)
  have hb0 := below1 w (.cells #[.int .i64 q, .slice A n cap] 27)
  by_cases hg : Vo.Good q ws n
  · obtain ⟨b, off, rfl, hsl⟩ := HK.out.get hg.lo
    have HSL := Lib.hid hsl
    have HOK := Lib.hid hg.ok
    have HGB := Lib.hid (goodB_true hg)
    have hn9 := hg.hi
    have h512 := pow_lt hn9
    have hpos := Nat.two_pow_pos n
    clear hg hsl
    go_enter Try.func43, Try.ntmps43
    go_wp2_with fail
    refine (voGood_any q _ n cap ws _ hm (HK.out.now hb0)).mono ?_
    rintro e w1 ⟨rfl, hb⟩
    rw [HGB.out]
    obtain ⟨hc0, hc1⟩ := (hx.now hb).cells
    go_wp2_with fail
    refine (voWins_any q b off n cap ws _ (by omega) HOK.out ((HSL.out.now hb0).now hb)).mono ?_
    rintro e w2 ⟨g, cap2, rfl, hg, hown, hb2⟩
    have HO := Lib.hid hown
    have hgl := hown.lt
    clear hown hc0 hc1
    obtain ⟨hc0, hc1⟩ := ((hx.now hb).now hb2).cells
    have HC := Lib.hid (isStrongB_yes HGB.out)
    go_wp2_with fail
    refine (voAll_any n _ (by omega)).mono ?_
    rintro e w3 ⟨rfl, rfl⟩
    have HCO := Lib.hid (show ∀ k, co n k = 2^n - 1 - k from fun _ => rfl)
    obtain ⟨N, hN⟩ : ∃ N, 2^n = N := ⟨_, rfl⟩
    rw [hN] at HO HC h512 hpos HCO ⊢
    rw [show ((N - 1 : Nat) : Int) = (N : Int) - 1 from by omega]
    clear hN
    go_wp2_with fail
    go_loop [6, 18] (fun _ i => ∃ k : Nat, k ≤ N ∧ i = .int .i64 k ∧ allK (strongP q ws n) k = true) (fun _ i => N - (intOf i).toNat)
    case atStart => exact ⟨0, Nat.zero_le _, rfl, rfl⟩
    case round =>
      obtain ⟨k, hk, rfl, hall⟩ := hrel
      have HL := Lib.hid hall
      clear hall
      by_cases hlt : k < N
      · have hcell := HO.out.cell hlt
        have hcell2 := HO.out.cell (show N - 1 - k < N by omega)
        rw [← HCO.out k] at hcell2
        have HPK := Lib.hid (show strongP q ws n k = (winB q ws n k || winB q ws n (co n k)) from rfl)
        have hco : N - 1 - k = co n k := (HCO.out k).symm
        have HCK := Lib.hid hco
        have hcoi : ((N : Int) - 1 - k).toNat = co n k := by omega
        clear hco
        cases hwin : winB q ws n k <;> cases hwin2 : winB q ws n (co n k)
        all_goals
          rw [hwin] at hcell HPK
          rw [hwin2] at hcell2 HPK
          clear hwin hwin2
          have h0 : (0 : Int) ≤ (N : Int) - 1 - k := by omega
          have h1 : (N : Int) - 1 - k < N := by omega
          go_wp2
          first
            | (go_round
               case rel => exact ⟨k + 1, by omega, by go_num, by simp only [allK]; rw [HL.out, HPK.out]; rfl⟩
               case measure => simp [intOf]; omega)
            | (go_ret2
               exact ⟨by rw [HGB.out, HC.out, allK_false k hlt (by rw [HPK.out]; rfl)]; rfl, bfrom hb0 (bfrom hb hb2)⟩)
      · obtain rfl : k = N := by omega
        go_wp2
        go_ret2
        exact ⟨by rw [HGB.out, HC.out, HL.out]; rfl, bfrom hb0 (bfrom hb hb2)⟩
  · have HGB := Lib.hid (goodB_false hg)
    clear hg
    go_enter Try.func43, Try.ntmps43
    go_wp2_with fail
    refine (voGood_any q A n cap ws _ hm (HK.out.now hb0)).mono ?_
    rintro e w1 ⟨rfl, hb⟩
    rw [HGB.out]
    go_wp2
    go_ret2
    exact ⟨by rw [isStrongB_no HGB.out, HGB.out]; rfl, bfrom hb0 hb⟩
end Go.Proofs.Ytldpdjnedoflcaa
