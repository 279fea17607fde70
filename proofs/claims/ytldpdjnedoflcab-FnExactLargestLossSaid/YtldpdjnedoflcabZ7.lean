/- Contracts of the model's SmallestWin and LargestLoss. -/
import Derived.Test.YtldpdjnedoflcabZ6
import Derived.Outline
namespace Go.Proofs.Ytldpdjnedoflcab
open Go.RowKit Vo

set_option maxHeartbeats 400000 in
theorem l1Most_nat (a b : Nat) (w : World) : Calls Try.prog 85 #[.int .i64 a, .int .i64 b] w fun e w' => e = .returned (.int .i64 (max a b : Nat)) ∧ w = w' := by
  by_cases h : b < a
  · have HE := Lib.hid (show max a b = a from by omega)
    go_enter Try.func85, Try.ntmps85
    go_wp2
    go_ret
    exact ⟨by rw [HE.out]; rfl, rfl⟩
  · have HE := Lib.hid (show max a b = b from by omega)
    go_enter Try.func85, Try.ntmps85
    go_wp2
    go_ret
    exact ⟨by rw [HE.out]; rfl, rfl⟩

set_option maxRecDepth 20000 in
set_option maxHeartbeats 4000000 in
theorem sLargestLoss_any (q : Int) (A : Option Addr) (n cap : Nat) (ws : List Int) (w : World) (hm : n ≤ 9223372036854775807) (hk : Known w A n ws) :
    Calls Try.prog 49 #[.agg #[.int .i64 q, .slice A n cap]] w fun e w' =>
      e = .returned (.tuple #[.int .i64 (largeL q ws n), .bool (goodB q ws n)]) ∧ Below w.heap.size w w' := by
  have HK := Lib.hid hk
  clear hk
  have hx := Box.new w (.int .i64 q) (.slice A n cap)
  have hb0 := below1 w (.cells #[.int .i64 q, .slice A n cap] 29)
  by_cases hg : Vo.Good q ws n
  · obtain ⟨b, off, rfl, hsl⟩ := HK.out.get hg.lo
    have HSL := Lib.hid hsl
    have HOK := Lib.hid hg.ok
    have HGB := Lib.hid (goodB_true hg)
    have hn9 := hg.hi
    have hn10 : n < 10 := by omega
    have h512 := pow_lt hn9
    have HV := Lib.hid (show largeL q ws n = ((maxK (fun s => !winB q ws n s) (2^n) : Nat) : Int) from numB_yes HGB.out)
    have HNN := Lib.hid (show 2^n = 2^n from rfl)
    clear hg hsl
    go_enter Try.func49, Try.ntmps49
    go_wp2_with fail
    refine (voGood_any q _ n cap ws _ hm (HK.out.now hb0)).mono ?_
    rintro e w1 ⟨rfl, hb⟩
    rw [HGB.out]
    have g1 := bfrom hb0 hb
    have hs1 := Lib.hid (HSL.out.now g1)
    obtain ⟨hc0, hc1⟩ := (hx.now hb).cells
    go_wp2_with fail
    refine (voWins_any q b off n cap ws _ hn10 HOK.out hs1.out).mono ?_
    rintro e w2 ⟨g, cap2, rfl, hg, hown, hb2⟩
    have HO := Lib.hid hown
    have hgl := hown.lt
    have g2 := bfrom g1 hb2
    clear hown hc0 hc1
    obtain ⟨P, hP⟩ : ∃ P, P = winB q ws n := ⟨_, rfl⟩
    rw [← hP] at HO HV
    obtain ⟨N, hN⟩ : ∃ N, 2^n = N := ⟨_, rfl⟩
    rw [hN] at HO HV h512 ⊢
    clear hN hP
    go_wp2_with fail
    go_loopw [4, 5, 6, 13] (fun v _ _ i wr => ∃ j : Nat, j ≤ N ∧ i = .int .i64 j ∧ v = .int .i64 (maxK (fun s => !P s) j : Nat) ∧ Below w2.heap.size w2 wr) (fun _ _ _ i _ => N - (intOf i).toNat)
    case atStart => exact ⟨0, Nat.zero_le _, rfl, rfl, Below.refl _ _⟩
    case round =>
      obtain ⟨j, hj, rfl, rfl, hbr⟩ := hrel
      have hmk := maxK_le (fun s => !P s) j
      by_cases hlt : j < N
      · have hcell := (HO.out.below hbr hgl).cell hlt
        have hs512 : j < 512 := by omega
        cases hp : P j
        · rw [hp] at hcell
          have HS := Lib.hid (show maxK (fun s => !P s) (j+1) = max (maxK (fun s => !P s) j) (sz j) from by simp only [maxK]; simp [hp])
          have HZ := Lib.hid (show (mem j 9).length = sz j from rfl)
          have hz9 := sz_le9 j
          clear hp
          generalize sz j = z at *
          generalize maxK (fun s => !P s) j = t at *
          go_wp2_with (first
            | (go_at_call 58; refine (voList_any j _ hs512).mono ?_; rintro e w5 ⟨A5, cap5, rfl, hown5, hb5⟩; rw [HZ.out])
            | (go_at_call 85; refine (l1Most_nat t z _).mono ?_; rintro e w6 ⟨rfl, rfl⟩))
          go_roundw
          case rel => exact ⟨j + 1, by omega, by go_num, by rw [HS.out], bfrom hbr hb5⟩
          case measure => simp [intOf]; omega
        · rw [hp] at hcell
          have HS := Lib.hid (show maxK (fun s => !P s) (j+1) = maxK (fun s => !P s) j from by simp only [maxK]; simp [hp])
          clear hp
          generalize maxK (fun s => !P s) j = t at *
          go_wp2
          go_roundw
          case rel => exact ⟨j + 1, by omega, by go_num, by rw [HS.out], hbr⟩
          case measure => simp [intOf]; omega
      · obtain rfl : N = j := by omega
        go_wp2
        go_ret2
        exact ⟨by rw [HV.out, HGB.out]; rfl, bfrom g2 hbr⟩
  · have HGB := Lib.hid (goodB_false hg)
    clear hg
    go_enter Try.func49, Try.ntmps49
    go_wp2_with fail
    refine (voGood_any q A n cap ws _ hm (HK.out.now hb0)).mono ?_
    rintro e w1 ⟨rfl, hb⟩
    rw [HGB.out]
    go_wp2
    go_ret2
    exact ⟨by rw [show largeL q ws n = 0 from numB_no HGB.out, HGB.out]; rfl, bfrom hb0 hb⟩
end Go.Proofs.Ytldpdjnedoflcab
