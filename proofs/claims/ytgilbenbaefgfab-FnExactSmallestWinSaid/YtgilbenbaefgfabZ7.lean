/- Contracts of the model's SmallestWin and LargestLoss. -/
import Derived.Test.YtgilbenbaefgfabZ6
import Derived.Outline
namespace Go.Proofs.Ytgilbenbaefgfab
open Go.RowKit Vo

set_option maxHeartbeats 400000 in
theorem l1Least_nat (a b : Nat) (w : World) : Calls Try.prog 81 #[.int .i64 a, .int .i64 b] w fun e w' => e = .returned (.int .i64 (min a b : Nat)) ∧ w = w' := by
  by_cases h : a < b
  · have HE := Lib.hid (show min a b = a from by omega)
    go_enter Try.func81, Try.ntmps81
    go_wp2
    go_ret
    exact ⟨by rw [HE.out]; rfl, rfl⟩
  · have HE := Lib.hid (show min a b = b from by omega)
    go_enter Try.func81, Try.ntmps81
    go_wp2
    go_ret
    exact ⟨by rw [HE.out]; rfl, rfl⟩
set_option maxRecDepth 20000 in
set_option maxHeartbeats 4000000 in
theorem sSmallestWin_any (q : Int) (A : Option Addr) (n cap : Nat) (ws : List Int) (w : World) (hm : n ≤ 9223372036854775807) (hk : Known w A n ws) :
    Calls Try.prog 35 #[.agg #[.int .i64 q, .slice A n cap]] w fun e w' =>
      e = .returned (.tuple #[.int .i64 (smallW q ws n), .bool (goodB q ws n)]) ∧ Below w.heap.size w w' := by
  have HK := Lib.hid hk
  clear hk
  have hx := Box.new w (.int .i64 q) (.slice A n cap)
  have hb0 := below1 w (.cells #[.int .i64 q, .slice A n cap] 57)
  by_cases hg : Vo.Good q ws n
  · obtain ⟨b, off, rfl, hsl⟩ := HK.out.get hg.lo
    have HSL := Lib.hid hsl
    have HOK := Lib.hid hg.ok
    have HGB := Lib.hid (goodB_true hg)
    have hn9 := hg.hi
    have hn10 : n < 10 := by omega
    have hSL := lwL_len (q := q) (ws := ws) hn9
    have HIN := Lib.hid (show ∀ s ∈ lwL q ws n, s < 2^n from fun s h => (lwL_mem h).1)
    have HLW := Lib.hid (show (inOrder n).filter (leastP (winB q ws n) n) = lwL q ws n from rfl)
    have HV := Lib.hid (show smallW q ws n = ((minT (lwL q ws n) n (lwL q ws n).length : Nat) : Int) from by
      rw [show minT (lwL q ws n) n (lwL q ws n).length = minK (winB q ws n) n (2^n) from min_least hn9]
      exact numB_yes HGB.out)
    have HMT := Lib.hid (fun j (h : j < (lwL q ws n).length) => minT_succ (b := n) h)
    obtain ⟨S, hS⟩ : ∃ S, S = lwL q ws n := ⟨_, rfl⟩
    rw [← hS] at hSL HIN HLW HV HMT
    have HM0 := Lib.hid (show minT S n 0 = n from rfl)
    clear hg hsl hS
    go_enter Try.func35, Try.ntmps35
    go_wp2_with fail
    refine (voGood_any q _ n cap ws _ hm (HK.out.now hb0)).mono ?_
    rintro e w1 ⟨rfl, hb⟩
    rw [HGB.out]
    have g1 := bfrom hb0 hb
    have hs1 := Lib.hid (HSL.out.now g1)
    obtain ⟨hc0, hc1⟩ := (hx.now hb).cells
    go_wp2_with (first
      | (go_at_call 80; refine (voWins_any q b off n cap ws _ hn10 HOK.out hs1.out).mono ?_; rintro e w2 ⟨g, cap2, rfl, hg, hown, hb2⟩; have HO := Lib.hid hown; clear hown)
      | (go_at_call 79; refine (voLeast_any (winB q ws n) n g cap2 _ hn10 HO.out).mono ?_; rintro e w3 ⟨v3, rfl, hr3, hb3⟩; rw [HLW.out] at hr3; obtain ⟨A4, cap4, rfl, hr⟩ := hr3; rw [setsL_len] at hr ⊢; have HR := Lib.hid hr; clear hr))
    have g3 := bfrom (bfrom g1 hb2) hb3
    obtain ⟨m, hmS⟩ : ∃ m, m = S.length := ⟨_, rfl⟩
    have HMS := Lib.hid hmS
    rw [← hmS] at HR hSL HMT HV ⊢
    clear hmS
    go_loopw [4, 6, 17] (fun v _ i wr => ∃ j : Nat, j ≤ m ∧ i = .int .i64 j ∧ v = .int .i64 (minT S n j : Nat) ∧ wr = w3) (fun _ _ i _ => m - (intOf i).toNat)
    case atStart => exact ⟨0, Nat.zero_le _, rfl, by rw [HM0.out], rfl⟩
    case round =>
      obtain ⟨j, hj, rfl, rfl, rfl⟩ := hrel
      have hmt := minT_le S n j
      by_cases hlt : j < m
      · obtain ⟨g4, f, rfl, hg1, hg2, hof, hri⟩ : ∃ g f, A4 = some ⟨g, 0, none⟩ ∧ _ ≤ g ∧ g < wr.heap.size ∧ Own wr g 38 m f ∧ ∀ i, i < m → RI ((setsL S).getD i []) w2.heap.size wr.heap.size (f i) wr := by
          rcases HR.out with h | h
          · omega
          · exact h
        have hcell := hof.cell hlt
        have hrj := hri j hlt
        have hsj : (setsL S).getD j [] = mem (S.getD j 0) 9 := by
          rw [List.getD_eq_getElem?_getD, List.getD_eq_getElem?_getD, setsL, List.getElem?_map, List.getElem?_eq_getElem (by have := HMS.out; omega)]; rfl
        rw [hsj] at hrj
        have HST := Lib.hid (HMT.out j hlt)
        have HZ := Lib.hid (show (mem (S.getD j 0) 9).length = sz (S.getD j 0) from rfl)
        have hz9 := sz_le9 (S.getD j 0)
        obtain ⟨xa, xc, hfj, hxa⟩ := hrj
        rw [hfj, HZ.out] at hcell
        clear hfj hxa hsj hri hof
        generalize sz (S.getD j 0) = z at *
        generalize minT S n j = t at *
        go_wp2_with (go_at_call 81; refine (l1Least_nat t z _).mono ?_; rintro e w5 ⟨rfl, rfl⟩)
        go_roundw
        case rel => exact ⟨j + 1, by omega, by go_num, by rw [HST.out], trivial⟩
        case measure => simp [intOf]; omega
      · obtain rfl : m = j := by omega
        go_wp2
        go_ret2
        exact ⟨by rw [HV.out, HGB.out]; rfl, g3⟩
  · have HGB := Lib.hid (goodB_false hg)
    clear hg
    go_enter Try.func35, Try.ntmps35
    go_wp2_with fail
    refine (voGood_any q A n cap ws _ hm (HK.out.now hb0)).mono ?_
    rintro e w1 ⟨rfl, hb⟩
    rw [HGB.out]
    go_wp2
    go_ret2
    exact ⟨by rw [show smallW q ws n = 0 from numB_no HGB.out, HGB.out]; rfl, bfrom hb0 hb⟩

end Go.Proofs.Ytgilbenbaefgfab
