/- Contract of the model's BestPartners. For the seats of tied cards. -/
import Derived.Deep.RegionHeld3
import Derived.Outline
import Derived.Test.YtgilbenbaefgfabDoorRm
import Derived.Test.YtgilbenbaefgfabDoorRs
namespace Go.Proofs.YtgilbenbaefgfabDoor
open Go.RowKit Vo

theorem uni_good {q : Int} {ws : List Int} {n : Nat} {xs : List Int} {m : Nat} (h : uniB q ws n xs m = true) :
    okB q ws n xs m = true ∧ 1 ≤ m ∧ Vo.Good q ws n ∧ RiseK n xs m ∧ okS q ws n xs m = ofK xs m ∧ Vo.Good q (uniL ws n (ofK xs m)) (uniL ws n (ofK xs m)).length ∧ 0 < ofK xs m ∧ ofK xs m < 512 ∧ firstN (ofK xs m) < 9 := by
  have hB : okB q ws n xs m = true := by
    cases h' : okB q ws n xs m with
    | true => rfl
    | false => rw [uniB_no1 h'] at h; cases h
  have hm1 : 1 ≤ m := by
    rcases Nat.eq_zero_or_pos m with e | e
    · rw [e, uniB_none] at h; cases h
    · exact e
  obtain ⟨hg, hr, hS, hU⟩ := uniB_all hB hm1
  rw [h] at hU
  have h5 : ofK xs m < 512 := by have := ofK_lt hr; have := pow_lt hg.hi; omega
  have h0 := (set_first hg.hi hr hm1).1
  exact ⟨hB, hm1, hg, hr, hS, of_decide_eq_true hU, h0, h5, (first_in h0 h5).1⟩

theorem rise_len {n : Nat} {xs : List Int} {m : Nat} (h : RiseK n xs m) : m ≤ n := by
  have H : ∀ k, k < m → (k : Int) ≤ xs.getD k 0 := by
    intro k
    induction k with
    | zero => intro hk; exact (h 0 hk).1
    | succ k ih =>
      intro hk
      have h1 := ih (by omega)
      have h2 := (h (k+1) hk).2.2 (by omega)
      rw [Nat.add_sub_cancel] at h2
      omega
  rcases Nat.eq_zero_or_pos m with e | e
  · omega
  · have h1 := H (m-1) (by omega)
    have h2 := (h (m-1) (by omega)).2.1
    omega
theorem sl_head {w : World} {b off m : Nat} {xs : List Int} (h : Sl w b off m xs) (hm : 1 ≤ m) : Sl w b off 1 xs := ⟨h.lt, fun j hj => h.cell j (by omega)⟩
theorem setN_head (f : Nat → Nat) (xs : List Int) : setN f xs 1 = f (xs.getD 0 0).toNat := by simp [setN, sumN]
theorem rise_lt {n : Int} {xs : List Int} {m : Nat} (h : RiseK n xs m) : ∀ k, k < m → ∀ j, j < k → xs.getD j 0 < xs.getD k 0 := by
  intro k
  induction k with
  | zero => intro _ j hj; omega
  | succ k ih =>
    intro hk j hj
    have h2 := (h (k+1) hk).2.2 (by omega)
    rw [Nat.add_sub_cancel] at h2
    by_cases e : j = k
    · subst e; exact h2
    · have := ih (by omega) j (by omega); omega
theorem partN_or (f : Nat → Nat) {s x n : Nat} (hx : x < n) (hb : s.testBit x = false) : partN f (s ||| 2^x) n = partN f s n + f x := by
  have hbit : ∀ j, (s ||| 2^x).testBit j = (s.testBit j || decide (x = j)) := fun j => by rw [Nat.testBit_or, Nat.testBit_two_pow]
  unfold partN
  induction n with
  | zero => omega
  | succ n ih =>
    simp only [sumN]
    by_cases e : x = n
    · subst e
      rw [sumN_congr (f := fun j => if (s ||| 2^x).testBit j then f j else 0) (g := fun j => if s.testBit j then f j else 0) (fun j hj => by simp only [hbit]; rw [decide_eq_false (show ¬ x = j by omega), Bool.or_false])]
      rw [hbit, hb]; simp
    · rw [ih (by omega), hbit n, decide_eq_false e, Bool.or_false]; omega
theorem partN_none (f : Nat → Nat) (n : Nat) : partN f 0 n = 0 := by
  unfold partN
  induction n with
  | zero => rfl
  | succ n ih => simp only [sumN]; rw [ih, Nat.zero_testBit]; rfl
theorem partN_single (f : Nat → Nat) {k n : Nat} (h : k < n) : partN f (2^k) n = f k := by
  have := partN_or f (s := 0) h (Nat.zero_testBit _)
  rwa [Nat.zero_or, partN_none, Nat.zero_add] at this
theorem setN_part (f : Nat → Nat) {n : Nat} {xs : List Int} {m : Nat} (h : RiseK n xs m) : setN f xs m = partN f (ofK xs m) n := by
  induction m with
  | zero => rw [show ofK xs 0 = 0 from rfl, partN_none]; rfl
  | succ m ih =>
    have h' := h.mono (show m ≤ m + 1 by omega)
    have hm := h m (by omega)
    obtain ⟨x, hx⟩ : ∃ x : Nat, xs.getD m 0 = (x : Int) := ⟨(xs.getD m 0).toNat, by omega⟩
    have hb : (ofK xs m).testBit x = false := by
      cases e : (ofK xs m).testBit x with
      | false => rfl
      | true =>
        rw [ofU_has (rise_in h'), hasU_iff] at e
        obtain ⟨k, hk, e⟩ := e
        have := rise_lt h m (by omega) k hk
        omega
    rw [show setN f xs (m+1) = setN f xs m + f (xs.getD m 0).toNat from rfl, ih h', show ofK xs (m+1) = ofK xs m ||| 2 ^ (xs.getD m 0).toNat from rfl, hx, Int.toNat_natCast, partN_or f (by omega) hb]
theorem mrgL_mono (ws : List Int) (s f : Nat) (W : Int) (i d : Nat) : (mrgL ws s f W i).length ≤ (mrgL ws s f W (i + d)).length := by
  induction d with
  | zero => exact Nat.le_refl _
  | succ d ih =>
    rw [show i + (d + 1) = (i + d) + 1 from rfl, mrgL_step, List.length_append]
    omega
theorem first_place {ws : List Int} {s n : Nat} (h0 : 0 < s) (h5 : s < 512) (hn : firstN s < n) : firstN s < (uniL ws n s).length := by
  have h1 : (mrgL ws s (firstN s) (wtK ws s n) (firstN s + 1)).length = firstN s + 1 := by
    rw [mrgL_at, mrgL_head h0 h5 (Nat.le_refl _)]; simp
  have h2 := mrgL_mono ws s (firstN s) (wtK ws s n) (firstN s + 1) (n - (firstN s + 1))
  rw [show firstN s + 1 + (n - (firstN s + 1)) = n by omega, h1] at h2
  exact h2


def pairL (k i : Nat) : List Int := [((min i k : Nat) : Int), ((max i k : Nat) : Int)]
theorem pair_rise {k i n : Nat} (hk : k < n) (hi : i < n) (hne : i ≠ k) : RiseK (n : Int) (pairL k i) 2 := fun j hj => by
  rcases j with _ | _ | j
  · show (0 : Int) ≤ ((min i k : Nat) : Int) ∧ ((min i k : Nat) : Int) < n ∧ (1 ≤ 0 → _)
    refine ⟨by omega, by omega, fun h => by omega⟩
  · show (0 : Int) ≤ ((max i k : Nat) : Int) ∧ ((max i k : Nat) : Int) < n ∧ (1 ≤ 0 + 1 → ((min i k : Nat) : Int) < ((max i k : Nat) : Int))
    refine ⟨by omega, by omega, fun _ => by omega⟩
  · omega
theorem pair_ofK (k i : Nat) : ofK (pairL k i) 2 = 2^k ||| 2^i := by
  show (0 ||| 2 ^ (((min i k : Nat) : Int)).toNat) ||| 2 ^ (((max i k : Nat) : Int)).toNat = _
  rw [Int.toNat_natCast, Int.toNat_natCast, Nat.zero_or]
  by_cases h : i ≤ k
  · rw [Nat.min_eq_left h, Nat.max_eq_right h, Nat.or_comm]
  · rw [Nat.min_eq_right (by omega), Nat.max_eq_left (by omega)]
theorem pair_okB {q : Int} {ws : List Int} {k i n : Nat} (hg : Vo.Good q ws n) (hk : k < n) (hi : i < n) (hne : i ≠ k) : okB q ws n (pairL k i) 2 = true := by
  unfold okB
  rw [goodB_true hg, riseB_yes (pair_rise hk hi hne)]; rfl
theorem pair_uniB {q : Int} {ws : List Int} {k i n : Nat} (hg : Vo.Good q ws n) (hk : k < n) (hi : i < n) (hne : i ≠ k) : uniB q ws n (pairL k i) 2 = leadOk ws n k i := by
  have hB := pair_okB hg hk hi hne
  have hS := okS_yes hB
  rw [pair_ofK] at hS
  have h0 := (two_lt hk hi).1
  rw [uniB_yes hB (by rw [hS]; omega), hS]
  rfl
/-- What the model reckons for a pair is leadV. -/
theorem pair_lead {q : Int} {ws : List Int} {k i n : Nat} (hg : Vo.Good q ws n) (hk : k < n) (hi : i < n) (hne : i ≠ k) :
    ((setN (pivotN q (uniL ws n (ofK (pairL k i) 2)) (uniL ws n (ofK (pairL k i) 2)).length) (pairL k i) 1 : Nat) : Int) * (n : Int) - ((setN (pivotN q ws n) (pairL k i) 2 : Nat) : Int) = leadV q ws n k i := by
  have hr := pair_rise hk hi hne
  have hfst := (set_first hg.hi hr (by omega)).2
  have h0 := (two_lt hk hi).1
  have h5 : 2^k ||| 2^i < 512 := Nat.lt_of_lt_of_le (two_lt hk hi).2 (Nat.pow_le_pow_right (n := 2) (by omega) hg.hi)
  have hfp := first_place (ws := ws) (n := n) h0 h5 (first_lt h0 hg.hi (two_lt hk hi).2)
  rw [setN_part _ hr, setN_head, hfst, Int.toNat_natCast]
  rw [pair_ofK] at *
  unfold leadV
  rw [partN_single _ hfp]

end Go.Proofs.YtgilbenbaefgfabDoor

namespace Go.Proofs.YtgilbenbaefgfabDoor
open Go.RowKit Vo

theorem leastP_any (a b : Nat) (w : World) : Calls Tryd.prog 15 #[.int .i64 a, .int .i64 b] w fun e w' => e = .returned (.int .i64 (min a b : Nat)) ∧ w = w' := by
  by_cases h : a < b
  · have H := Lib.hid (show min a b = a from Nat.min_eq_left (by omega))
    have h' : (a : Int) < b := by omega
    go_enter Tryd.func15, Tryd.ntmps15
    go_wp2
    go_ret
    exact ⟨by rw [H.out]; rfl, rfl⟩
  · have H := Lib.hid (show min a b = b from Nat.min_eq_right (by omega))
    have h' : ¬ (a : Int) < b := by omega
    go_enter Tryd.func15, Tryd.ntmps15
    go_wp2
    go_ret
    exact ⟨by rw [H.out]; rfl, rfl⟩
theorem mostP_any (a b : Nat) (w : World) : Calls Tryd.prog 16 #[.int .i64 a, .int .i64 b] w fun e w' => e = .returned (.int .i64 (max a b : Nat)) ∧ w = w' := by
  by_cases h : b < a
  · have H := Lib.hid (show max a b = a from Nat.max_eq_left (by omega))
    have h' : (b : Int) < a := by omega
    go_enter Tryd.func16, Tryd.ntmps16
    go_wp2
    go_ret
    exact ⟨by rw [H.out]; rfl, rfl⟩
  · have H := Lib.hid (show max a b = b from Nat.max_eq_right (by omega))
    have h' : ¬ (b : Int) < a := by omega
    go_enter Tryd.func16, Tryd.ntmps16
    go_wp2
    go_ret
    exact ⟨by rw [H.out]; rfl, rfl⟩

set_option maxRecDepth 20000 in
set_option maxHeartbeats 16000000 in
theorem sBestPartners_core (q : Int) (b off n k : Nat) (ws : List Int) (w : World) (hg : Vo.Good q ws n) (hkn : k < n) (hsl : Sl w b off n ws) (h2n : 2 ≤ n) (hM : memOk q ws n (k : Int) = true) :
    Calls Tryd.prog 5 #[.agg #[.int .i64 q, .slice (some ⟨b, off, none⟩) n n], .int .i64 k] w fun e w' => PairAt (bpL q ws n (k : Int)) (bpT q ws n (k : Int)) w w' e := by
  obtain ⟨i0, hi0, hz0, hz1, hz2⟩ := infoIntParts
  have hn9 := hg.hi
  have hx := Box.new w (.int .i64 q) (.slice (some ⟨b, off, none⟩) n n)
  have hb0 := below1 w (.cells #[.int .i64 q, .slice (some ⟨b, off, none⟩) n n] 28)
  obtain ⟨c0, c1⟩ := hx.cells
  have HPM := Lib.hid (pwMember_any q (some ⟨b, off, none⟩) n n ws (k : Int) _ (by omega) (Known.of (hsl.now hb0)))
  have HM := Lib.hid hM
  have HBL := Lib.hid (show bpL q ws n (k : Int) = (boS (bpOk ws n k) (fun j => leadV q ws n k j) n).1 from by unfold bpL; rw [hM, Int.toNat_natCast]; rfl)
  have HBT := Lib.hid (show bpT q ws n (k : Int) = decide (0 < (bpL q ws n (k : Int)).length) from rfl)
  rw [HBT.out, HBL.out]
  have HSL := Lib.hid hsl
  have HG := Lib.hid hg
  clear hM hsl hg
  go_enter Tryd.func5, Tryd.ntmps5
  go_wp2_with fail
  refine HPM.out.mono ?_
  rintro e w1 ⟨rfl, hb1⟩
  rw [HM.out]
  have g1 := bfrom hb0 hb1
  have HX1 := Lib.hid (hx.now hb1)
  obtain ⟨d0, d1⟩ := HX1.out.cells
  have hge2 : ¬ (n : Int) < 2 := by omega
  clear hx c0 c1 hb0 hb1
  go_wp2_with fail
  go_loopw [6, 7, 8, 9, 10, 11, 12, 13, 14, 28] (fun u m _ _ _ _ _ _ _ i wr => ∃ (j : Nat) (A : Option Addr) (cp : Nat), j ≤ n ∧ i = .int .i64 j ∧ m = .int .i64 (boS (bpOk ws n k) (fun j => leadV q ws n k j) j).2 ∧ u = .slice A (boS (bpOk ws n k) (fun j => leadV q ws n k j) j).1.length cp ∧ wr.ownsRow w1.heap.size 3 1 (.slice A (boS (bpOk ws n k) (fun j => leadV q ws n k j) j).1.length cp) (boS (bpOk ws n k) (fun j => leadV q ws n k j) j).1.length ((boS (bpOk ws n k) (fun j => leadV q ws n k j) j).1.map (Value.int .i64)) ∧ Below w1.heap.size w1 wr) (fun _ _ _ _ _ _ _ _ _ i _ => n - (intOf i).toNat)
  case atStart => exact ⟨0, none, 0, Nat.zero_le _, rfl, rfl, rfl, World.ownsRow_nil _ _ _ _, Below.refl _ _⟩
  case round =>
    obtain ⟨j, A, cp, hj, rfl, rfl, rfl, hown, hbr⟩ := hrel
    have HO := Lib.hid hown
    have hszr := hbr.size
    have hb := bfrom g1 hbr
    have hlen := boS_le (bpOk ws n k) (fun j => leadV q ws n k j) j
    have hxr := HX1.out.now hbr
    clear hown
    by_cases hlt : j < n
    · have HSK := Lib.hid (fun h => boS_skip (ok := bpOk ws n k) (v := fun j => leadV q ws n k j) (j := j) h)
      have HNW := Lib.hid (fun h h2 => boS_new (ok := bpOk ws n k) (v := fun j => leadV q ws n k j) (j := j) h h2)
      have HSM := Lib.hid (fun h h1 h2 => boS_same (ok := bpOk ws n k) (v := fun j => leadV q ws n k j) (j := j) h h1 h2)
      have HLS := Lib.hid (fun h h1 h2 => boS_less (ok := bpOk ws n k) (v := fun j => leadV q ws n k j) (j := j) h h1 h2)
      obtain ⟨st, hst⟩ : ∃ z, z = boS (bpOk ws n k) (fun j => leadV q ws n k j) j := ⟨_, rfl⟩
      simp only [← hst] at HSK HNW HSM HLS HO
      rw [← hst] at hlen ⊢
      clear hst
      obtain ⟨L, m⟩ := st
      simp only at HSK HNW HSM HLS HO hlen ⊢
      obtain ⟨ln, hln⟩ : ∃ ln, ln = L.length := ⟨_, rfl⟩
      simp only [← hln] at HNW HSM HLS HO
      rw [← hln] at hlen ⊢
      have HLN := Lib.hid hln
      clear hln
      obtain ⟨d0, d1⟩ := hxr.cells
      obtain ⟨mn, hmn⟩ : ∃ z, z = min j k := ⟨_, rfl⟩
      obtain ⟨mx, hmx⟩ : ∃ z, z = max j k := ⟨_, rfl⟩
      have HMN := Lib.hid hmn.symm
      have HMX := Lib.hid hmx.symm
      have HPL := Lib.hid (show pairL k j = [((mn : Nat) : Int), ((mx : Nat) : Int)] from by rw [hmn, hmx]; rfl)
      have HLIT := Lib.hid (show Sl (wr.alloc (.cells #[.int .i64 (mn : Nat), .int .i64 (mx : Nat)] 3)) wr.heap.size 0 2 (pairL k j) from by rw [HPL.out]; exact lit2_sl wr _ _)
      have bL := below1 wr (.cells #[.int .i64 (mn : Nat), .int .i64 (mx : Nat)] 3)
      have hxL := hxr.alloc (.cells #[.int .i64 (mn : Nat), .int .i64 (mx : Nat)] 3)
      have KL := Lib.hid (show ∀ W, Below (wr.alloc (.cells #[.int .i64 (mn : Nat), .int .i64 (mx : Nat)] 3)).heap.size (wr.alloc (.cells #[.int .i64 (mn : Nat), .int .i64 (mx : Nat)] 3)) W → W.cell? ⟨w.heap.size, 0, none⟩ = some (.int .i64 q) ∧ W.cell? ⟨w.heap.size, 1, none⟩ = some (.slice (some ⟨b, off, none⟩) n n) from fun W hb => (hxL.now hb).cells)
      obtain ⟨y0, y1⟩ := hxL.cells
      have hlb := bfrom hb bL
      have hjn : (j : Int) < n := by omega
      clear hmn hmx hxr hxL
      by_cases hjk : j = k
      · have HE := Lib.hid (HSK.out (by unfold bpOk; rw [decide_eq_false (by simpa using hjk)]; rfl))
        clear HSK HNW HSM HLS
        have hjkI : (j : Int) = (k : Int) := by omega
        have HO2 := Lib.hid (owns_now HO.out bL)
        subst hjk
        go_wp2_with (first
          | (go_at_call 15; refine (leastP_any j j _).mono ?_; rintro e w' ⟨rfl, rfl⟩; rw [HMN.out])
          | (go_at_call 16; refine (mostP_any j j _).mono ?_; rintro e w' ⟨rfl, rfl⟩; rw [HMX.out])
          | fail)
        go_roundw
        case rel => exact ⟨j + 1, A, cp, by omega, by go_num, by rw [HE.out], by rw [HE.out]; show Value.slice A ln cp = Value.slice A L.length cp; rw [← HLN.out], by rw [HE.out]; show World.ownsRow _ _ _ _ (Value.slice A L.length cp) L.length _; rw [← HLN.out]; exact HO2.out, hbr.trans (bL.mono hszr)⟩
        case measure => simp [intOf]; omega
      · have hjkI : ((j : Int) == (k : Int)) = false := by simp; omega
        have hjkI2 : ¬ (j : Int) = (k : Int) := by omega
        have hgd := HG.out
        have HUS := Lib.hid (unSet_any q (some ⟨b, off, none⟩) n ws wr.heap.size 0 2 2 (pairL k j) (wr.alloc (.cells #[.int .i64 (mn : Nat), .int .i64 (mx : Nat)] 3)) (by omega) (Known.of (HSL.out.now hlb)) (by omega) HLIT.out)
        rw [pair_uniB hgd hkn hlt hjk] at HUS
        cases hlo : leadOk ws n k j with
        | false =>
          have HE := Lib.hid (HSK.out (by unfold bpOk; rw [hlo]; simp))
          rw [hlo] at HUS
          clear HSK HNW HSM HLS hlo hgd
          go_wp2_with (first
            | (go_at_call 15; refine (leastP_any j k _).mono ?_; rintro e w' ⟨rfl, rfl⟩; rw [HMN.out])
            | (go_at_call 16; refine (mostP_any j k _).mono ?_; rintro e w' ⟨rfl, rfl⟩; rw [HMX.out])
            | (go_at_call 17; refine HUS.out.mono ?_; rintro e w2 ⟨rfl, hb2⟩; have HO2 := Lib.hid (owns_now HO.out (bfrom bL hb2)))
            | fail)
          go_roundw
          case rel => exact ⟨j + 1, A, cp, by omega, by go_num, by rw [HE.out], by rw [HE.out]; show Value.slice A ln cp = Value.slice A L.length cp; rw [← HLN.out], by rw [HE.out]; show World.ownsRow _ _ _ _ (Value.slice A L.length cp) L.length _; rw [← HLN.out]; exact HO2.out, hbr.trans ((bfrom bL hb2).mono hszr)⟩
          case measure => simp [intOf]; omega
        | true =>
          rw [hlo] at HUS
          have hok : bpOk ws n k j = true := by unfold bpOk; rw [hlo, decide_eq_true hjk]; rfl
          have hU : uniB q ws n (pairL k j) 2 = true := by rw [pair_uniB hgd hkn hlt hjk, hlo]
          obtain ⟨_, _, _, hr, hS, hg', h0, h5, hf⟩ := uni_good hU
          have hfst := (set_first hn9 hr (by omega)).2
          have hfp := first_place (ws := ws) (n := n) h0 h5 (first_lt h0 hn9 (ofK_lt hr))
          have HUP1 := Lib.hid (fun W (hb' : Below (wr.alloc (.cells #[.int .i64 (mn : Nat), .int .i64 (mx : Nat)] 3)).heap.size (wr.alloc (.cells #[.int .i64 (mn : Nat), .int .i64 (mx : Nat)] 3)) W) => unPivots_any q (some ⟨b, off, none⟩) n n ws wr.heap.size 0 2 2 (pairL k j) W hgd (Known.of (HSL.out.now (bfrom hlb hb'))) (by omega) (HLIT.out.now hb') (fun i hi => ⟨(hr i hi).1, (hr i hi).2.1⟩))
          have HUM := Lib.hid (fun W (hb' : Below (wr.alloc (.cells #[.int .i64 (mn : Nat), .int .i64 (mx : Nat)] 3)).heap.size (wr.alloc (.cells #[.int .i64 (mn : Nat), .int .i64 (mx : Nat)] 3)) W) => unMerge_any q b off n wr.heap.size 0 2 2 ws (pairL k j) W hgd hr (by omega) (by omega) (HSL.out.now (bfrom hlb hb')) (HLIT.out.now hb'))
          have HUP2 := Lib.hid (fun g cpg W (hb' : Below (wr.alloc (.cells #[.int .i64 (mn : Nat), .int .i64 (mx : Nat)] 3)).heap.size (wr.alloc (.cells #[.int .i64 (mn : Nat), .int .i64 (mx : Nat)] 3)) W) (h : Ints W g (uniL ws n (ofK (pairL k j) 2)).length (uniL ws n (ofK (pairL k j) 2))) => unPivots_any q (some ⟨g, 0, none⟩) (uniL ws n (ofK (pairL k j) 2)).length cpg (uniL ws n (ofK (pairL k j) 2)) wr.heap.size 0 1 2 (pairL k j) W hg' (Known.of (Ints.sl h)) (by omega) (sl_head (HLIT.out.now hb') (by omega)) (fun i hi => by
            have e : i = 0 := by omega
            subst e; rw [hfst]; omega))
          have hp1 := part_pivots hgd h5
          have hp2 := part_pivots hg' (Nat.pow_lt_pow_right (a := 2) (n := 9) (by omega) hf)
          have HLD := Lib.hid (pair_lead (ws := ws) (q := q) hgd hkn hlt hjk)
          have ha1 : setN (pivotN q ws n) (pairL k j) 2 ≤ 1000000 := by rw [setN_part _ hr]; have := hp1.le; have := hp1.few; omega
          have ha2 : setN (pivotN q (uniL ws n (ofK (pairL k j) 2)) (uniL ws n (ofK (pairL k j) 2)).length) (pairL k j) 1 ≤ 1000000 := by
            rw [setN_head, hfst, Int.toNat_natCast, ← partN_single (pivotN q (uniL ws n (ofK (pairL k j) 2)) (uniL ws n (ofK (pairL k j) 2)).length) hfp]
            have := hp2.le; have := hp2.few; omega
          have hq1 := hp2.one
          have hq0 := hp1.one
          simp only [ComV] at HUM
          clear hp1 hp2 hU hr hS hg' h0 h5 hf hfst hfp hlo hgd
          generalize setN (pivotN q ws n) (pairL k j) 2 = v1 at *
          generalize pivS q ws n = f1 at *
          generalize setN (pivotN q (uniL ws n (ofK (pairL k j) 2)) (uniL ws n (ofK (pairL k j) 2)).length) (pairL k j) 1 = v2 at *
          generalize pivS q (uniL ws n (ofK (pairL k j) 2)) (uniL ws n (ofK (pairL k j) 2)).length = f2 at *
          generalize uniL ws n (ofK (pairL k j) 2) = LL at *
          obtain ⟨mm, hmm⟩ : ∃ z, z = LL.length := ⟨_, rfl⟩
          simp only [← hmm] at HUM HUP2
          clear hmm
          obtain ⟨y, hy⟩ : ∃ z, z = leadV q ws n k j := ⟨_, rfl⟩
          simp only [← hy] at HNW HSM HLS
          rw [← hy] at HLD
          clear hy
          have hmul : v2 * n ≤ 1000000 * 9 := Nat.mul_le_mul ha2 hn9
          have hcast : (v2 : Int) * (n : Int) = ((v2 * n : Nat) : Int) := by simp
          have HWR := Lib.hid (show wrap64 (wrap64 ((v2 : Int) * (n : Int)) - (v1 : Int)) = y from by
            rw [← HLD.out, hcast]
            generalize v2 * n = z at *
            rw [IntWalk.wrap64_in (z : Int) (by omega), IntWalk.wrap64_in _ (by omega)])
          have hwr := HWR.out
          have hf2 : (0 : Int) < (f2 : Int) := by omega
          have hf1 : (0 : Int) < (f1 : Int) := by omega
          have hf0 : 0 < f1 := by omega
          clear hcast hmul HLD ha1 ha2 hq1 hq0
          by_cases h0 : ln = 0
          · have HE := Lib.hid (HNW.out hok (Or.inl h0))
            clear hok HSK HNW HSM HLS
            subst h0
            go_wp2_with (first
              | (go_at_call 15; refine (leastP_any j k _).mono ?_; rintro e w' ⟨rfl, rfl⟩; rw [HMN.out])
              | (go_at_call 16; refine (mostP_any j k _).mono ?_; rintro e w' ⟨rfl, rfl⟩; rw [HMX.out])
              | (go_at_call 17; refine HUS.out.mono ?_; rintro e w2 ⟨rfl, hb2⟩; have b2 := hb2; obtain ⟨k0, k1⟩ := KL.out _ b2)
              | (go_at_call 18; refine (HUP1.out _ b2).mono ?_; rintro e w3 ⟨rfl, hb3⟩; have b3 := bfrom b2 hb3; obtain ⟨k2, k3⟩ := KL.out _ b3)
              | fail)
            go_region_held3 (fun w' => w'.cell? ⟨w.heap.size, 0, none⟩ = some (.int .i64 q) ∧ w'.cell? ⟨w.heap.size, 1, none⟩ = some (.slice (some ⟨b, off, none⟩) n n))
              (first | exact ⟨k2, k3⟩ | exact ⟨l0, l1⟩ | exact ⟨l2, l3⟩ | go_keep)
              (first
                | (go_at_call 19; refine (HUM.out _ (b3.trans ((Below.refl _ w3).drew.mono b3.size))).mono ?_; rintro e w4 ⟨g, cpg, rfl, hgl, hI, hb4⟩; have HI := Lib.hid hI; clear hI; have b4 := bfrom (b3.trans ((Below.refl _ w3).drew.mono b3.size)) hb4; obtain ⟨l0, l1⟩ := KL.out _ b4)
                | (go_at_call 18; refine (HUP2.out g cpg _ b4 HI.out).mono ?_; rintro e w5 ⟨rfl, hb5⟩; have b5 := bfrom b4 hb5; obtain ⟨l2, l3⟩ := KL.out _ b5; have HO5 := Lib.hid (owns_now HO.out (bfrom bL b5)); have h15 := hbr.trans ((bfrom bL b5).mono hszr))
                | fail)
            all_goals
              have hz5 := h15.size
              go_wp2_with (first
                | (at_builtin; refine wpList_append_lies _ rfl _ _ _ rfl w1.heap.size 3 i0 _ 1 8 Tryd.underlying22 hi0 hz0 hz1 hz2 rfl (by decide) (.slice none 0 0) 0 [] rfl (World.ownsRow_nil _ _ _ _) ⟨w5.heap.size, 0, none⟩ 1 1 [.int .i64 (j : Int)] rfl rfl (World.news_of_block (cs := #[.int .i64 (j : Int)]) (t := 3) (fr := (0, 0)) (heap_alloc_new w5 _)) (by simp [Value.oneCell']) (by omega) (by unfold maxLen; omega) (by omega) (by simp; omega) (w5.heap.size + 1) (by simp) ?_; intro gg cap4 w6 hown6 hgrow6 hat hlt6)
                | fail)
              have b6 : Below w1.heap.size w1 w6 := (h15.alloc hz5 (.cells #[.int .i64 (j : Int)] 3)).grown hgrow6 (by simp; omega) fun i hi => by cases hi
              go_roundw
              case rel => exact ⟨j + 1, some ⟨gg, 0, none⟩, cap4, by omega, by go_num, by rw [HE.out]; first | done | rfl | rw [hwr] | simp [hwr], by rw [HE.out]; simp, by rw [HE.out]; simpa using hown6, b6⟩
              case measure => simp [intOf]; omega
          · have hln0 : ((ln : Int) == 0) = false := by simp; omega
            by_cases hgt : m < y
            · have HE := Lib.hid (HNW.out hok (Or.inr hgt))
              clear hok HSK HNW HSM HLS
              go_wp2_with (first
                | (go_at_call 15; refine (leastP_any j k _).mono ?_; rintro e w' ⟨rfl, rfl⟩; rw [HMN.out])
                | (go_at_call 16; refine (mostP_any j k _).mono ?_; rintro e w' ⟨rfl, rfl⟩; rw [HMX.out])
                | (go_at_call 17; refine HUS.out.mono ?_; rintro e w2 ⟨rfl, hb2⟩; have b2 := hb2; obtain ⟨k0, k1⟩ := KL.out _ b2)
                | (go_at_call 18; refine (HUP1.out _ b2).mono ?_; rintro e w3 ⟨rfl, hb3⟩; have b3 := bfrom b2 hb3; obtain ⟨k2, k3⟩ := KL.out _ b3)
                | fail)
              go_region_held3 (fun w' => w'.cell? ⟨w.heap.size, 0, none⟩ = some (.int .i64 q) ∧ w'.cell? ⟨w.heap.size, 1, none⟩ = some (.slice (some ⟨b, off, none⟩) n n))
                (first | exact ⟨k2, k3⟩ | exact ⟨l0, l1⟩ | exact ⟨l2, l3⟩ | go_keep)
                (first
                  | (go_at_call 19; refine (HUM.out _ (b3.trans ((Below.refl _ w3).drew.mono b3.size))).mono ?_; rintro e w4 ⟨g, cpg, rfl, hgl, hI, hb4⟩; have HI := Lib.hid hI; clear hI; have b4 := bfrom (b3.trans ((Below.refl _ w3).drew.mono b3.size)) hb4; obtain ⟨l0, l1⟩ := KL.out _ b4)
                  | (go_at_call 18; refine (HUP2.out g cpg _ b4 HI.out).mono ?_; rintro e w5 ⟨rfl, hb5⟩; have b5 := bfrom b4 hb5; obtain ⟨l2, l3⟩ := KL.out _ b5; have HO5 := Lib.hid (owns_now HO.out (bfrom bL b5)); have h15 := hbr.trans ((bfrom bL b5).mono hszr))
                  | fail)
              all_goals
                have hz5 := h15.size
                go_wp2_with (first
                  | (at_builtin; refine wpList_append_lies _ rfl _ _ _ rfl w1.heap.size 3 i0 _ 1 8 Tryd.underlying22 hi0 hz0 hz1 hz2 rfl (by decide) (.slice none 0 0) 0 [] rfl (World.ownsRow_nil _ _ _ _) ⟨w5.heap.size, 0, none⟩ 1 1 [.int .i64 (j : Int)] rfl rfl (World.news_of_block (cs := #[.int .i64 (j : Int)]) (t := 3) (fr := (0, 0)) (heap_alloc_new w5 _)) (by simp [Value.oneCell']) (by omega) (by unfold maxLen; omega) (by omega) (by simp; omega) (w5.heap.size + 1) (by simp) ?_; intro gg cap4 w6 hown6 hgrow6 hat hlt6)
                  | fail)
                have b6 : Below w1.heap.size w1 w6 := (h15.alloc hz5 (.cells #[.int .i64 (j : Int)] 3)).grown hgrow6 (by simp; omega) fun i hi => by cases hi
                go_roundw
                case rel => exact ⟨j + 1, some ⟨gg, 0, none⟩, cap4, by omega, by go_num, by rw [HE.out]; first | done | rfl | rw [hwr] | simp [hwr], by rw [HE.out]; simp, by rw [HE.out]; simpa using hown6, b6⟩
                case measure => simp [intOf]; omega
            · by_cases heq : y = m
              · have HE := Lib.hid (HSM.out hok h0 heq)
                clear hok HSK HNW HSM HLS
                subst heq
                go_wp2_with (first
                  | (go_at_call 15; refine (leastP_any j k _).mono ?_; rintro e w' ⟨rfl, rfl⟩; rw [HMN.out])
                  | (go_at_call 16; refine (mostP_any j k _).mono ?_; rintro e w' ⟨rfl, rfl⟩; rw [HMX.out])
                  | (go_at_call 17; refine HUS.out.mono ?_; rintro e w2 ⟨rfl, hb2⟩; have b2 := hb2; obtain ⟨k0, k1⟩ := KL.out _ b2)
                  | (go_at_call 18; refine (HUP1.out _ b2).mono ?_; rintro e w3 ⟨rfl, hb3⟩; have b3 := bfrom b2 hb3; obtain ⟨k2, k3⟩ := KL.out _ b3)
                  | fail)
                go_region_held3 (fun w' => w'.cell? ⟨w.heap.size, 0, none⟩ = some (.int .i64 q) ∧ w'.cell? ⟨w.heap.size, 1, none⟩ = some (.slice (some ⟨b, off, none⟩) n n))
                  (first | exact ⟨k2, k3⟩ | exact ⟨l0, l1⟩ | exact ⟨l2, l3⟩ | go_keep)
                  (first
                    | (go_at_call 19; refine (HUM.out _ (b3.trans ((Below.refl _ w3).drew.mono b3.size))).mono ?_; rintro e w4 ⟨g, cpg, rfl, hgl, hI, hb4⟩; have HI := Lib.hid hI; clear hI; have b4 := bfrom (b3.trans ((Below.refl _ w3).drew.mono b3.size)) hb4; obtain ⟨l0, l1⟩ := KL.out _ b4)
                    | (go_at_call 18; refine (HUP2.out g cpg _ b4 HI.out).mono ?_; rintro e w5 ⟨rfl, hb5⟩; have b5 := bfrom b4 hb5; obtain ⟨l2, l3⟩ := KL.out _ b5; have HO5 := Lib.hid (owns_now HO.out (bfrom bL b5)); have h15 := hbr.trans ((bfrom bL b5).mono hszr))
                    | fail)
                all_goals
                  have hz5 := h15.size
                  go_wp2_with (first
                    | (at_builtin; refine wpList_append_lies _ rfl _ _ _ rfl w1.heap.size 3 i0 _ 1 8 Tryd.underlying22 hi0 hz0 hz1 hz2 rfl (by decide) (.slice A ln cp) ln (L.map (Value.int .i64)) rfl (HO5.out.alloc _) ⟨w5.heap.size, 0, none⟩ 1 1 [.int .i64 (j : Int)] rfl rfl (World.news_of_block (cs := #[.int .i64 (j : Int)]) (t := 3) (fr := (0, 0)) (heap_alloc_new w5 _)) (by simp [Value.oneCell']) (by omega) (by unfold maxLen; omega) (by omega) (by simp; omega) (w5.heap.size + 1) (by simp) ?_; intro gg cap4 w6 hown6 hgrow6 hat hlt6)
                    | fail)
                  have b6 : Below w1.heap.size w1 w6 := (h15.alloc hz5 (.cells #[.int .i64 (j : Int)] 3)).grown hgrow6 (by simp; omega) fun i hi => owns_le HO5.out hi
                  go_roundw
                  case rel => exact ⟨j + 1, some ⟨gg, 0, none⟩, cap4, by omega, by go_num, by rw [HE.out]; first | done | rfl | rw [hwr] | simp [hwr], by rw [HE.out]; simp [HLN.out], by rw [HE.out]; simpa [HLN.out] using hown6, b6⟩
                  case measure => simp [intOf]; omega
              · have hl : y < m := by omega
                have HE := Lib.hid (HLS.out hok h0 hl)
                have hne : (y == m) = false := by simpa using heq
                clear hok HSK HNW HSM HLS
                go_wp2_with (first
                  | (go_at_call 15; refine (leastP_any j k _).mono ?_; rintro e w' ⟨rfl, rfl⟩; rw [HMN.out])
                  | (go_at_call 16; refine (mostP_any j k _).mono ?_; rintro e w' ⟨rfl, rfl⟩; rw [HMX.out])
                  | (go_at_call 17; refine HUS.out.mono ?_; rintro e w2 ⟨rfl, hb2⟩; have b2 := hb2; obtain ⟨k0, k1⟩ := KL.out _ b2)
                  | (go_at_call 18; refine (HUP1.out _ b2).mono ?_; rintro e w3 ⟨rfl, hb3⟩; have b3 := bfrom b2 hb3; obtain ⟨k2, k3⟩ := KL.out _ b3)
                  | fail)
                go_region_held3 (fun w' => w'.cell? ⟨w.heap.size, 0, none⟩ = some (.int .i64 q) ∧ w'.cell? ⟨w.heap.size, 1, none⟩ = some (.slice (some ⟨b, off, none⟩) n n))
                  (first | exact ⟨k2, k3⟩ | exact ⟨l0, l1⟩ | exact ⟨l2, l3⟩ | go_keep)
                  (first
                    | (go_at_call 19; refine (HUM.out _ (b3.trans ((Below.refl _ w3).drew.mono b3.size))).mono ?_; rintro e w4 ⟨g, cpg, rfl, hgl, hI, hb4⟩; have HI := Lib.hid hI; clear hI; have b4 := bfrom (b3.trans ((Below.refl _ w3).drew.mono b3.size)) hb4; obtain ⟨l0, l1⟩ := KL.out _ b4)
                    | (go_at_call 18; refine (HUP2.out g cpg _ b4 HI.out).mono ?_; rintro e w5 ⟨rfl, hb5⟩; have b5 := bfrom b4 hb5; obtain ⟨l2, l3⟩ := KL.out _ b5; have HO5 := Lib.hid (owns_now HO.out (bfrom bL b5)); have h15 := hbr.trans ((bfrom bL b5).mono hszr))
                    | fail)
                all_goals
                  go_wp2
                  go_roundw
                  case rel => exact ⟨j + 1, A, cp, by omega, by go_num, by rw [HE.out], by rw [HE.out]; show Value.slice A ln cp = Value.slice A L.length cp; rw [← HLN.out], by rw [HE.out]; show World.ownsRow _ _ _ _ (Value.slice A L.length cp) L.length _; rw [← HLN.out]; exact HO5.out, h15⟩
                  case measure => simp [intOf]; omega
    · obtain rfl : n = j := by omega
      obtain ⟨L, hL⟩ : ∃ z, z = (boS (bpOk ws n k) (fun j => leadV q ws n k j) n).1 := ⟨_, rfl⟩
      rw [← hL] at HO hlen
      obtain ⟨ln, hln⟩ : ∃ z, z = (boS (bpOk ws n k) (fun j => leadV q ws n k j) n).1.length := ⟨_, rfl⟩
      have HLq := Lib.hid hL
      have HLN := Lib.hid (show ln = L.length from by rw [hL]; exact hln)
      rw [← HLN.out] at HO hlen
      rw [← hln]
      clear hL hln
      by_cases h0 : ln = 0
      · have HL0 := Lib.hid (show L = [] from by
          have h := HLN.out
          cases L with
          | nil => rfl
          | cons _ _ => simp at h; omega)
        subst h0
        go_wp2
        go_ret2
        rw [← HLq.out, HL0.out]
        exact ⟨none, 0, rfl, World.ownsRow_nil _ _ _ _, hb⟩
      · have hln0 : ((ln : Int) == 0) = false := by simp; omega
        have HD := Lib.hid (show decide (0 < L.length) = true from by rw [← HLN.out]; exact decide_eq_true (by omega))
        go_wp2
        go_ret2
        rw [← HLq.out, HD.out]
        exact ⟨A, cp, by rw [← HLN.out]; rfl, by rw [← HLN.out]; exact owns_less HO.out g1.size, hb⟩

set_option maxRecDepth 20000 in
set_option maxHeartbeats 4000000 in
theorem sBestPartners_any (q : Int) (A : Option Addr) (n : Nat) (ws : List Int) (x : Int) (w : World) (hm : n ≤ 9223372036854775807) (hk : Known w A n ws) :
    Calls Tryd.prog 5 #[.agg #[.int .i64 q, .slice A n n], .int .i64 x] w fun e w' => PairAt (bpL q ws n x) (bpT q ws n x) w w' e := by
  by_cases hC : memOk q ws n x = true ∧ 2 ≤ n
  · obtain ⟨hM, h2⟩ := hC
    obtain ⟨hg, hx0, hxn⟩ := memOk_parts hM
    obtain ⟨k, rfl⟩ : ∃ k : Nat, x = (k : Int) := ⟨x.toNat, by omega⟩
    obtain ⟨b, off, rfl, hsl⟩ := hk.get hg.lo
    exact sBestPartners_core q b off n k ws w hg (by omega) hsl h2 hM
  · have hx := Box.new w (.int .i64 q) (.slice A n n)
    have hb0 := below1 w (.cells #[.int .i64 q, .slice A n n] 28)
    obtain ⟨c0, c1⟩ := hx.cells
    have HPM := Lib.hid (pwMember_any q A n n ws x _ hm (hk.now hb0))
    have HL := Lib.hid (show bpL q ws n x = [] from by
      unfold bpL
      cases hM : memOk q ws n x with
      | false => rfl
      | true =>
        obtain ⟨hg, hx0, hxn⟩ := memOk_parts hM
        have hn1 : n = 1 := by
          have := hg.lo
          by_cases h2 : 2 ≤ n
          · exact absurd ⟨hM, h2⟩ hC
          · omega
        subst hn1
        have hx1 : x.toNat = 0 := by omega
        rw [hx1, if_pos rfl, boS_skip (show bpOk ws 1 0 0 = false from rfl)]
        rfl)
    have HTT := Lib.hid (show bpT q ws n x = false from by unfold bpT; rw [HL.out]; rfl)
    rw [HL.out, HTT.out]
    cases hM : memOk q ws n x with
    | false =>
      have HM := Lib.hid hM
      clear hM hk hC hx
      go_enter Tryd.func5, Tryd.ntmps5
      go_wp2_with fail
      refine HPM.out.mono ?_
      rintro e w1 ⟨rfl, hb1⟩
      rw [HM.out]
      go_wp2
      go_ret2
      exact ⟨none, 0, rfl, World.ownsRow_nil _ _ _ _, bfrom hb0 hb1⟩
    | true =>
      have HM := Lib.hid hM
      have hlt : (n : Int) < 2 := by
        have : ¬ 2 ≤ n := fun h => hC ⟨hM, h⟩
        omega
      have HX := Lib.hid hx
      clear hM hk hC hx
      go_enter Tryd.func5, Tryd.ntmps5
      go_wp2_with fail
      refine HPM.out.mono ?_
      rintro e w1 ⟨rfl, hb1⟩
      rw [HM.out]
      obtain ⟨d0, d1⟩ := (HX.out.now hb1).cells
      go_wp2
      go_ret2
      exact ⟨none, 0, rfl, World.ownsRow_nil _ _ _ _, bfrom hb0 hb1⟩

theorem bpL_len (q : Int) (ws : List Int) (n : Nat) (x : Int) : (bpL q ws n x).length ≤ 1048576 := by
  unfold bpL
  cases hM : memOk q ws n x with
  | false => simp
  | true =>
    obtain ⟨hg, _, _⟩ := memOk_parts hM
    have := boS_le (bpOk ws n x.toNat) (fun j => leadV q ws n x.toNat j) n
    have := hg.hi
    rw [if_pos rfl]; omega
theorem bestPartners_ans (q : Int) (A : Option Addr) (n _n : Nat) (ws : List Int) (x : Int) (w : World) (hm : n ≤ 9223372036854775807) (hk : Known w A n ws) (hxw : (Lit.int .i64 x).wf = true) (hT : Tab w) :
    Calls Tryd.prog 7 #[.agg #[.int .i64 q, .slice A n n], .int .i64 x] w fun e w' => Ans (RS (bpL q ws n x)) (bpT q ws n x) w w' e := (bestPartners_any q A n ws x w hm hk hxw hT).mono fun _ _ h => h.ans
theorem sBestPartners_ans (q : Int) (A : Option Addr) (n _n : Nat) (ws : List Int) (x : Int) (w : World) (hm : n ≤ 9223372036854775807) (hk : Known w A n ws) (_hxw : (Lit.int .i64 x).wf = true) :
    Calls Tryd.prog 5 #[.agg #[.int .i64 q, .slice A n n], .int .i64 x] w fun e w' => Ans (RS (bpL q ws n x)) (bpT q ws n x) w w' e := (sBestPartners_any q A n ws x w hm hk).mono fun _ _ h => h.ans
end Go.Proofs.YtgilbenbaefgfabDoor
