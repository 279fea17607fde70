/- Plain facts on weights divided by what divides them all; contract of the program's PartCommittee. -/
import Derived.Test.YtkeiojfnjgjliaaWi
import Derived.Test.YtkeiojfnjgjliaaWc
import Derived.Test.YtkeiojfnjgjliaaN2
import Derived.Deep.RegionHeld3
namespace Go.Proofs.Ytkeiojfnjgjliaa
open Go.RowKit Vo

/-- The greatest common divisor of the first k weights. -/
def gK (ws : List Int) : Nat → Nat
  | 0 => 0
  | k+1 => Nat.gcd (gK ws k) (ws.getD k 0).toNat
theorem gK_dvd {ws : List Int} : ∀ {k j : Nat}, j < k → gK ws k ∣ (ws.getD j 0).toNat
  | 0, _, h => by omega
  | k+1, j, h => by
    simp only [gK]
    by_cases e : j = k
    · subst e; exact Nat.gcd_dvd_right _ _
    · exact Nat.dvd_trans (Nat.gcd_dvd_left _ _) (gK_dvd (by omega))
theorem gK_bd {ws : List Int} {n : Nat} (h : InK 0 1000 ws n) : ∀ {k}, k ≤ n → gK ws k ≤ 1000
  | 0, _ => by simp [gK]
  | k+1, hk => by
    have i := gK_bd h (k := k) (by omega)
    have b := h k (by omega)
    simp only [gK]
    by_cases e : (ws.getD k 0).toNat = 0
    · rw [e, Nat.gcd_zero_right]; exact i
    · have := Nat.gcd_le_right (gK ws k) (show 0 < (ws.getD k 0).toNat by omega); omega
theorem gK_pos {ws : List Int} {n : Nat} (h : InK 0 1000 ws n) (hs : 1 ≤ sumK ws n) : 0 < gK ws n := by
  rcases Nat.eq_zero_or_pos (gK ws n) with e | e
  · exfalso
    have hz : ∀ k, k ≤ n → sumK ws k = 0 := by
      intro k
      induction k with
      | zero => intro _; rfl
      | succ k ih =>
        intro hk
        have d := gK_dvd (ws := ws) (k := n) (j := k) (by omega)
        rw [e] at d
        have := Nat.eq_zero_of_zero_dvd d
        have b := h k (by omega)
        simp only [sumK]; rw [ih (by omega)]; omega
    have := hz n (Nat.le_refl _); omega
  · exact e

/-- The weights, each divided. -/
def partL (ws : List Int) (k : Nat) (D : Nat) : List Int := (List.range k).map fun j => ws.getD j 0 / (D : Int)
theorem partL_succ (ws : List Int) (k D : Nat) : partL ws (k+1) D = partL ws k D ++ [ws.getD k 0 / (D : Int)] := by simp [partL, List.range_succ]
theorem partL_len (ws : List Int) (k D : Nat) : (partL ws k D).length = k := by simp [partL]
theorem partL_at {ws : List Int} {k D j : Nat} (h : j < k) : (partL ws k D).getD j 0 = ws.getD j 0 / (D : Int) := by
  simp [partL, List.getD_eq_getElem?_getD, h]
theorem div_bd {y : Int} {D : Nat} (h0 : 0 ≤ y) (h1 : y ≤ 1000) (hD : 0 < D) : 0 ≤ y / (D : Int) ∧ y / (D : Int) ≤ 1000 :=
  ⟨Int.ediv_nonneg h0 (by omega), Int.le_trans (Int.ediv_le_self _ h0) h1⟩
theorem partL_in {ws : List Int} {n D : Nat} (h : InK 0 1000 ws n) (hD : 0 < D) : InK 0 1000 (partL ws n D) n := fun j hj => by
  rw [partL_at hj]; have := h j hj; exact div_bd this.1 this.2 hD
theorem wtK_part {ws : List Int} {n D : Nat} (h : InK 0 1000 ws n) (hd : ∀ j, j < n → D ∣ (ws.getD j 0).toNat) (s : Nat) : ∀ k, k ≤ n → wtK (partL ws n D) s k * (D : Int) = wtK ws s k
  | 0, _ => by simp [wtK]
  | k+1, hk => by
    have i := wtK_part h hd s k (by omega)
    have b := h k (by omega)
    have hdv : (D : Int) ∣ ws.getD k 0 := by
      have := Int.natCast_dvd_natCast.2 (hd k (by omega))
      rwa [Int.toNat_of_nonneg b.1] at this
    simp only [wtK]
    rw [Int.add_mul, i, partL_at (by omega)]
    cases s.testBit k with
    | false => simp
    | true => rw [if_pos rfl, if_pos rfl, Int.ediv_mul_cancel hdv]
theorem part_apart {q : Int} {ws : List Int} {n : Nat} (hg : Vo.Good q ws n) : highS (winB q ws n) (partL ws n (gK ws n)) n < lowS (winB q ws n) (partL ws n (gK ws n)) n := by
  have hpos := gK_pos hg.ok (by have := hg.q1; have := hg.q2; omega)
  have hp2 := Nat.two_pow_pos n
  obtain ⟨t, ht, hpt, e⟩ := low_met (p := winB q ws n) (ws := partL ws n (gK ws n)) hg.hi (s := 2^n - 1) (by omega) (win_full hg)
  obtain ⟨u, hu, hpu, e2⟩ := high_met (p := winB q ws n) (ws := partL ws n (gK ws n)) (n := n) (win_nil hg)
  have h1 := wtK_part hg.ok (fun j hj => gK_dvd hj) t n (Nat.le_refl _)
  have h2 := wtK_part hg.ok (fun j hj => gK_dvd hj) u n (Nat.le_refl _)
  have h3 : q ≤ wtK ws t n := by unfold winB at hpt; exact of_decide_eq_true hpt
  have h4 : ¬ q ≤ wtK ws u n := by unfold winB at hpu; exact of_decide_eq_false hpu
  rw [e, e2]
  refine Int.lt_of_mul_lt_mul_right (a := (gK ws n : Int)) ?_ (by omega)
  rw [h1, h2]; omega

theorem box_set0 {t : TypeId} {w : World} {g : Nat} {u v : Value} (h : BoxT t w g u v) (a : Value) : BoxT t (w.setCell ⟨g, 0, none⟩ a) g a v := by
  unfold BoxT at *
  simp [World.setCell, Array.getElem?_modify, h]
def partQ (q : Int) (ws : List Int) (n : Nat) : Int := if goodB q ws n then highS (winB q ws n) (partL ws n (gK ws n)) n + 1 else 0
theorem partQ_yes {q ws n} (h : goodB q ws n = true) : partQ q ws n = highS (winB q ws n) (partL ws n (gK ws n)) n + 1 := if_pos h
theorem partQ_no {q ws n} (h : goodB q ws n = false) : partQ q ws n = 0 := if_neg (by rw [h]; simp)

set_option maxRecDepth 20000 in
set_option maxHeartbeats 4000000 in
theorem partCommittee_any (q : Int) (A : Option Addr) (n cap : Nat) (ws : List Int) (w : World) (hm : n ≤ 9223372036854775807) (hk : Known w A n ws) :
    Calls Try.prog 32 #[.agg #[.int .i64 q, .slice A n cap]] w fun e w' => ComAt (partQ q ws n) (dualN q ws n) (partL ws n (gK ws n)) (goodB q ws n) w w' e := by
  have HK := Lib.hid hk
  clear hk
  have hb0 : Below w.heap.size w ((w.alloc (.cells #[.int .i64 q, .slice A n cap] 32)).alloc (.cells #[.int .i64 0, .slice none 0 0] 32)) := (below1 w _).alloc (by simp) _
  have hx := (Box.new w (.int .i64 q) (.slice A n cap)).alloc (.cells #[.int .i64 0, .slice none 0 0] 32)
  have hr := Box.new (w.alloc (.cells #[.int .i64 q, .slice A n cap] 32)) (.int .i64 0) (.slice none 0 0)
  simp only [World.size_alloc] at hr
  have KF := Lib.hid (show ∀ W, BoxT 32 W (w.heap.size + 1) (.int .i64 0) (.slice none 0 0) → (W.frozen? ⟨w.heap.size + 1, 0, none⟩ = false ∧ W.frozen? ⟨w.heap.size + 1, 1, none⟩ = false) from fun W h => by unfold BoxT at h; exact ⟨by simp [World.frozen?, h], by simp [World.frozen?, h]⟩)
  by_cases hg : Vo.Good q ws n
  · obtain ⟨b, off, rfl, hsl⟩ := HK.out.get hg.lo
    have HSL := Lib.hid hsl
    have HG := Lib.hid hg
    have HGB := Lib.hid (goodB_true hg)
    have hn9 := hg.hi
    have hn1 := hg.lo
    have hn10 : n < 10 := by omega
    clear hg hsl
    have HOK := Lib.hid HG.out.ok
    have HDP := Lib.hid (gK_pos HG.out.ok (by have := HG.out.q1; have := HG.out.q2; omega))
    have HGB9 := Lib.hid (fun k hk => gK_bd HG.out.ok (k := k) hk)
    have HAP := Lib.hid (part_apart HG.out)
    have hpos := Nat.two_pow_pos n
    have HWL := Lib.hid (winL_pos (p := winB q ws n) hn9 (s := 2^n - 1) (by omega) (win_full HG.out))
    rw [partQ_yes HGB.out, dualN_yes HGB.out, HGB.out]
    clear hpos
    go_enter Try.func32, Try.ntmps32
    go_wp2_with fail
    refine (isCommittee_any q _ n cap ws _ hm (HK.out.now hb0)).mono ?_
    rintro e w1 ⟨rfl, hb1⟩
    rw [HGB.out]
    have g1 := bfrom hb0 hb1
    have hr1 := hr.now hb1
    have hx1 := hx.now hb1
    have hzr := hr1.lt
    have hs1 := Lib.hid (HSL.out.now g1)
    have HX1 := Lib.hid hx1
    have HR1 := Lib.hid hr1
    obtain ⟨c0, c1⟩ := hx1.cells
    clear hr hb0 hb1 hx
    go_wp2_with fail
    clear c0 c1
    go_loopw [4, 6, 18] (fun d _ i wr => ∃ k : Nat, k ≤ n ∧ i = .int .i64 k ∧ d = .int .i64 (gK ws k : Nat) ∧ Below w1.heap.size w1 wr) (fun _ _ i _ => n - (intOf i).toNat)
    case atStart => exact ⟨0, Nat.zero_le _, rfl, rfl, Below.refl _ _⟩
    case round =>
      obtain ⟨k, hk, rfl, rfl, hbk⟩ := hrel
      by_cases hlt : k < n
      · have hcell := (hs1.out.now hbk).cell k hlt
        have hy := HOK.out k hlt
        have hgb := HGB9.out k hk
        have HST := Lib.hid (show gK ws (k+1) = Nat.gcd (gK ws k) (ws.getD k 0).toNat from rfl)
        obtain ⟨a, ha⟩ : ∃ a : Nat, ws.getD k 0 = a := ⟨(ws.getD k 0).toNat, by omega⟩
        rw [ha] at hcell hy HST
        rw [Int.toNat_natCast] at HST
        obtain ⟨d, hd⟩ : ∃ d, d = gK ws k := ⟨_, rfl⟩
        rw [← hd] at HST hgb ⊢
        clear ha hd
        go_wp2_with (go_at_call 73; refine (greatestDivisor_any d a _ (by omega) (by omega)).mono ?_; rintro e w' ⟨rfl, hb'⟩; rw [← HST.out])
        go_roundw
        case rel => exact ⟨k + 1, by omega, by go_num, rfl, bfrom hbk hb'⟩
        case measure => simp [intOf]; omega
      · obtain rfl : k = n := by omega
        obtain ⟨D, hD⟩ : ∃ D, D = gK ws k := ⟨_, rfl⟩
        have HDD := Lib.hid hD
        have hD9 := HGB9.out k (Nat.le_refl _)
        have hDp := HDP.out
        rw [← hD] at HAP hD9 hDp ⊢
        have hDp' : 0 < D := hDp
        have hDne : ((D : Int) == 0) = false := by simp; omega
        have g2 := bfrom g1 hbk
        have hx2 := HX1.out.now hbk
        have hr2 := HR1.out.now hbk
        have hs2 := Lib.hid (hs1.out.now hbk)
        have hz2 := hbk.size
        obtain ⟨c0, c1⟩ := hx2.cells
        clear hbk hD
        go_wp2_with fail
        refine (withQuota_row q q b off k cap ws _ hn1 hn9 hs2.out).mono ?_
        rintro e w3 ⟨rfl, ho3, hb3⟩
        obtain ⟨g, hg⟩ : ∃ g, g = wr.heap.size + 2 := ⟨_, rfl⟩
        rw [← hg] at ho3 ⊢
        have hI3 := ints_of_row ho3
        have hgl : g < w3.heap.size := hI3.lt
        have g3 := bfrom g2 hb3
        have b4 := below1 w3 (.cells #[.int .i64 q, .slice (some ⟨g, 0, none⟩) k k] 32)
        have g4 := bfrom g3 b4
        have hI4 := Own.below hI3 b4 hgl
        have hn4 := Box.new w3 (.int .i64 q) (.slice (some ⟨g, 0, none⟩) k k)
        have hr4 := (hr2.now hb3).now b4
        have hx4 := (hx2.now hb3).now b4
        obtain ⟨e0, e1⟩ := hn4.cells
        have hge : w.heap.size + 2 ≤ g := by omega
        have hnbz : g < w3.heap.size := hgl
        clear c0 c1 hg hx2 hr2 hb3 ho3 hI3
        go_wp2_with fail
        obtain ⟨w4, hw4⟩ : ∃ w4, w4 = w3.alloc (.cells #[.int .i64 q, .slice (some ⟨g, 0, none⟩) k k] 32) := ⟨_, rfl⟩
        obtain ⟨nb, hnb⟩ : ∃ nb, nb = w3.heap.size := ⟨_, rfl⟩
        rw [← hw4] at g4 hI4 hn4 hr4 hx4 e0 e1 ⊢
        rw [← hnb] at hn4 hgl e0 e1 ⊢
        have hgn : g ≠ nb := by omega
        have hnbr : nb ≠ w.heap.size + 1 := by omega
        have hnbx : nb ≠ w.heap.size := by omega
        have hgr : g ≠ w.heap.size + 1 := by omega
        have hgx : g ≠ w.heap.size := by omega
        have hgw : w.heap.size ≤ g := by omega
        have hnw : w.heap.size ≤ nb := by omega
        have hbg : b ≠ g := by have := HSL.out.lt; omega
        clear b4 hw4 hnb g3 e0 e1 hnbz
        go_loopw [8, 33] (fun _ i wr => ∃ j : Nat, j ≤ k ∧ i = .int .i64 j ∧ Own wr g 3 k (fun z => .int .i64 (if z < j then ws.getD z 0 / (D : Int) else ws.getD z 0)) ∧ Box wr nb (.int .i64 q) (.slice (some ⟨g, 0, none⟩) k k) ∧ BoxT 32 wr (w.heap.size + 1) (.int .i64 0) (.slice none 0 0) ∧ Box wr w.heap.size (.int .i64 q) (.slice (some ⟨b, off, none⟩) k cap) ∧ Below w.heap.size w wr) (fun _ i _ => k - (intOf i).toNat)
        case atStart => exact ⟨0, Nat.zero_le _, rfl, hI4.congr fun j _ => by simp, hn4, hr4, hx4, g4⟩
        case round =>
          obtain ⟨j, hj, rfl, hown, hbx, hrr, hxx, hbr⟩ := hrel
          obtain ⟨e0, e1⟩ := hbx.cells
          by_cases hlt2 : j < k
          · have hcell := hown.cell hlt2
            have hfz := hown.frozen j
            rw [if_neg (by omega)] at hcell
            have hy := HOK.out j hlt2
            have hyx := div_bd hy.1 hy.2 hDp'
            have HST := Lib.hid (show Own (_root_.Go.World.setCell _ ⟨g, j, none⟩ (.int .i64 (ws.getD j 0 / (D : Int)))) g 3 k (fun z => .int .i64 (if z < j + 1 then ws.getD z 0 / (D : Int) else ws.getD z 0)) from (hown.set j (.int .i64 (ws.getD j 0 / (D : Int)))).congr fun z hz => by
              by_cases e : z = j
              · subst e; rw [if_pos rfl, if_pos (by omega)]
              · rw [if_neg e]
                by_cases h : z < j
                · rw [if_pos h, if_pos (by omega)]
                · rw [if_neg h, if_neg (by omega)])
            obtain ⟨a, ha⟩ : ∃ a : Nat, ws.getD j 0 = a := ⟨(ws.getD j 0).toNat, by omega⟩
            rw [ha] at hcell hyx HST
            obtain ⟨z, hz⟩ : ∃ z, (a : Int) / (D : Int) = z := ⟨_, rfl⟩
            rw [hz] at hyx HST
            clear hy ha
            go_wp2
            go_roundw
            case rel => exact ⟨j + 1, by omega, by go_num, HST.out, hbx.far (by simpa using hgn.symm) _, hrr.far (by simpa using hgr.symm) _, hxx.far (by simpa using hgx.symm) _, hbr.setCell (by simpa using hgw) _⟩
            case measure => simp [intOf]; omega
          · obtain rfl : j = k := by omega
            have hI : Ints _ g j (partL ws j D) := hown.congr fun z hz => by rw [if_pos hz, partL_at hz]
            have HI := Lib.hid hI
            clear hown hI
            have HQ0 := Lib.hid (show quoQ (lowS (winB q ws j) (partL ws j D) j) (highS (winB q ws j) (partL ws j D) j) = highS (winB q ws j) (partL ws j D) j + 1 from if_neg (by have := HAP.out; omega))
            have HQ1 := Lib.hid (show quoOk (lowS (winB q ws j) (partL ws j D) j) (highS (winB q ws j) (partL ws j D) j) = true from by unfold quoOk; rw [decide_eq_false (by have := HAP.out; omega)]; rfl)
            have HPI := Lib.hid (partL_in HOK.out hDp')
            obtain ⟨c0, c1⟩ := hxx.cells
            have hsx := Lib.hid (HSL.out.now hbr)
            have K := Lib.hid (show ∀ W, Below wr.heap.size wr W → (W.cell? ⟨w.heap.size, 0, none⟩ = some (.int .i64 q) ∧ W.cell? ⟨w.heap.size, 1, none⟩ = some (.slice (some ⟨b, off, none⟩) j cap) ∧ W.cell? ⟨nb, 0, none⟩ = some (.int .i64 q) ∧ W.cell? ⟨nb, 1, none⟩ = some (.slice (some ⟨g, 0, none⟩) j j)) from fun W hb => ⟨(hxx.now hb).cells.1, (hxx.now hb).cells.2, (hbx.now hb).cells.1, (hbx.now hb).cells.2⟩)
            have hlw := HI.out.lt
            go_wp2_with fail
            go_region_held3 (fun w' => w'.cell? ⟨w.heap.size, 0, none⟩ = some (.int .i64 q) ∧ w'.cell? ⟨w.heap.size, 1, none⟩ = some (.slice (some ⟨b, off, none⟩) j cap) ∧ w'.cell? ⟨nb, 0, none⟩ = some (.int .i64 q) ∧ w'.cell? ⟨nb, 1, none⟩ = some (.slice (some ⟨g, 0, none⟩) j j))
              (first | exact ⟨a0, a1, a2, a3⟩ | exact ⟨b0, b1, b2, b3⟩ | exact ⟨d0, d1, d2, d3⟩ | exact ⟨c0, c1, e0, e1⟩ | go_keep)
              (first
                | (go_at_call 65; refine (quotaFor_any (winB q ws j) g 0 j j (partL ws j D) A2 B2 c12 c22 _ hn10 HPI.out ?_ HWL.out ?_ (HCC.out HWL.out) ?_).mono ?_; (first | exact Ints.sl (Own.below HI.out gC hlw) | exact Ints.sl (Own.below HI.out gB hlw)); (first | exact HA2.out.now hbL | exact HA2.out); (first | exact HB2.out.now hbL | exact HB2.out); rw [HQ0.out, HQ1.out]; rintro e wD ⟨rfl, hbD⟩; have gD : Below wr.heap.size wr wD := (by first | exact bfrom gC hbD | exact bfrom gB hbD); obtain ⟨d0, d1, d2, d3⟩ := K.out _ gD)
                | (go_at_call 66; refine (borderOf_any (winB q ws j) j 32 _ _ _ _ hn10 (comRule q b off j cap ws _ hn10 HOK.out ?_)).mono ?_; (first | exact hsx.out.now gA | exact hsx.out.drew); rintro e wB ⟨A2, c12, B2, c22, rfl, hA2, hcc, hB2, hbB⟩; have HA2 := Lib.hid hA2; have HB2 := Lib.hid hB2; have HCC := Lib.hid hcc; clear hA2 hB2 hcc; have gB : Below wr.heap.size wr wB := (by first | exact bfrom gA hbB | exact bfrom (Below.refl _ _).drew hbB); obtain ⟨b0, b1, b2, b3⟩ := K.out _ gB)
                | (go_at_call 74; refine (weights_any _ _ j j _).mono ?_; rintro e wC ⟨rfl, hbL⟩; have gC := bfrom gB hbL; obtain ⟨a0, a1, a2, a3⟩ := K.out _ gC)
                | (go_at_call 74; refine (weights_any _ _ j j _).mono ?_; rintro e wA ⟨rfl, hbA⟩; have gA := bfrom (Below.refl _ _).drew hbA; obtain ⟨a0, a1, a2, a3⟩ := K.out _ gA))
            all_goals
              obtain ⟨Q, hQ⟩ : ∃ Q, Q = highS (winB q ws j) (partL ws j D) j + 1 := ⟨_, rfl⟩
              have HQQ := Lib.hid hQ
              rw [← hQ]
              clear hQ
              have hXD := hbx.now gD
              obtain ⟨q0, q1⟩ := frozen2 hXD
              have hS := box_set0 hXD (.int .i64 Q)
              have hRS := (hrr.now gD).far (p := ⟨nb, 0, none⟩) (by simpa using hnbr.symm) (.int .i64 Q)
              have HIS := Lib.hid ((Own.below HI.out gD hlw).far (p := ⟨nb, 0, none⟩) (by simpa using hgn) (.int .i64 Q))
              have gS := (bfrom hbr gD).setCell (p := ⟨nb, 0, none⟩) (by simpa using hnw) (.int .i64 Q)
              obtain ⟨s0, s1⟩ := hS.cells
              obtain ⟨r0, r1⟩ := hRS.cells
              obtain ⟨f0, f1⟩ := KF.out _ hRS
              clear c0 c1 e0 e1 a0 a1 a2 a3 b0 b1 b2 b3 hXD hS hRS
              go_wp2
              refine bodyPost_ret (v := .tuple #[.agg #[.int .i64 Q, .slice (some ⟨g, 0, none⟩) j j], .bool true]) (by simp [results, Try.results32, go_sem, r0, r1]) rfl ?_
              rw [← HDD.out, ← HQQ.out]
              exact ⟨_, _, rfl, Or.inr ⟨g, rfl, hgw, (HIS.out.far (by simpa using hgr) _).far (by simpa using hgr) _⟩, (gS.setCell (by simp) _).setCell (by simp) _⟩
  · have HGB := Lib.hid (goodB_false hg)
    clear hg
    go_enter Try.func32, Try.ntmps32
    go_wp2_with fail
    refine (isCommittee_any q A n cap ws _ hm (HK.out.now hb0)).mono ?_
    rintro e w1 ⟨rfl, hb1⟩
    rw [HGB.out]
    have g1 := bfrom hb0 hb1
    have hr1 := hr.now hb1
    obtain ⟨c0, c1⟩ := hr1.cells
    obtain ⟨f0, f1⟩ := KF.out _ hr1
    clear hr hb0 hb1 hx
    go_wp2
    refine bodyPost_ret (v := .tuple #[.agg #[.int .i64 0, .slice none 0 0], .bool false]) (by simp [results, Try.results32, go_sem, c0, c1]) rfl ?_
    rw [partQ_no HGB.out, dualN_no HGB.out, HGB.out]
    exact ⟨_, _, rfl, Or.inl ⟨rfl, rfl⟩, (g1.setCell (by simp) _).setCell (by simp) _⟩
end Go.Proofs.Ytkeiojfnjgjliaa
