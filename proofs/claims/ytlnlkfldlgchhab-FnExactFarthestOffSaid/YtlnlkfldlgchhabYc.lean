/- The model's greatest distance, and its FarthestOff. -/
import Derived.Deep.RegionHeld3
import Derived.Outline
import Derived.Test.YtlnlkfldlgchhabYa
namespace Go.Proofs.Ytlnlkfldlgchhab
open Go.RowKit Vo

theorem sumN_mono {f g : Nat → Nat} : ∀ {k : Nat}, (∀ j, j < k → f j ≤ g j) → sumN f k ≤ sumN g k
  | 0, _ => Nat.le_refl _
  | k+1, h => Nat.add_le_add (sumN_mono fun j hj => h j (by omega)) (h k (by omega))
theorem all_ways : ∀ n, n < 10 → ∀ k, k < n → sumN (fun s => if !s.testBit k then wayP n (sz s) else 0) (2^n) ≤ fact n := by decide +kernel
theorem piv_fact {p : Nat → Bool} {n k : Nat} (hn : n < 10) (hk : k < n) : pivN p n k (2^n) ≤ fact n := by
  refine Nat.le_trans (sumN_mono fun s _ => ?_) (all_ways n hn k hk)
  unfold swP
  cases s.testBit k
  · simp only [Bool.not_false, Bool.true_and, if_true]
    split
    · exact Nat.le_refl _
    · exact Nat.zero_le _
  · simp

/-- The greatest of the first k. -/
def maxA (g : Nat → Nat) : Nat → Nat
  | 0 => 0
  | k+1 => max (maxA g k) (g k)
theorem maxA_ge {g : Nat → Nat} : ∀ {k j : Nat}, j < k → g j ≤ maxA g k
  | k+1, j, h => by
    by_cases e : j = k
    · subst e; exact Nat.le_max_right _ _
    · exact Nat.le_trans (maxA_ge (k := k) (by omega)) (Nat.le_max_left _ _)
theorem maxA_le {g : Nat → Nat} {B : Nat} : ∀ {k : Nat}, (∀ j, j < k → g j ≤ B) → maxA g k ≤ B
  | 0, _ => Nat.zero_le _
  | k+1, h => Nat.max_le.2 ⟨maxA_le fun j hj => h j (by omega), h k (by omega)⟩
/-- How far the lead of a member is from nought. -/
def leadA (q : Int) (ws : List Int) (n k : Nat) : Nat := (leadZ q ws n k).natAbs
theorem far_max {q : Int} {ws : List Int} {n : Nat} (h1 : 1 ≤ n) : farF q ws n = maxA (leadA q ws n) n := by
  have key : ∀ k, max (maxZ (leadZ q ws n) k) (-(minZ (leadZ q ws n) k)) = ((max (leadA q ws n 0) (maxA (leadA q ws n) k) : Nat) : Int) := by
    intro k
    induction k with
    | zero => simp only [maxZ, minZ, maxA, leadA]; omega
    | succ k ih =>
      simp only [maxZ, minZ, maxA]
      have e : (leadA q ws n k : Int) = ((leadZ q ws n k).natAbs : Nat) := rfl
      generalize leadA q ws n 0 = x at *
      generalize maxA (leadA q ws n) k = y at *
      generalize leadA q ws n k = z at *
      generalize leadZ q ws n k = l at *
      generalize maxZ (leadZ q ws n) k = u at *
      generalize minZ (leadZ q ws n) k = v at *
      omega
  have h2 := key n
  have h3 := maxA_ge (g := leadA q ws n) (k := n) (j := 0) (by omega)
  unfold farF farZ
  rw [h2, Int.toNat_natCast]
  omega
theorem lead_le {q : Int} {ws : List Int} {n k : Nat} (hg : Vo.Good q ws n) (hk : k < n) : leadA q ws n k ≤ parF ws n := by
  have h1 : pivotN q ws n k ≤ fact n := piv_fact (by have := hg.hi; omega) hk
  have h2 := sumK_bd hg.ok
  have h3 := hg.ok k hk
  have h4 : ws.getD k 0 ≤ sumK ws n := by
    have key : ∀ m, k < m → m ≤ n → ws.getD k 0 ≤ sumK ws m := by
      intro m
      induction m with
      | zero => intro h; omega
      | succ m ih =>
        intro h h'
        have a := hg.ok m (by omega)
        have b := sumK_bd (hg.ok.mono (show m ≤ n by omega))
        simp only [sumK]
        by_cases e : k = m
        · subst e; omega
        · have := ih (by omega) (by omega); omega
    exact key n hk (Nat.le_refl _)
  obtain ⟨t, ht⟩ : ∃ t : Nat, sumK ws n = t := ⟨(sumK ws n).toNat, by omega⟩
  obtain ⟨y, hy⟩ : ∃ y : Nat, ws.getD k 0 = y := ⟨(ws.getD k 0).toNat, by omega⟩
  unfold leadA leadZ parF
  rw [ht, hy, Int.toNat_natCast]
  rw [ht, hy] at h4
  have a1 : pivotN q ws n k * t ≤ fact n * t := Nat.mul_le_mul_right _ h1
  have a2 : y * fact n ≤ fact n * t := by rw [Nat.mul_comm]; exact Nat.mul_le_mul_left _ (by omega)
  have e1 : (pivotN q ws n k : Int) * (t : Int) = ((pivotN q ws n k * t : Nat) : Int) := by simp
  have e2 : (y : Int) * (fact n : Int) = ((y * fact n : Nat) : Int) := by simp
  rw [e1, e2]
  omega
theorem par_le {ws : List Int} {n : Nat} (hn : n ≤ 9) (h : sumK ws n ≤ 60) : parF ws n ≤ 21772800 := by
  have h1 := fact_le hn
  unfold parF
  have : (sumK ws n).toNat ≤ 60 := by omega
  exact Nat.mul_le_mul h1 this
theorem share1_le (x D : Nat) : (share1 x D).1 ≤ (x : Int) ∧ 0 ≤ (share1 x D).1 ∧ (share1 x D).2 ≤ (D : Int) ∧ 0 ≤ (share1 x D).2 := by
  unfold share1
  have a := Nat.div_le_self x (Nat.gcd x D)
  have b := Nat.div_le_self D (Nat.gcd x D)
  generalize x / Nat.gcd x D = u at *
  generalize D / Nat.gcd x D = v at *
  show (u : Int) ≤ x ∧ 0 ≤ (u : Int) ∧ (v : Int) ≤ D ∧ 0 ≤ (v : Int)
  omega
theorem share1_none {D : Nat} (h : 0 < D) : share1 0 D = (0, 1) := by
  unfold share1
  rw [Nat.gcd_zero_left, Nat.zero_div, Nat.div_self h]; rfl
theorem cmp_more {x y D : Nat} (hD : 0 < D) : cmpV (share1 x D).1 (share1 x D).2 (share1 y D).1 (share1 y D).2 = sgn ((x : Int) - y) := by
  obtain ⟨a, b, _, e1, _⟩ := share1_parts (x := x) hD
  obtain ⟨c, d, _, e2, _⟩ := share1_parts (x := y) hD
  have h := sgn_shares hD hD e1 e2
  rw [e1, e2]
  show sgn ((a : Int) * d - c * b) = _
  rw [h, show (x : Int) * D - y * D = D * ((x : Int) - y) from by rw [← Int.sub_mul, Int.mul_comm]]
  exact sgn_mul (by omega)
end Go.Proofs.Ytlnlkfldlgchhab

namespace Go.Proofs.Ytlnlkfldlgchhab
open Go.RowKit Vo

theorem turn_set {w : World} {F : Nat} (i : Nat) (v : Value) : Turn F (F + 1) w (w.setCell ⟨F, i, none⟩ v) :=
  ⟨rfl, rfl, rfl, by simp, fun k _ ho => Below.heap_setCell w ⟨F, i, none⟩ v k (by simp; omega)⟩

set_option maxRecDepth 20000 in
set_option maxHeartbeats 8000000 in
theorem shFar_any (q : Int) (b off n cap : Nat) (ws : List Int) (w : World) (hg : Vo.Good q ws n) (h60 : sumK ws n ≤ 60) (hsl : Sl w b off n ws) :
    Calls Try.prog 70 #[.agg #[.int .i64 q, .slice (some ⟨b, off, none⟩) n cap]] w fun e w' => e = .returned (.agg #[.int .i64 (share1 (farF q ws n) (parF ws n)).1, .int .i64 (share1 (farF q ws n) (parF ws n)).2]) ∧ Below w.heap.size w w' := by
  have hn9 := hg.hi
  have hn1 := hg.lo
  have hn10 : n < 10 := by omega
  have HOK := Lib.hid hg.ok
  have hT : ((sumN (wtF ws n) n : Nat) : Int) = sumK ws n := sumN_wt hg.ok (Nat.le_refl n)
  have hpos : 0 < sumN (wtF ws n) n := by
    have h2 := hg.q1; have h3 := hg.q2; omega
  have hD0 : 0 < parF ws n := by
    unfold parF
    have h2 := hg.q1; have h3 := hg.q2
    exact Nat.mul_pos (fact_pos n) (by omega)
  have hDb := par_le hn9 h60
  have hDT : fact n * sumN (wtF ws n) n = parF ws n := by
    unfold parF; congr 1; omega
  have hGD : ∀ k, k < n → leadA q ws n k ≤ parF ws n := fun k hk => lead_le hg hk
  have HSG := Lib.hid (show ∀ j, j < n → ∃ a b c d : Nat, (shL (pivotN q ws n) (fact n) n).getD j (0, 0) = ((a : Int), (b : Int)) ∧ (shL (wtF ws n) (sumN (wtF ws n) n) n).getD j (0, 0) = ((c : Int), (d : Int)) ∧ share1 ((a : Int) * d - c * b).natAbs (b * d) = share1 (leadA q ws n j) (parF ws n) ∧ a * d ≤ 2000000000000000000 ∧ c * b ≤ 2000000000000000000 ∧ b * d ≤ 4000000000000000000 ∧ 0 < b * d from fun j hj => by
    obtain ⟨a, b, g, e1, hg1, ex, ed, hb, _⟩ := share1_parts (x := pivotN q ws n j) (fact_pos n)
    obtain ⟨c, d, g2, e2, hg2, ex2, ed2, hd, _⟩ := share1_parts (x := wtF ws n j) hpos
    have ha1 : a ≤ fact n := by
      have h1 : pivotN q ws n j ≤ fact n := piv_fact hn10 hj
      have h2 : a ≤ pivotN q ws n j := by rw [ex]; exact Nat.le_mul_of_pos_left a hg1
      omega
    have hf := fact_le hn9
    have hb1 : b ≤ fact n := by
      have : b ≤ g * b := Nat.le_mul_of_pos_left b hg1
      omega
    have hc1 : c ≤ 1000 := by
      have h1 : wtF ws n j ≤ 1000 := wtN_le hg.ok j
      have h2 : c ≤ g2 * c := Nat.le_mul_of_pos_left c hg2
      omega
    have hd1 : d ≤ 60 := by
      have h2 : d ≤ g2 * d := Nat.le_mul_of_pos_left d hg2
      omega
    refine ⟨a, b, c, d, by rw [shL_get hj, e1], by rw [shL_get hj, e2], ?_, ?_, ?_, ?_, Nat.mul_pos hb hd⟩
    · rw [off_shares (fact_pos n) hpos e1 e2, hDT]
      unfold leadA leadZ
      have hw := hg.ok j hj
      rw [hT]
      congr 4
      simp only [wtF, hj, if_true]
      unfold wtN
      omega
    · have := Nat.mul_le_mul (show a ≤ 362880 by omega) hd1; omega
    · have := Nat.mul_le_mul hc1 (show b ≤ 362880 by omega); omega
    · have := Nat.mul_le_mul (show b ≤ 362880 by omega) hd1; omega)
  have HLP := Lib.hid (shL_len (pivotN q ws n) (fact n) n)
  have HLW := Lib.hid (shL_len (wtF ws n) (sumN (wtF ws n) n) n)
  have HPOS := Lib.hid hpos
  obtain ⟨G, hG⟩ : ∃ G, G = leadA q ws n := ⟨_, rfl⟩
  obtain ⟨D, hD⟩ : ∃ D, D = parF ws n := ⟨_, rfl⟩
  have HFM := Lib.hid (show farF q ws n = maxA G n from by rw [hG]; exact far_max hn1)
  rw [← hG, ← hD] at HSG
  rw [← hG, ← hD] at hGD
  rw [← hD] at hD0 hDb
  rw [HFM.out, ← hD]
  -- how the comparison goes
  have HCMP := Lib.hid (show ∀ j, j < n → ∀ W, ∃ s : Int, Calls Try.prog 126 #[.agg #[.int .i64 (share1 (G j) D).1, .int .i64 (share1 (G j) D).2], .agg #[.int .i64 (share1 (maxA G j) D).1, .int .i64 (share1 (maxA G j) D).2]] W (fun e w' => e = .returned (.int .i64 s) ∧ Below W.heap.size W w') ∧ ((0 < s ∧ maxA G (j+1) = G j) ∨ (s ≤ 0 ∧ maxA G (j+1) = maxA G j)) from fun j hj W => by
    have b1 := share1_le (G j) D
    have b2 := share1_le (maxA G j) D
    have hgj := hGD j hj
    have hmj : maxA G j ≤ D := maxA_le fun i hi => hGD i (by omega)
    have p1 := Int.mul_le_mul (show (share1 (G j) D).1 ≤ 21772800 by omega) (show (share1 (maxA G j) D).2 ≤ 21772800 by omega) b2.2.2.2 (by omega)
    have p2 := Int.mul_le_mul (show (share1 (maxA G j) D).1 ≤ 21772800 by omega) (show (share1 (G j) D).2 ≤ 21772800 by omega) b1.2.2.2 (by omega)
    refine ⟨_, pwCompareB_any _ _ _ _ W ⟨Int.mul_nonneg b1.2.1 b2.2.2.2, by omega⟩ ⟨Int.mul_nonneg b2.2.1 b1.2.2.2, by omega⟩, ?_⟩
    rw [cmp_more hD0, show maxA G (j+1) = max (maxA G j) (G j) from rfl]
    unfold sgn
    generalize maxA G j = M at *
    generalize G j = z at *
    clear p1 p2 b1 b2
    by_cases h : M < z
    · left
      rw [if_neg (by omega), if_neg (by omega)]
      exact ⟨by decide, by omega⟩
    · right
      refine ⟨?_, by omega⟩
      split
      · decide
      · split
        · decide
        · omega)
  have HNONE := Lib.hid (share1_none hD0)
  have hb0 : Below w.heap.size w (((w.alloc (.cells #[.int .i64 q, .slice (some ⟨b, off, none⟩) n cap] 29)).alloc (.cells #[.int .i64 0, .int .i64 0] 45)).alloc (.cells #[.int .i64 0, .int .i64 1] 45)) := ((below1 w _).alloc (by simp) _).alloc (by simp; omega) _
  have hx := ((Box.new w (.int .i64 q) (.slice (some ⟨b, off, none⟩) n cap)).alloc (.cells #[.int .i64 0, .int .i64 0] 45)).alloc (.cells #[.int .i64 0, .int .i64 1] 45)
  have hr := (BoxT.new 45 (w.alloc (.cells #[.int .i64 q, .slice (some ⟨b, off, none⟩) n cap] 29)) (.int .i64 0) (.int .i64 0)).alloc (.cells #[.int .i64 0, .int .i64 1] 45)
  have hf := BoxT.new 45 ((w.alloc (.cells #[.int .i64 q, .slice (some ⟨b, off, none⟩) n cap] 29)).alloc (.cells #[.int .i64 0, .int .i64 0] 45)) (.int .i64 0) (.int .i64 1)
  simp only [World.size_alloc] at hr hf
  have hs0 := Lib.hid (hsl.now hb0)
  obtain ⟨c0, c1⟩ := hx.cells
  clear hg h60 hT hpos hDT hGD hG hD hsl
  go_enter Try.func70, Try.ntmps70
  go_wp2_with (first
    | (go_at_call 61; refine (shWeights_any q b off n cap ws _ hn10 HOK.out HPOS.out hs0.out).mono ?_; rintro e w2 ⟨A2, cp2, rfl, hown2, hb2⟩; have hx2 := hx.now hb2; obtain ⟨d0, d1⟩ := hx2.cells; have hs2 := Lib.hid (hs0.out.now hb2))
    | (go_at_call 124; refine (shPowers_any q b off n cap ws _ hn1 hn10 HOK.out hs2.out).mono ?_; rintro e w3 ⟨A3, cp3, rfl, hown3, hb3⟩))
  obtain ⟨gW, rfl, hlW, hgW, hrW⟩ := shRow_reads HLW.out hown2 hn1
  obtain ⟨gP, rfl, hlP, hgP, hrP⟩ := shRow_reads HLP.out hown3 hn1
  simp only [World.size_alloc] at hlW
  have g3 := bfrom (bfrom hb0 hb2) hb3
  have hgW3 : gW < w3.heap.size := Nat.lt_of_lt_of_le hgW hb3.size
  have hlP2 : w.heap.size + 3 ≤ gP := by have := hb2.size; simp at this; omega
  have hr3 := (hr.now hb2).now hb3
  have hf3 := (hf.now hb2).now hb3
  have HRD := Lib.hid (show ∀ W : World, W.heap[gP]? = w3.heap[gP]? → W.heap[gW]? = w3.heap[gW]? → ∀ j, j < n → ∃ a b c d : Nat, (W.cell? ⟨gP, j * 2, none⟩ = some (.int .i64 a) ∧ W.cell? ⟨gP, j * 2 + 1, none⟩ = some (.int .i64 b) ∧ W.cell? ⟨gW, j * 2, none⟩ = some (.int .i64 c) ∧ W.cell? ⟨gW, j * 2 + 1, none⟩ = some (.int .i64 d)) ∧ share1 ((a : Int) * d - c * b).natAbs (b * d) = share1 (G j) D ∧ a * d ≤ 2000000000000000000 ∧ c * b ≤ 2000000000000000000 ∧ b * d ≤ 4000000000000000000 ∧ 0 < b * d from fun W h1 h2 j hj => by
    obtain ⟨a, b, c, d, e1, e2, r⟩ := HSG.out j hj
    have p := hrP w3 (Below.refl _ _) j hj
    have p2 := hrW w3 hb3 j hj
    rw [e1] at p; rw [e2] at p2
    exact ⟨a, b, c, d, ⟨(cell_same h1 _).trans p.1, (cell_same h1 _).trans p.2, (cell_same h2 _).trans p2.1, (cell_same h2 _).trans p2.2⟩, r⟩)
  have hzw : w.heap.size + 3 ≤ w3.heap.size := by have := hlP2; omega
  clear hown2 hown3 hrW hrP c0 c1 d0 d1 hx hx2 hr hf hb0 hb2 hb3 hs0 hs2 HSG
  go_loopw [5, 6, 7, 14] (fun _ _ _ i wr => ∃ j : Nat, j ≤ n ∧ i = .int .i64 j ∧ BoxT 45 wr (w.heap.size + 1 + 1) (.int .i64 (share1 (maxA G j) D).1) (.int .i64 (share1 (maxA G j) D).2) ∧ Turn (w.heap.size + 1 + 1) (w.heap.size + 1 + 1 + 1) w3 wr) (fun _ _ _ i _ => n - (intOf i).toNat)
  case atStart => exact ⟨0, Nat.zero_le _, rfl, by rw [show maxA G 0 = 0 from rfl, HNONE.out]; exact hf3, Turn.refl _ _ _⟩
  case round =>
    obtain ⟨j, hj, rfl, hbx, htn⟩ := hrel
    by_cases hlt : j < n
    · have hgPr : wr.heap[gP]? = w3.heap[gP]? := htn.block gP hgP (Or.inr (by omega))
      have hgWr : wr.heap[gW]? = w3.heap[gW]? := htn.block gW hgW3 (Or.inr (by omega))
      obtain ⟨a, bb, c, d, ⟨q0, q1, q2, q3⟩, hsh, h1, h2, h3, h4⟩ := HRD.out wr hgPr hgWr j hlt
      have hszr := htn.size
      have hgW5 : gW < wr.heap.size := by omega
      have HOFF := Lib.hid (fun W => shOff_any a bb c d W h1 h2 h3 h4)
      obtain ⟨sx, hsx⟩ : ∃ s, s = (share1 (G j) D).1 := ⟨_, rfl⟩
      obtain ⟨sy, hsy⟩ : ∃ s, s = (share1 (G j) D).2 := ⟨_, rfl⟩
      rw [hsh, ← hsx, ← hsy] at HOFF
      have HCM := Lib.hid (HCMP.out j hlt)
      rw [← hsx, ← hsy] at HCM
      have HSX := Lib.hid hsx
      have HSY := Lib.hid hsy
      clear hsx hsy hsh h1 h2 h3 h4 hgPr hgWr
      have HT := Lib.hid htn
      have HBX := Lib.hid hbx
      have bw := below1 wr (.cells #[.int .i64 a, .int .i64 bb] 45)
      have hxs := BoxT.new 45 wr (.int .i64 a) (.int .i64 bb)
      have K := Lib.hid (show ∀ W, BoxT 45 W wr.heap.size (.int .i64 a) (.int .i64 bb) → W.heap[gW]? = wr.heap[gW]? → (W.cell? ⟨wr.heap.size, 0, none⟩ = some (.int .i64 a) ∧ W.cell? ⟨wr.heap.size, 1, none⟩ = some (.int .i64 bb) ∧ W.cell? ⟨gW, j * 2, none⟩ = some (.int .i64 c) ∧ W.cell? ⟨gW, j * 2 + 1, none⟩ = some (.int .i64 d)) from fun W h1 h2 =>
        ⟨h1.cells.1, h1.cells.2, (cell_same h2 _).trans q2, (cell_same h2 _).trans q3⟩)
      have hltI : (j : Int) < (n : Int) := by omega
      clear htn hbx
      go_wp2_with fail
      have k0 := K.out _ hxs (bw.block gW hgW5)
      go_region_held3 (fun w' => w'.cell? ⟨wr.heap.size, 0, none⟩ = some (.int .i64 a) ∧ w'.cell? ⟨wr.heap.size, 1, none⟩ = some (.int .i64 bb) ∧ w'.cell? ⟨gW, j * 2, none⟩ = some (.int .i64 c) ∧ w'.cell? ⟨gW, j * 2 + 1, none⟩ = some (.int .i64 d))
        (first | exact k0 | exact k5 | exact K.out _ (hxs.drew.alloc _) (((bw.drew).alloc bw.size (.cells #[.int .i64 0, .int .i64 0] 45)).block gW hgW5) | exact K.out _ ((hxs.alloc _).drew) (((bw).alloc bw.size (.cells #[.int .i64 0, .int .i64 0] 45)).drew.block gW hgW5) | exact K.out _ (hx5.alloc _) ((b5.alloc b5.size (.cells #[.int .i64 0, .int .i64 0] 45)).block gW hgW5) | exact K.out _ (hx5.alloc _) ((b5.alloc b5.size (.cells #[.int .i64 sx, .int .i64 sy] 45)).block gW hgW5) | exact K.out _ ((hx5.far (p := ⟨wr.heap.size + 1, 0, none⟩) (Nat.ne_of_lt (Nat.lt_succ_self _)) _).far (p := ⟨wr.heap.size + 1, 1, none⟩) (Nat.ne_of_lt (Nat.lt_succ_self _)) _) (((b5.setCell (p := ⟨wr.heap.size + 1, 0, none⟩) (Nat.le_succ _) _).setCell (p := ⟨wr.heap.size + 1, 1, none⟩) (Nat.le_succ _) _).block gW hgW5) | go_keep)
        (first
          | (go_at_call 125; ((with_reducible refine (HOFF.out (wr.alloc (.cells #[.int .i64 a, .int .i64 bb] 45)).drew).mono ?_)); rintro e w5 ⟨rfl, hb5⟩; have hx5 := hxs.drew.now hb5; have b5 := bfrom bw.drew hb5; have hw5 := b5.block gW hgW5; have k5 := K.out _ hx5 hw5; have hn5 : True := trivial)
          | (go_at_call 125; ((with_reducible refine (HOFF.out ((wr.alloc (.cells #[.int .i64 a, .int .i64 bb] 45)).drew.alloc (.cells #[.int .i64 0, .int .i64 0] 45))).mono ?_)); rintro e w5 ⟨rfl, hb5⟩; have hx5 := (hxs.drew.alloc (.cells #[.int .i64 0, .int .i64 0] 45)).now hb5; have b5 := bfrom ((bw.drew).alloc bw.size (.cells #[.int .i64 0, .int .i64 0] 45)) hb5; have hw5 := b5.block gW hgW5; have k5 := K.out _ hx5 hw5; have hn5 := (BoxT.new 45 (wr.alloc (.cells #[.int .i64 a, .int .i64 bb] 45)).drew (.int .i64 0) (.int .i64 0)).now hb5; simp only [World.size_alloc, World.size_drew] at hn5; obtain ⟨p0, p1⟩ := hn5.cells; obtain ⟨p2, p3⟩ := frozenY hn5)
          | (go_at_call 125; ((with_reducible refine (HOFF.out ((wr.alloc (.cells #[.int .i64 a, .int .i64 bb] 45)).alloc (.cells #[.int .i64 0, .int .i64 0] 45)).drew).mono ?_)); rintro e w5 ⟨rfl, hb5⟩; have hx5 := (hxs.alloc (.cells #[.int .i64 0, .int .i64 0] 45)).drew.now hb5; have b5 := bfrom ((bw).alloc bw.size (.cells #[.int .i64 0, .int .i64 0] 45)).drew hb5; have hw5 := b5.block gW hgW5; have k5 := K.out _ hx5 hw5; have hn5 := ((BoxT.new 45 (wr.alloc (.cells #[.int .i64 a, .int .i64 bb] 45)) (.int .i64 0) (.int .i64 0)).drew).now hb5; simp only [World.size_alloc] at hn5; obtain ⟨p0, p1⟩ := hn5.cells; obtain ⟨p2, p3⟩ := frozenY hn5))
      all_goals
        clear k0 k5 q0 q1 q2 q3
        try clear p0 p1 p2 p3
        first
        | (have hB7 := box_putY (show BoxT 45 w5 (wr.heap.size + 1) (.int .i64 0) (.int .i64 0) from hn5) (.int .i64 sx) (.int .i64 sy)
           have b6 := (b5.setCell (p := ⟨wr.heap.size + 1, 0, none⟩) (Nat.le_succ _) (.int .i64 sx)).setCell (p := ⟨wr.heap.size + 1, 1, none⟩) (Nat.le_succ _) (.int .i64 sy)
           have hP := Nat.le_succ wr.heap.size
           obtain ⟨w6, hw6⟩ : ∃ w6, w6 = (w5.setCell ⟨wr.heap.size + 1, 0, none⟩ (.int .i64 sx)).setCell ⟨wr.heap.size + 1, 1, none⟩ (.int .i64 sy) := ⟨_, rfl⟩
           rw [← hw6] at hB7 b6 ⊢
           clear hw6
           obtain ⟨p7, hp7⟩ : ∃ p7, p7 = wr.heap.size + 1 := ⟨_, rfl⟩
           rw [← hp7] at hB7 ⊢
           replace hP : wr.heap.size ≤ p7 := by rw [hp7]; exact Nat.le_succ _
           clear hp7)
        | (have hB7 := BoxT.new 45 w5 (.int .i64 sx) (.int .i64 sy)
           have b6 := b5.alloc b5.size (.cells #[.int .i64 sx, .int .i64 sy] 45)
           have hP := b5.size
           obtain ⟨w6, hw6⟩ : ∃ w6, w6 = w5.alloc (.cells #[.int .i64 sx, .int .i64 sy] 45) := ⟨_, rfl⟩
           rw [← hw6] at hB7 b6 ⊢
           clear hw6
           generalize w5.heap.size = p7 at hB7 hP ⊢)
      all_goals
        clear hn5 hx5 hw5 hb5 b5 hxs bw K
        have hp7 := hB7.lt
        have hsz6 := b6.size
        obtain ⟨s, hcs, hor⟩ := HCM.out w6
        have HCS := Lib.hid hcs
        obtain ⟨k0, k1⟩ := hB7.cells
        obtain ⟨f0, f1⟩ := (HBX.out.now b6).cells
        have HB6 := Lib.hid b6
        have HB7 := Lib.hid hB7
        clear hcs
        rcases hor with ⟨hs, hmx⟩ | ⟨hs, hmx⟩
        · have HMX := Lib.hid hmx
          clear hmx
          have hs2 : s > 0 := hs
          go_wp2_with (go_at_call 126; refine HCS.out.mono ?_; rintro e w8 ⟨rfl, hb8⟩; clear k0 k1 f0 f1; obtain ⟨k0, k1⟩ := (HB7.out.now hb8).cells; have hbx8 := (HBX.out.now HB6.out).now hb8; obtain ⟨f0, f1⟩ := hbx8.cells; obtain ⟨f2, f3⟩ := frozenY hbx8)
          have htn8 := ((HT.out.trans (Turn.of_below HB6.out)).trans (Turn.of_below hb8))
          go_roundw
          case rel => exact ⟨j + 1, by omega, by go_num, by rw [HMX.out, ← HSX.out, ← HSY.out]; exact box_putY hbx8 _ _, (htn8.trans (turn_set 0 _)).trans (turn_set 1 _)⟩
          case measure => simp [intOf]; omega
        · have HMX := Lib.hid hmx
          clear hmx
          have hs2 : ¬ s > 0 := by omega
          go_wp2_with (go_at_call 126; refine HCS.out.mono ?_; rintro e w8 ⟨rfl, hb8⟩)
          have hbx8 := (HBX.out.now HB6.out).now hb8
          have htn8 := ((HT.out.trans (Turn.of_below HB6.out)).trans (Turn.of_below hb8))
          go_roundw
          case rel => exact ⟨j + 1, by omega, by go_num, by rw [HMX.out]; exact hbx8, htn8⟩
          case measure => simp [intOf]; omega
    · obtain rfl : j = n := by omega
      obtain ⟨f0, f1⟩ := hbx.cells
      have hr8 := hr3.turn htn (Or.inl (Nat.lt_succ_self _))
      obtain ⟨e0, e1⟩ := hr8.cells
      obtain ⟨e2, e3⟩ := frozenY hr8
      have g8 := Turn.below g3 htn (by omega) (by omega)
      obtain ⟨sx, hsx⟩ : ∃ s, s = (share1 (maxA G j) D).1 := ⟨_, rfl⟩
      obtain ⟨sy, hsy⟩ : ∃ s, s = (share1 (maxA G j) D).2 := ⟨_, rfl⟩
      rw [← hsx] at f0
      rw [← hsy] at f1
      have HSX := Lib.hid hsx
      have HSY := Lib.hid hsy
      clear hbx htn hsx hsy
      go_wp2
      exact bodyPost_ret (v := .agg #[.int .i64 sx, .int .i64 sy]) (by simp [results, Try.results70, go_sem, e0, e1]) rfl ⟨by rw [HSX.out, HSY.out], (g8.setCell (by simp; try omega) _).setCell (by simp; try omega) _⟩
set_option maxRecDepth 20000 in
set_option maxHeartbeats 4000000 in
theorem sFarthest_any (q : Int) (A : Option Addr) (n cap : Nat) (ws : List Int) (w : World) (hm : n ≤ 9223372036854775807) (hk : Known w A n ws) :
    Calls Try.prog 37 #[.agg #[.int .i64 q, .slice A n cap]] w fun e w' => e = .returned (.tuple #[.agg #[.int .i64 (offX q ws n), .int .i64 (offY q ws n)], .bool (offOk q ws n)]) ∧ Below w.heap.size w w' := by
  have HK := Lib.hid hk
  clear hk
  have hb0 : Below w.heap.size w ((w.alloc (.cells #[.int .i64 q, .slice A n cap] 29)).alloc (.cells #[.int .i64 0, .int .i64 0] 45)) := (below1 w _).alloc (by simp) _
  have hx := (Box.new w (.int .i64 q) (.slice A n cap)).alloc (.cells #[.int .i64 0, .int .i64 0] 45)
  have hr := BoxT.new 45 (w.alloc (.cells #[.int .i64 q, .slice A n cap] 29)) (.int .i64 0) (.int .i64 0)
  simp only [World.size_alloc] at hr
  obtain ⟨c0, c1⟩ := hx.cells
  cases hsc : scanB q ws n with
  | false =>
    have HS := Lib.hid hsc
    have HO := Lib.hid (show offOk q ws n = false from by unfold offOk; rw [hsc]; rfl)
    have HX := Lib.hid (show offX q ws n = 0 from by unfold offX; rw [HO.out]; rfl)
    have HY := Lib.hid (show offY q ws n = 0 from by unfold offY; rw [HO.out]; rfl)
    clear hsc
    go_enter Try.func37, Try.ntmps37
    go_wp2_with fail
    refine (shScanned_any q _ n cap ws _ hm (HK.out.now hb0)).mono ?_
    rintro e w1 ⟨rfl, hb1⟩
    rw [HS.out]
    have hr1 := hr.now hb1
    obtain ⟨e0, e1⟩ := hr1.cells
    obtain ⟨e2, e3⟩ := frozenY hr1
    have g1 := bfrom hb0 hb1
    go_wp2
    exact bodyPost_ret (v := .tuple #[.agg #[.int .i64 0, .int .i64 0], .bool false]) (by simp [results, Try.results37, go_sem, e0, e1]) rfl ⟨by rw [HX.out, HY.out, HO.out], (g1.setCell (by simp; try omega) _).setCell (by simp; try omega) _⟩
  | true =>
    have HS := Lib.hid hsc
    obtain ⟨hg, h60⟩ := scanB_parts hsc
    obtain ⟨b, off, rfl, hsl⟩ := HK.out.get hg.lo
    have HSL := Lib.hid hsl
    have HFAR := Lib.hid (fun W h => shFar_any q b off n cap ws W hg h60 h)
    have HS1 := Lib.hid (show share1 (farF q ws n) (parF ws n) = (((offX0 q ws n : Nat) : Int), ((offY0 q ws n : Nat) : Int)) from rfl)
    rw [HS1.out] at HFAR
    have HGD := Lib.hid (show ∀ W, Calls Try.prog 69 #[.agg #[.int .i64 (offX0 q ws n : Nat), .int .i64 (offY0 q ws n : Nat)]] W (fun e w' => e = .returned (.bool (sgB (offX0 q ws n : Nat) (offY0 q ws n : Nat))) ∧ Below W.heap.size W w') from fun W => pwGood_any _ _ W)
    have HOK := Lib.hid (show offOk q ws n = sgB (offX0 q ws n : Nat) (offY0 q ws n : Nat) from by unfold offOk; rw [hsc]; rfl)
    have HX := Lib.hid (show offX q ws n = if offOk q ws n then (offX0 q ws n : Int) else 0 from rfl)
    have HY := Lib.hid (show offY q ws n = if offOk q ws n then (offY0 q ws n : Int) else 0 from rfl)
    clear hsc hg h60 hsl
    generalize offX0 q ws n = x at *
    generalize offY0 q ws n = y at *
    cases hgd : sgB (x : Int) (y : Int) with
    | false =>
      rw [hgd] at HOK HGD
      rw [HOK.out] at HX HY
      clear hgd
      go_enter Try.func37, Try.ntmps37
      go_wp2_with fail
      refine (shScanned_any q _ n cap ws _ hm (HK.out.now hb0)).mono ?_
      rintro e w1 ⟨rfl, hb1⟩
      rw [HS.out]
      have g1 := bfrom hb0 hb1
      clear c0 c1
      obtain ⟨c0, c1⟩ := (hx.now hb1).cells
      go_wp2_with (first
        | (go_at_call 70; refine (HFAR.out _ (HSL.out.now g1)).mono ?_; rintro e w2 ⟨rfl, hb2⟩)
        | (go_at_call 69; refine (HGD.out _).mono ?_; rintro e w3 ⟨rfl, hb3⟩; have hr3 := ((hr.now hb1).now hb2).now hb3; obtain ⟨e0, e1⟩ := hr3.cells; obtain ⟨e2, e3⟩ := frozenY hr3))
      have g3 := bfrom (bfrom g1 hb2) hb3
      exact bodyPost_ret (v := .tuple #[.agg #[.int .i64 0, .int .i64 0], .bool false]) (by simp [results, Try.results37, go_sem, e0, e1]) rfl ⟨by rw [HX.out, HY.out, HOK.out]; rfl, (g3.setCell (by simp; try omega) _).setCell (by simp; try omega) _⟩
    | true =>
      rw [hgd] at HOK HGD
      rw [HOK.out] at HX HY
      clear hgd
      go_enter Try.func37, Try.ntmps37
      go_wp2_with fail
      refine (shScanned_any q _ n cap ws _ hm (HK.out.now hb0)).mono ?_
      rintro e w1 ⟨rfl, hb1⟩
      rw [HS.out]
      have g1 := bfrom hb0 hb1
      clear c0 c1
      obtain ⟨c0, c1⟩ := (hx.now hb1).cells
      go_wp2_with fail
      refine (HFAR.out _ (HSL.out.now g1)).mono ?_
      rintro e w2 ⟨rfl, hb2⟩
      go_wp2_with fail
      refine (HGD.out _).mono ?_
      rintro e w3 ⟨rfl, hb3⟩
      have g3 := bfrom (bfrom g1 hb2) hb3
      clear c0 c1
      obtain ⟨c0, c1⟩ := (((hx.now hb1).now hb2).now hb3).cells
      go_wp2_with fail
      refine (HFAR.out _ (HSL.out.now g3)).mono ?_
      rintro e w4 ⟨rfl, hb4⟩
      have hr4 := (((hr.now hb1).now hb2).now hb3).now hb4
      have g4 := bfrom g3 hb4
      obtain ⟨e0, e1⟩ := hr4.cells
      obtain ⟨e2, e3⟩ := frozenY hr4
      go_wp2
      exact bodyPost_ret (v := .tuple #[.agg #[.int .i64 x, .int .i64 y], .bool true]) (by simp [results, Try.results37, go_sem, e0, e1]) rfl ⟨by rw [HX.out, HY.out, HOK.out]; rfl, (g4.setCell (by simp; try omega) _).setCell (by simp; try omega) _⟩
end Go.Proofs.Ytlnlkfldlgchhab
