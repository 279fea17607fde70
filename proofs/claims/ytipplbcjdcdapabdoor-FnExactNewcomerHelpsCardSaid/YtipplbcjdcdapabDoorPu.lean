/- Contracts of the model's unGain, unSwings, unPivots; the program's gain by pivots. -/
import Derived.Test.YtipplbcjdcdapabDoorPv
import Derived.Test.YtipplbcjdcdapabDoorQ0
import Derived.Deep.RegionHeld3
import Derived.Outline
namespace Go.Proofs.YtipplbcjdcdapabDoor
open Go.RowKit Vo

/-- What the members of a list have together. -/
def setN (f : Nat → Nat) (xs : List Int) (m : Nat) : Nat := sumN (fun j => f (xs.getD j 0).toNat) m

set_option maxHeartbeats 400000 in
theorem unGain_any (a b x y : Nat) (w : World) (ha : a ≤ 1000000) (hb : b ≤ 1000000) (hx : x ≤ 1000000) (hy : y ≤ 1000000) :
    Calls Tryd.prog 17 #[.int .i64 a, .int .i64 b, .int .i64 x, .int .i64 y] w fun e w' => e = .returned (.int .i64 (sgn ((x : Int) * b - (a : Int) * y))) ∧ w = w' := by
  have h1 := Nat.mul_le_mul hx hb
  have h2 := Nat.mul_le_mul ha hy
  have e1 : ((x : Int) * b) = ((x * b : Nat) : Int) := by simp
  have e2 : ((a : Int) * y) = ((a * y : Nat) : Int) := by simp
  have HW := Lib.hid (show wrap64 (wrap64 ((x : Int) * b) - wrap64 ((a : Int) * y)) = (x : Int) * b - (a : Int) * y from by
    rw [e1, e2]
    generalize x * b = u at *
    generalize a * y = v at *
    rw [IntWalk.wrap64_in (u : Int) (by omega), IntWalk.wrap64_in (v : Int) (by omega), IntWalk.wrap64_in _ (by omega)])
  clear h1 h2 e1 e2
  go_enter Tryd.func17, Tryd.ntmps17
  go_wp2_with (go_at_call 32; rw [HW.out]; refine (l1Sign_any ((x : Int) * b - (a : Int) * y) _).mono ?_; rintro e w1 ⟨rfl, rfl⟩)
  go_ret
  exact ⟨rfl, rfl⟩

set_option maxRecDepth 20000 in
set_option maxHeartbeats 2000000 in
theorem unSwings_any (q : Int) (A : Option Addr) (n cap : Nat) (ws : List Int) (b2 off2 m cap2 : Nat) (xs : List Int) (w : World) (hg : Vo.Good q ws n) (hk : Known w A n ws) (hm : m ≤ 9) (hs2 : Sl w b2 off2 m xs) (hxs : ∀ j, j < m → 0 ≤ xs.getD j 0 ∧ xs.getD j 0 < n) :
    Calls Tryd.prog 15 #[.agg #[.int .i64 q, .slice A n cap], .slice (some ⟨b2, off2, none⟩) m cap2] w fun e w' => e = .returned (.tuple #[.int .i64 (setN (swingN q ws n) xs m : Nat), .int .i64 (swS q ws n : Nat)]) ∧ Below w.heap.size w w' := by
  obtain ⟨b, off, rfl, hsl⟩ := hk.get hg.lo
  have HSL := Lib.hid hsl
  have HS2 := Lib.hid hs2
  have HXS := Lib.hid hxs
  have hn9 := hg.hi
  have hn1 := hg.lo
  have hn10 : n < 10 := by omega
  have HV := Lib.hid (fun W (h : Sl W b off n ws) => voWins_any q b off n cap ws W hn10 hg.ok h)
  unfold WinsAt at HV
  have HC1 := Lib.hid (fun g cap2 W (h : WinsIn (winB q ws n) n g W) => (show Calls Tryd.prog 28 #[.slice (some ⟨g, 0, none⟩) (2^n : Nat) cap2, .int .i64 n] W fun e w' => IntsAt (perL (swingN q ws n) n) W w' e from pwCounts_any (winB q ws n) n g cap2 W hn10 h))
  have HLN := Lib.hid (fun (f : Nat → Nat) => perL_len f n)
  have HB5 := Lib.hid (fun k => swingN_le q ws n k hn9)
  have HSUM := Lib.hid (show sumK (perL (swingN q ws n) n) n = ((swS q ws n : Nat) : Int) from sumK_per _ (Nat.le_refl _))
  have HIN := Lib.hid (show InK 0 1000 (perL (swingN q ws n) n) n from InK.up (perL_in _ (fun k => swingN_le q ws n k hn9)) (by omega))
  obtain ⟨S, hS⟩ : ∃ S, S = swS q ws n := ⟨_, rfl⟩
  rw [← hS] at HSUM ⊢
  obtain ⟨f, hf⟩ : ∃ f, f = swingN q ws n := ⟨_, rfl⟩
  rw [← hf] at HC1 HB5 HSUM HIN ⊢
  obtain ⟨p, hp⟩ : ∃ p, p = winB q ws n := ⟨_, rfl⟩
  rw [← hp] at HV HC1
  unfold WinsIn at HC1
  obtain ⟨N, hN⟩ : ∃ N, N = 2^n := ⟨_, rfl⟩
  rw [← hN] at HV HC1
  have HB := Lib.hid (show ∀ k, k ≤ m → setN f xs k ≤ 512 * k from fun k _ => sumN_le fun j _ => HB5.out _)
  clear hg hsl hf hp hN hs2 hxs hk hS
  have hb0 := below1 w (.cells #[.int .i64 q, .slice (some ⟨b, off, none⟩) n cap] 28)
  have hx1 := Box.new w (.int .i64 q) (.slice (some ⟨b, off, none⟩) n cap)
  have hs1 := Lib.hid (HSL.out.now hb0)
  obtain ⟨w1, hw1⟩ : ∃ w1, w1 = w.alloc (.cells #[.int .i64 q, .slice (some ⟨b, off, none⟩) n cap] 28) := ⟨_, rfl⟩
  have HWW := Lib.hid hw1
  rw [← hw1] at hb0 hx1 hs1
  clear hw1
  go_enter Tryd.func15, Tryd.ntmps15
  go_wp2_with fail
  rw [← HWW.out]
  go_region_held3 (fun w' => w'.cell? ⟨w.heap.size, 0, none⟩ = some (.int .i64 q) ∧ w'.cell? ⟨w.heap.size, 1, none⟩ = some (.slice (some ⟨b, off, none⟩) n cap))
    (first | exact hd | exact hd2 | exact hx1.cells | go_keep)
    (first
      | (go_at_call 28; refine (HC1.out gA capA _ HOA.out).mono ?_; rintro e w3 ⟨A3, cap3, rfl, hown3, hb3⟩; have HO3 := Lib.hid hown3; clear hown3; have hx3 := hx2.now hb3; have hd2 := hx3.cells)
      | (go_at_call 29; refine (HV.out _ hs1.out.drew).mono ?_; rintro e w2 ⟨gA, capA, rfl, _, hownA, hb2⟩; have HOA := Lib.hid hownA; clear hownA; have hx2 := hx1.drew.now hb2; have hd := hx2.cells)
      | fail)
  all_goals
    simp only [HLN.out]
    have g3 := bfrom (bfrom hb0.drew hb2) hb3
    have h3 := HO3.out
    rw [HLN.out] at h3
    obtain ⟨gC, rfl, hgC, hcC⟩ := row_reads f h3 hn1 (fun k hk => owns_lt h3 hk)
    have HSC := Lib.hid (show Sl w3 gC 0 n (perL f n) from ⟨hgC, fun j hj => by rw [Nat.zero_add, hcC w3 (Below.refl _ _) j hj, perL_get hj]⟩)
    have HCC := Lib.hid (fun z (hz : z < n) => hcC w3 (Below.refl _ _) z hz)
    have HXC := Lib.hid (HS2.out.now g3)
    clear h3 hcC hd hd2
    go_wp2
    go_loopw [7, 9, 18] (fun t _ k wr => ∃ z : Nat, z ≤ m ∧ k = .int .i64 z ∧ t = .int .i64 (setN f xs z : Nat) ∧ wr = w3) (fun _ _ k _ => m - (intOf k).toNat)
    case atStart => exact ⟨0, Nat.zero_le _, rfl, rfl, rfl⟩
    case round =>
      obtain ⟨z, hz, rfl, rfl, rfl⟩ := hrel
      have hsb := HB.out z hz
      by_cases hlt : z < m
      · have cx := HXC.out.cell z hlt
        have hxb := HXS.out z hlt
        have HSS := Lib.hid (show setN f xs (z+1) = setN f xs z + f (xs.getD z 0).toNat from rfl)
        obtain ⟨x, hx⟩ : ∃ x : Nat, xs.getD z 0 = x := ⟨(xs.getD z 0).toNat, by omega⟩
        rw [hx] at cx hxb HSS
        rw [Int.toNat_natCast] at HSS
        have hxn : x < n := by omega
        have hxi : (x : Int) < n := by omega
        have cC := HCC.out x hxn
        have h5 := HB5.out x
        obtain ⟨a, ha⟩ : ∃ a, a = f x := ⟨_, rfl⟩
        rw [← ha] at cC h5 HSS
        obtain ⟨t, ht⟩ : ∃ t, t = setN f xs z := ⟨_, rfl⟩
        rw [← ht] at hsb HSS ⊢
        clear ha ht hx hxb
        go_wp2
        go_roundw
        case rel => exact ⟨z + 1, by omega, by go_num, by rw [HSS.out]; go_num, by first | rfl | trivial⟩
        case measure => simp [intOf]; omega
      · obtain rfl : z = m := by omega
        go_wp2_with (go_at_call 30; refine (voSum_any gC 0 n cap3 (perL f n) _ hn10 HIN.out HSC.out).mono ?_; rintro e w5 ⟨rfl, rfl⟩; rw [HSUM.out])
        go_ret2
        exact ⟨rfl, g3⟩
end Go.Proofs.YtipplbcjdcdapabDoor

namespace Go.Proofs.YtipplbcjdcdapabDoor
open Go.RowKit Vo

theorem setN_one (f : Nat → Nat) (i : Nat) : setN f [(i : Int)] 1 = f i := by simp [setN, sumN]
theorem setN_two (f : Nat → Nat) (i j : Nat) : setN f [(i : Int), (j : Int)] 2 = f i + f j := by simp [setN, sumN]
/-- A literal of one integer, of two. -/
theorem lit1_sl (w : World) (x : Int) : Sl (w.alloc (.cells #[.int .i64 x] 3)) w.heap.size 0 1 [x] :=
  ⟨by simp, fun j hj => by
    have e : j = 0 := by omega
    subst e
    exact (Box1.new 3 w (.int .i64 x)).cell⟩
theorem lit2_sl (w : World) (x y : Int) : Sl (w.alloc (.cells #[.int .i64 x, .int .i64 y] 3)) w.heap.size 0 2 [x, y] :=
  ⟨by simp, fun j hj => by
    have h := (BoxT.new 3 w (.int .i64 x) (.int .i64 y)).cells
    rcases j with _ | _ | j
    · exact h.1
    · exact h.2
    · omega⟩
theorem one_in {i n : Nat} (h : i < n) : ∀ j, j < 1 → 0 ≤ ([(i : Int)]).getD j 0 ∧ ([(i : Int)]).getD j 0 < n := fun j hj => by
  have e : j = 0 := by omega
  subst e
  show (0 : Int) ≤ (i : Int) ∧ (i : Int) < n
  omega
theorem two_in {i k n : Nat} (h : i < n) (h' : k < n) : ∀ j, j < 2 → 0 ≤ ([(i : Int), (k : Int)]).getD j 0 ∧ ([(i : Int), (k : Int)]).getD j 0 < n := fun j hj => by
  rcases j with _ | _ | j
  · show (0 : Int) ≤ (i : Int) ∧ (i : Int) < n; omega
  · show (0 : Int) ≤ (k : Int) ∧ (k : Int) < n; omega
  · omega
end Go.Proofs.YtipplbcjdcdapabDoor

namespace Go.Proofs.YtipplbcjdcdapabDoor
open Go.RowKit Vo

set_option maxHeartbeats 400000 in
theorem voSumB_any (b off n cap : Nat) (ws : List Int) (w : World) (hn : n < 10) (hok : InK 0 100000000000000 ws n) (hsl : Sl w b off n ws) :
    Calls Tryd.prog 30 #[.slice (some ⟨b, off, none⟩) n cap] w fun e w' => e = .returned (.int .i64 (sumK ws n)) ∧ w = w' := by
  have HSL := Lib.hid hsl
  have HOK := Lib.hid hok
  clear hsl hok
  have hlt0 := HSL.out.lt
  go_enter Tryd.func30, Tryd.ntmps30
  go_wp2
  go_loop [3, 8] (fun t i => ∃ k : Nat, k ≤ n ∧ i = .int .i64 k ∧ t = .int .i64 (sumK ws k)) (fun _ i => n - (intOf i).toNat)
  case atStart => exact ⟨0, Nat.zero_le _, rfl, rfl⟩
  case round =>
    obtain ⟨k, hk, rfl, rfl⟩ := hrel
    have s0 := sumK_bd2 (InK.mono HOK.out hk)
    by_cases hlt : k < n
    · have w1 := HOK.out k hlt
      have hcell : w.cell? ⟨b, off + k, none⟩ = some (.int .i64 (ws.getD k 0)) := HSL.out.cell k hlt
      have HS := Lib.hid (show sumK ws (k+1) = sumK ws k + ws.getD k 0 from rfl)
      generalize ws.getD k 0 = x at *
      generalize sumK ws k = t at *
      go_wp2
      go_round
      case rel => exact ⟨k + 1, by omega, by go_num, by rw [HS.out]⟩
      case measure => simp [intOf]; omega
    · obtain rfl : k = n := by omega
      go_wp2
      go_ret
      exact ⟨rfl, rfl⟩
/-- All pivots together. -/
def pivS (q : Int) (ws : List Int) (n : Nat) : Nat := sumN (pivotN q ws n) n
theorem pivP_le {q : Int} {ws : List Int} {n : Nat} (hn : n ≤ 9) (k : Nat) : pivotN q ws n k ≤ 100000000000000 := by
  have h := pivN_le (p := winB q ws n) (n := n) (k := k) (N := 2^n) hn (pow_lt hn)
  have e : pivotN q ws n k = pivN (winB q ws n) n k (2^n) := rfl
  rw [e]; omega

theorem sumN_at {f : Nat → Nat} {n k : Nat} (h : k < n) : f k ≤ sumN f n := by
  induction n with
  | zero => omega
  | succ n ih =>
    simp only [sumN]
    by_cases e : k = n
    · subst e; omega
    · have := ih (by omega); omega
theorem fact_few {n : Nat} (h : n ≤ 9) : 1 ≤ fact n ∧ fact n ≤ 362880 := by
  have H : ∀ k : Fin 10, 1 ≤ fact k.val ∧ fact k.val ≤ 362880 := by decide
  exact H ⟨n, by omega⟩
theorem pivS_good {q : Int} {ws : List Int} {n : Nat} (hg : Vo.Good q ws n) : pivS q ws n = fact n := pivots_good hg
theorem part_pivots {q : Int} {ws : List Int} {n s : Nat} (hg : Vo.Good q ws n) (hs : s < 512) : Part (perL (pivotN q ws n) n) s (partN (pivotN q ws n) s n) (pivS q ws n) where
  len := by rw [perL_len]; have := hg.hi; omega
  set := hs
  ok := by
    rw [perL_len]
    intro j hj
    rw [perL_get hj]
    have h1 := sumN_at (f := pivotN q ws n) hj
    have h2 : sumN (pivotN q ws n) n = fact n := pivS_good hg
    have h3 := (fact_few hg.hi).2
    omega
  own := by rw [perL_len]; exact wtK_per _ _ (Nat.le_refl _)
  all := by rw [perL_len]; exact sumK_per _ (Nat.le_refl _)
  le := partN_le _ _ _
  one := by rw [pivS_good hg]; exact (fact_few hg.hi).1
  few := by rw [pivS_good hg]; have := (fact_few hg.hi).2; omega
/-- What a party gains by OrderPowers. -/
def gainP (q : Int) (ws : List Int) (n s : Nat) (q' : Int) (ws' : List Int) (n' s' : Nat) : Int := sgn ((partN (pivotN q' ws' n') s' n' : Int) * pivS q ws n - (partN (pivotN q ws n) s n : Int) * pivS q' ws' n')
end Go.Proofs.YtipplbcjdcdapabDoor
