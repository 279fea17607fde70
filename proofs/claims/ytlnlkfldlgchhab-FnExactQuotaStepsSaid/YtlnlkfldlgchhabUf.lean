/- The quotas for which the same sets win: both sides. -/
import Derived.Test.YtlnlkfldlgchhabUe
import Derived.Outline
import Derived.OwnWalk
namespace Go.Proofs.Ytlnlkfldlgchhab
open Go.RowKit Vo

theorem rise_count {q : Int} : ∀ {D : List Int}, D.Pairwise (· < ·) → ∀ j, j < D.length → (D.getD j 0 < q ↔ j < D.countP (fun x => decide (x < q)))
  | [], _, j, h => by simp at h
  | a :: D, hp, j, hj => by
    obtain ⟨ha, hD⟩ := List.pairwise_cons.1 hp
    rw [List.countP_cons]
    have hz : ¬ a < q → D.countP (fun x => decide (x < q)) = 0 := fun h => List.countP_eq_zero.2 fun x hx => by
      have := ha x hx
      simp; omega
    cases j with
    | zero =>
      by_cases h : a < q
      · simp [h]
      · simp [h, hz h]
    | succ j =>
      have hj2 : j < D.length := by simpa using hj
      have ih := rise_count hD (q := q) j hj2
      have hm := ha _ (at_mem hj2)
      rw [List.getD_cons_succ]
      by_cases h : a < q
      · rw [ih]; simp [h]
      · rw [hz h] at ih ⊢
        rw [if_neg (by simpa using h)]
        constructor <;> intro h3 <;> omega

def rngF (q : Int) (ws : List Int) (n : Nat) : Nat := (dstL ws n).countP fun x => decide (x < q)
def rngX (q : Int) (ws : List Int) (n : Nat) : Int := if goodB q ws n then (dstL ws n).getD (rngF q ws n - 1) 0 + 1 else 0
def rngY (q : Int) (ws : List Int) (n : Nat) : Int := if goodB q ws n then (dstL ws n).getD (rngF q ws n) 0 else 0
theorem dst_at {ws : List Int} {n : Nat} (hok : InK 0 1000 ws n) : (dstL ws n).length = (posL ws n).length + 1 ∧ (dstL ws n).getD 0 0 = 0 ∧ ∀ j, (posL ws n).getD j 0 = (dstL ws n).getD (j+1) 0 := by
  rw [dst_pos hok]
  exact ⟨rfl, rfl, fun j => rfl⟩
theorem dst_bd {ws : List Int} {n : Nat} (hn : n ≤ 9) (hok : InK 0 1000 ws n) : ∀ j, j < (dstL ws n).length → 0 ≤ (dstL ws n).getD j 0 ∧ (dstL ws n).getD j 0 ≤ sumK ws n ∧ sumK ws n ≤ 9000 := by
  intro j hj
  obtain ⟨s, _, e⟩ := ((dst_facts ws n).2 _).1 (at_mem hj)
  have := wtK_bd (s := s) hok
  have := sumK_bd hok
  rw [← e]
  omega
theorem rng_facts {q : Int} {ws : List Int} {n : Nat} (hg : Vo.Good q ws n) : 1 ≤ rngF q ws n ∧ rngF q ws n < (dstL ws n).length ∧ ∀ j, j < (dstL ws n).length → ((dstL ws n).getD j 0 < q ↔ j < rngF q ws n) := by
  obtain ⟨hl, h0, _⟩ := dst_at hg.ok
  obtain ⟨hp, hm⟩ := dst_facts ws n
  have hc := rise_count hp (q := q)
  refine ⟨?_, ?_, hc⟩
  · have := (hc 0 (by omega)).1 (by rw [h0]; have := hg.q1; omega)
    unfold rngF; omega
  · have : sumK ws n ∈ dstL ws n := (hm _).2 ⟨2^n - 1, by have := Nat.two_pow_pos n; omega, hg.all⟩
    obtain ⟨k, hk, e⟩ := List.mem_iff_getElem.1 this
    have e2 : (dstL ws n).getD k 0 = sumK ws n := by rw [List.getD_eq_getElem?_getD, List.getElem?_eq_getElem hk]; exact e
    have h1 : ¬ (dstL ws n).getD k 0 < q := by rw [e2]; have := hg.q2; omega
    have h2 : ¬ k < rngF q ws n := fun h => h1 ((hc k hk).2 h)
    omega

set_option maxRecDepth 20000 in
set_option maxHeartbeats 4000000 in
theorem sQuotaRange_any (q : Int) (A : Option Addr) (n cap : Nat) (ws : List Int) (w : World) (hm : n ≤ 9223372036854775807) (hk : Known w A n ws) :
    Calls Try.prog 35 #[.agg #[.int .i64 q, .slice A n cap]] w fun e w' =>
      e = .returned (.tuple #[.int .i64 (rngX q ws n), .int .i64 (rngY q ws n), .bool (goodB q ws n)]) ∧ Below w.heap.size w w' := by
  have HK := Lib.hid hk
  clear hk
  have hx := Box.new w (.int .i64 q) (.slice A n cap)
  have hb0 := below1 w (.cells #[.int .i64 q, .slice A n cap] 29)
  by_cases hg : Vo.Good q ws n
  · obtain ⟨b, off, rfl, hsl⟩ := HK.out.get hg.lo
    have HSL := Lib.hid hsl
    have HOK := Lib.hid hg.ok
    have HGB := Lib.hid (goodB_true hg)
    have h1 := hg.lo
    have hn10 : n < 10 := by have := hg.hi; omega
    obtain ⟨hf1, hf2, hf3⟩ := rng_facts hg
    obtain ⟨hdl, hd0, hdp⟩ := dst_at hg.ok
    have hbd := dst_bd hg.hi hg.ok
    have HVX := Lib.hid (show rngX q ws n = (dstL ws n).getD (rngF q ws n - 1) 0 + 1 from by unfold rngX; rw [HGB.out]; rfl)
    have HVY := Lib.hid (show rngY q ws n = (dstL ws n).getD (rngF q ws n) 0 from by unfold rngY; rw [HGB.out]; rfl)
    have hpl := pos_len ws n
    have h512 := pow_lt (n := n) (by omega)
    have HSS := Lib.hid (fun W h => shSums_any q b off n cap ws W h1 hn10 HOK.out h)
    obtain ⟨S, hS⟩ : ∃ S, S = posL ws n := ⟨_, rfl⟩
    rw [← hS] at hdl hdp hpl HSS
    obtain ⟨f, hf⟩ : ∃ f, f = rngF q ws n := ⟨_, rfl⟩
    rw [← hf] at hf1 hf2 hf3 HVX HVY
    obtain ⟨D, hD⟩ : ∃ D, D = dstL ws n := ⟨_, rfl⟩
    rw [← hD] at hdl hd0 hf2 hf3 HVX HVY hbd
    simp only [← hD] at hdp
    obtain ⟨m, hm1⟩ : ∃ m, m = S.length := ⟨_, rfl⟩
    rw [← hm1] at hdl hpl HSS
    rw [hdl] at hf2 hf3 hbd
    have HM := Lib.hid hm1
    have HF3 := Lib.hid hf3
    have HDP := Lib.hid hdp
    have HBD := Lib.hid hbd
    have HD0 := Lib.hid hd0
    clear hg hsl hm1 hS hf hD hdl hd0 hf3 hdp hbd
    go_enter Try.func35, Try.ntmps35
    go_wp2_with fail
    refine (voGood_any q _ n cap ws _ hm (HK.out.now hb0)).mono ?_
    rintro e w1 ⟨rfl, hb⟩
    rw [HGB.out]
    have g1 := bfrom hb0 hb
    have hs1 := Lib.hid (HSL.out.now g1)
    obtain ⟨hc0, hc1⟩ := (hx.now hb).cells
    go_wp2_with (go_at_call 63; refine (HSS.out _ hs1.out).mono ?_; rintro e w2 ⟨C, c, rfl, hown, hb2⟩)
    obtain ⟨g, c', hv, hg2, _, _⟩ := owns_head hown (by omega)
    obtain ⟨rfl, rfl⟩ : C = some ⟨g, 0, none⟩ ∧ c = c' := by simpa using hv
    have HC := Lib.hid (show ∀ j, j < m → w2.cell? ⟨g, j, none⟩ = some (.int .i64 (D.getD (j+1) 0)) from fun j hj => by
      rw [← HDP.out]
      exact (show Own w2 g 3 m (fun i => .int .i64 (S.getD i 0)) from Own.of_own hown fun i hi => by
        have : i < S.length := by rw [← HM.out]; exact hi
        simp [intsV, List.getD_eq_getElem?_getD, this]).cell hj)
    clear hc0 hc1
    obtain ⟨hc0, hc1⟩ := ((hx.now hb).now hb2).cells
    clear hown hv hc1
    go_loop [5, 14] (fun lo i => ∃ j : Nat, j ≤ m ∧ j < f ∧ i = .int .i64 j ∧ lo = .int .i64 (D.getD j 0 + 1)) (fun _ i => m - (intOf i).toNat)
    case atStart => exact ⟨0, Nat.zero_le _, by omega, rfl, by rw [HD0.out, Int.zero_add]⟩
    case round =>
      obtain ⟨j, hj, hjf, rfl, rfl⟩ := hrel
      have hlt : j < m := by omega
      have hcell := HC.out j hlt
      have hbx := HBD.out (j+1) (by omega)
      have hfx := HF3.out (j+1) (by omega)
      have HLO := Lib.hid (show j + 1 = f → D.getD j 0 = D.getD (f-1) 0 from fun e => by rw [← e]; rfl)
      obtain ⟨lo, hlo⟩ : ∃ lo, lo = D.getD j 0 + 1 := ⟨_, rfl⟩
      rw [← hlo]
      have HLE := Lib.hid hlo
      obtain ⟨x, hx5⟩ : ∃ x, x = D.getD (j+1) 0 := ⟨_, rfl⟩
      rw [← hx5] at hcell hbx hfx
      have HX := Lib.hid hx5
      clear hlo hx5
      by_cases hq : x < q
      · have hjf2 : j + 1 < f := hfx.1 hq
        clear hfx
        go_wp2
        go_round
        case rel => exact ⟨j + 1, by omega, hjf2, by go_num, by rw [← HX.out]⟩
        case measure => simp [intOf]; omega
      · have hjf2 : ¬ j + 1 < f := fun h => hq (hfx.2 h)
        have HFE := Lib.hid (show j + 1 = f by omega)
        clear hfx
        go_wp2
        go_ret3
        exact ⟨by rw [HVX.out, HVY.out, HGB.out, ← HLO.out HFE.out, ← HLE.out, ← HFE.out, ← HX.out]; rfl, bfrom g1 hb2⟩
  · have HGB := Lib.hid (goodB_false hg)
    clear hg
    go_enter Try.func35, Try.ntmps35
    go_wp2_with fail
    refine (voGood_any q A n cap ws _ hm (HK.out.now hb0)).mono ?_
    rintro e w1 ⟨rfl, hb⟩
    rw [HGB.out]
    go_wp2
    go_ret3
    exact ⟨by rw [show rngX q ws n = 0 from by unfold rngX; rw [HGB.out]; rfl, show rngY q ws n = 0 from by unfold rngY; rw [HGB.out]; rfl, HGB.out]; rfl, bfrom hb0 hb⟩
set_option maxRecDepth 20000 in
set_option maxHeartbeats 4000000 in
theorem quotaRange_any (q : Int) (A : Option Addr) (n cap : Nat) (ws : List Int) (w : World) (hm : n ≤ 9223372036854775807) (hk : Known w A n ws) :
    Calls Try.prog 36 #[.agg #[.int .i64 q, .slice A n cap]] w fun e w' =>
      e = .returned (.tuple #[.int .i64 (rngX q ws n), .int .i64 (rngY q ws n), .bool (goodB q ws n)]) ∧ Below w.heap.size w w' := by
  have HK := Lib.hid hk
  clear hk
  have hx := Box.new w (.int .i64 q) (.slice A n cap)
  have hb0 := below1 w (.cells #[.int .i64 q, .slice A n cap] 29)
  by_cases hg : Vo.Good q ws n
  · obtain ⟨b, off, rfl, hsl⟩ := HK.out.get hg.lo
    have HSL := Lib.hid hsl
    have HOK := Lib.hid hg.ok
    have HGB := Lib.hid (goodB_true hg)
    have h1 := hg.lo
    have hn10 : n < 10 := by have := hg.hi; omega
    obtain ⟨hf1, hf2, hf3⟩ := rng_facts hg
    obtain ⟨hdl, hd0, hdp⟩ := dst_at hg.ok
    have hbd := dst_bd hg.hi hg.ok
    have HVX := Lib.hid (show rngX q ws n = (dstL ws n).getD (rngF q ws n - 1) 0 + 1 from by unfold rngX; rw [HGB.out]; rfl)
    have HVY := Lib.hid (show rngY q ws n = (dstL ws n).getD (rngF q ws n) 0 from by unfold rngY; rw [HGB.out]; rfl)
    have hpl := dst_len (ws := ws) (n := n)
    have h512 := pow_lt (n := n) (by omega)
    have HSS := Lib.hid (fun W h => sums_any q b off n cap ws W h1 hn10 HOK.out h)
    have HRI := Lib.hid ((dst_facts ws n).1.imp (S := fun x y => x ≤ y) (fun h => Int.le_of_lt h))
    obtain ⟨f, hf⟩ : ∃ f, f = rngF q ws n := ⟨_, rfl⟩
    have HFC := Lib.hid (show (dstL ws n).countP (fun x => decide (x < q)) = f from hf.symm)
    rw [← hf] at hf1 hf2 hf3 HVX HVY
    obtain ⟨D, hD⟩ : ∃ D, D = dstL ws n := ⟨_, rfl⟩
    rw [← hD] at hpl HSS HRI HFC hf2 HVX HVY hbd
    obtain ⟨m, hm1⟩ : ∃ m, m = D.length := ⟨_, rfl⟩
    rw [← hm1] at hpl HSS hf2 hbd
    have HM := Lib.hid hm1
    obtain ⟨k, rfl⟩ : ∃ k, f = k + 1 := ⟨f - 1, by omega⟩
    have HBD := Lib.hid (hbd k (by omega))
    rw [Nat.add_sub_cancel] at HVX
    obtain ⟨x, hx5⟩ : ∃ x, x = D.getD k 0 := ⟨_, rfl⟩
    obtain ⟨y, hy5⟩ : ∃ y, y = D.getD (k+1) 0 := ⟨_, rfl⟩
    rw [← hx5] at HVX HBD
    rw [← hy5] at HVY
    have HX := Lib.hid hx5
    have HY := Lib.hid hy5
    clear hg hsl hm1 hf hD hf3 hbd hx5 hy5 hdl hd0 hdp
    go_enter Try.func36, Try.ntmps36
    go_wp2_with fail
    refine (isCommittee_any q _ n cap ws _ hm (HK.out.now hb0)).mono ?_
    rintro e w1 ⟨rfl, hb⟩
    rw [HGB.out]
    have g1 := bfrom hb0 hb
    have hs1 := Lib.hid (HSL.out.now g1)
    obtain ⟨hc0, hc1⟩ := (hx.now hb).cells
    go_wp2_with (go_at_call 65; refine (HSS.out _ hs1.out).mono ?_; rintro e w2 ⟨g, c, rfl, hown, hb2⟩; obtain ⟨hc0, hc1⟩ := ((hx.now hb).now hb2).cells)
    have hO : Own w2 g 3 m (fun i => .int .i64 (D.getD i 0)) := Own.of_own hown fun i hi => by
      have : i < D.length := by rw [← HM.out]; exact hi
      simp [intsV, List.getD_eq_getElem?_getD, this]
    have HO := Lib.hid hO
    have hgl := hO.lt
    have hp1 := hO.cell (i := k) (by omega)
    have hp2 := hO.cell (i := k + 1) (by omega)
    simp only [← HX.out, ← HY.out] at hp1 hp2
    obtain ⟨hb1, hb2', hb3'⟩ := HBD.out
    clear hown hO
    go_wp2_with (first
      | (go_at_call 67; refine (Any.slices_BinarySearch_int Try.searchI g 0 m c D q _ (by rw [HM.out]; exact Nat.le_refl _) (by omega) (fun j hj => by rw [Nat.zero_add]; exact HO.out.cell (by rw [HM.out]; exact hj)) (by rw [HM.out, List.take_length]; exact HRI.out)).mono ?_; rintro e w3 ⟨rfl, dr, rfl⟩; rw [HM.out, List.take_length, HFC.out]; rw [← HM.out]))
    go_quiet (fail)
    go_wp2
    go_ret3
    exact ⟨by rw [HVX.out, HVY.out, HGB.out]; rfl, below_drewN (below_drewN (bfrom g1 hb2) _) _⟩
  · have HGB := Lib.hid (goodB_false hg)
    clear hg
    go_enter Try.func36, Try.ntmps36
    go_wp2_with fail
    refine (isCommittee_any q A n cap ws _ hm (HK.out.now hb0)).mono ?_
    rintro e w1 ⟨rfl, hb⟩
    rw [HGB.out]
    go_wp2
    go_ret3
    exact ⟨by rw [show rngX q ws n = 0 from by unfold rngX; rw [HGB.out]; rfl, show rngY q ws n = 0 from by unfold rngY; rw [HGB.out]; rfl, HGB.out]; rfl, bfrom hb0 hb⟩
end Go.Proofs.Ytlnlkfldlgchhab
