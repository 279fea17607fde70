/- Contracts of the model's sets, games and swings of chambers. -/
import Derived.Test.YtkckefjpkhjeaaaBj
import Derived.Test.YtkckefjpkhjeaaaBg
import Derived.Test.YtkckefjpkhjeaaaA5
import Derived.Test.YtkckefjpkhjeaaaN4
import Derived.Deep.RegionHeld3
import Derived.Outline
namespace Go.Proofs.Ytkckefjpkhjeaaa
open Go.RowKit Vo

theorem chP_allP {C : List (Int × List Int)} {n : Nat} (h : C.length = n) : chP true C n = allP C := by
  funext s
  rw [chP_all, allP, h]
theorem chP_someP {C : List (Int × List Int)} {n : Nat} (h : C.length = n) : chP false C n = someP C := by
  funext s
  rw [chP_some, someP, h]
theorem cellf2k {w : World} {p q r : Addr} {v u1 u2 : Value} (h : w.cell? p = some v) (h1 : p.block ≠ q.block) (h2 : p.block ≠ r.block) : ((w.setCell q u1).setCell r u2).cell? p = some v := by
  rw [World.cell?_of_block (w := w) ((Below.heap_setCell _ r u2 p.block h2).trans (Below.heap_setCell _ q u1 p.block h1))]
  exact h
/-- Are there chambers and a set? -/
def chSetB (C : List (Int × List Int)) (xs : List Int) (m : Nat) : Bool := chB C && riseB (nAt C 0) xs m

set_option maxRecDepth 20000 in
set_option maxHeartbeats 1000000 in
theorem chSet_any (A : Option Addr) (n cp : Nat) (C : List (Int × List Int)) (b2 off2 m cap2 : Nat) (xs : List Int) (w : World) (hm : n ≤ 9223372036854775807) (hk : KCS w A n C) (hm2 : m ≤ 9223372036854775807) (hs : Sl w b2 off2 m xs) :
    Calls Try.prog 65 #[.slice A n cp, .slice (some ⟨b2, off2, none⟩) m cap2] w fun e w' => e = .returned (.bool (chSetB C xs m)) ∧ Below w.heap.size w w' := by
  have hlen := hk.1
  have HK := Lib.hid hk
  have HS := Lib.hid hs
  clear hk hs
  cases hc : chB C with
  | false =>
    have HC := Lib.hid hc
    have HR := Lib.hid (show chSetB C xs m = false from by unfold chSetB; rw [hc]; rfl)
    clear hc hlen
    go_enter Try.func65, Try.ntmps65
    go_wp2_with (first | (go_at_call 60; refine (chGood_any A n cp C _ hm HK.out).mono ?_; rintro e w1 ⟨rfl, hb1⟩; rw [HC.out]) | fail)
    go_ret
    exact ⟨by rw [HR.out]; rfl, hb1⟩
  | true =>
    obtain ⟨h1, h4, hgood⟩ := chB_parts hc
    have h9 : nAt C 0 < 10 := by have := (hgood 0 (by omega)).1.hi; omega
    have HC := Lib.hid hc
    have HR := Lib.hid (show chSetB C xs m = riseB (nAt C 0) xs m from by unfold chSetB; rw [hc]; rfl)
    have hn1 : 0 < n := by omega
    have h0n : (0 : Int) < (n : Int) := by omega
    have HROW := Lib.hid (show ∀ W, Below w.heap.size w W → ∃ b off A' cap, A = some ⟨b, off, none⟩ ∧ W.cell? ⟨b, off + 1, none⟩ = some (.slice A' (nAt C 0) cap) from fun W hb => by
      obtain ⟨_, b, off, hA, hrow⟩ := HK.out.now hb
      obtain ⟨rfl, _⟩ := hA (by omega)
      obtain ⟨A', cap, _, c1, _⟩ := hrow 0 hn1
      simp only [Nat.zero_mul, Nat.add_zero] at c1
      exact ⟨b, off, A', cap, rfl, c1⟩)
    obtain ⟨b, off, _, _, rfl, _⟩ := HROW.out w (Below.refl _ _)
    clear hc hgood h1 h4 hlen
    generalize nAt C 0 = m0 at *
    go_enter Try.func65, Try.ntmps65
    go_wp2_with (first
      | (go_at_call 60; refine (chGood_any _ n cp C _ hm HK.out).mono ?_; rintro e w1 ⟨rfl, hb1⟩; rw [HC.out]; obtain ⟨b', off', A', cap', hA', c1⟩ := HROW.out w1 hb1; injection hA' with hA'; injection hA' with e1 e2; subst e1 e2)
      | (go_at_call 99; refine (voSet_any m0 b2 off2 m cap2 xs _ h9 hm2 (HS.out.now hb1)).mono ?_; rintro e w2 ⟨rfl, rfl⟩)
      | fail)
    go_ret
    exact ⟨by rw [HR.out]; simp, hb1⟩

set_option maxRecDepth 20000 in
set_option maxHeartbeats 1000000 in
theorem sWinsAll_any (b off n : Nat) (C : List (Int × List Int)) (b2 off2 m cap2 : Nat) (xs : List Int) (w : World) (hm : n ≤ 9223372036854775807) (hk : KCS w (some ⟨b, off, none⟩) n C) (hm2 : m ≤ 9223372036854775807) (hs : Sl w b2 off2 m xs) :
    Calls Try.prog 20 #[.slice (some ⟨b, off, none⟩) n n, .slice (some ⟨b2, off2, none⟩) m cap2] w fun e w' => e = .returned (.tuple #[.bool (chSetB C xs m && allP C (ofK xs m)), .bool (chSetB C xs m)]) ∧ Below w.heap.size w w' := by
  have HLEN := Lib.hid hk.1
  have HK := Lib.hid hk
  have HS := Lib.hid hs
  clear hk hs
  cases hc : chSetB C xs m with
  | false =>
    have HC := Lib.hid hc
    clear hc
    go_enter Try.func20, Try.ntmps20
    go_wp2_with fail
    refine (chSet_any _ n n C b2 off2 m cap2 xs _ hm HK.out hm2 HS.out).mono ?_
    rintro e w1 ⟨rfl, hb1⟩
    rw [HC.out]
    go_wp2
    go_ret2
    exact ⟨rfl, hb1⟩
  | true =>
    obtain ⟨hcb, hri⟩ : chB C = true ∧ riseB (nAt C 0) xs m = true := by unfold chSetB at hc; simpa using hc
    obtain ⟨h1, _, hgood⟩ := chB_parts hcb
    have h9 : nAt C 0 < 10 := by have := (hgood 0 (by omega)).1.hi; omega
    have h512 := pow_lt (n := nAt C 0) (by omega)
    have hrk : RiseK (nAt C 0) xs m := of_decide_eq_true hri
    have HRK := Lib.hid hrk
    have hlt := ofK_lt hrk
    have HC := Lib.hid hc
    have HCB := Lib.hid hcb
    have HT := Lib.hid (fun W (hb : Below w.heap.size w W) => chAll_any true b off n C W hm (HK.out.now hb) hcb)
    simp only [TableAt, chP_allP HLEN.out] at HT
    clear hc hcb hri h1 hgood hrk
    obtain ⟨N, hN⟩ : ∃ z, z = 2 ^ nAt C 0 := ⟨_, rfl⟩
    rw [← hN] at h512 hlt
    simp only [← hN] at HT
    clear hN
    obtain ⟨s, hsv⟩ : ∃ z, z = ofK xs m := ⟨_, rfl⟩
    rw [← hsv] at hlt ⊢
    have HSV := Lib.hid hsv
    clear hsv
    obtain ⟨r, hr⟩ : ∃ z, z = allP C s := ⟨_, rfl⟩
    rw [← hr]
    have HRV := Lib.hid hr
    clear hr
    have hlt' : (s : Int) < (N : Int) := by omega
    go_enter Try.func20, Try.ntmps20
    go_wp2_with fail
    refine (chSet_any _ n n C b2 off2 m cap2 xs _ hm HK.out hm2 HS.out).mono ?_
    rintro e w1 ⟨rfl, hb1⟩
    rw [HC.out]
    go_wp2_with (first
      | (go_at_call 66; refine (HT.out _ hb1).mono ?_; rintro e w2 ⟨g, cp, rfl, hg, hown, hb2⟩; have HO := Lib.hid hown; clear hown; have hcell := HO.out.cell hlt; rw [← HRV.out] at hcell)
      | (go_at_call 67; refine (voBits_any (nAt C 0) b2 off2 m cap2 xs _ h9 hm2 HRK.out (HS.out.now (bfrom hb1 hb2))).mono ?_; rintro e w3 ⟨rfl, rfl⟩; rw [← HSV.out])
      | fail)
    go_ret2
    exact ⟨by simp, bfrom hb1 hb2⟩

set_option maxRecDepth 20000 in
set_option maxHeartbeats 4000000 in
theorem sAllGame_ans (b off n : Nat) (C : List (Int × List Int)) (w : World) (hm : n ≤ 9223372036854775807) (hk : KCS w (some ⟨b, off, none⟩) n C) :
    Calls Try.prog 26 #[.slice (some ⟨b, off, none⟩) n n] w fun e w' => AnsG RSS0 (okM (chB C) (nAt C 0)) (okG (chB C) ((inOrder (nAt C 0)).filter (leastP (allP C) (nAt C 0)))) (chB C) w w' e := by
  have HLEN := Lib.hid hk.1
  have HK := Lib.hid hk
  clear hk
  have hb0 := below1 w (.cells #[.int .i64 0, .slice none 0 0] 37)
  have hr := BoxT.new 37 w (.int .i64 0) (.slice none 0 0)
  have KF := Lib.hid (show ∀ W, BoxT 37 W w.heap.size (.int .i64 0) (.slice none 0 0) → (W.frozen? ⟨w.heap.size, 0, none⟩ = false ∧ W.frozen? ⟨w.heap.size, 1, none⟩ = false) from fun W h => by unfold BoxT at h; exact ⟨by simp [World.frozen?, h], by simp [World.frozen?, h]⟩)
  cases hc : chB C with
  | true =>
    obtain ⟨hl1, _, hgood⟩ := chB_parts hc
    have h9 : nAt C 0 < 10 := by have := (hgood 0 (by omega)).1.hi; omega
    have hn1 : 0 < n := by have := HLEN.out; omega
    have h0n : (0 : Int) < (n : Int) := by omega
    have HM := Lib.hid (okM_yes (m := (nAt C 0 : Int)) (show true = true from rfl))
    have HG := Lib.hid (okG_yes (S := (inOrder (nAt C 0)).filter (leastP (allP C) (nAt C 0))) (show true = true from rfl))
    have HC := Lib.hid hc
    rw [HM.out, HG.out]
    have HT := Lib.hid (fun W (h : KCS W (some ⟨b, off, none⟩) n C) => chAll_any true b off n C W hm h hc)
    simp only [TableAt, chP_allP HLEN.out] at HT
    have HROW := Lib.hid (show ∀ W, KCS W (some ⟨b, off, none⟩) n C → ∃ A' cap, W.cell? ⟨b, off + 1, none⟩ = some (.slice A' (nAt C 0) cap) ∧ b < W.heap.size from fun W hb => by
      obtain ⟨_, b', off', hA, hrow⟩ := hb
      obtain ⟨hA', hl⟩ := hA (by omega)
      injection hA' with hA'; injection hA' with e1 e2; subst e1 e2
      obtain ⟨A', cap, _, c1, _⟩ := hrow 0 hn1
      simp only [Nat.zero_mul, Nat.add_zero] at c1
      exact ⟨A', cap, c1, hl⟩)
    clear hc hgood hl1 HM HG
    obtain ⟨m0, hm0⟩ : ∃ z, z = nAt C 0 := ⟨_, rfl⟩
    rw [← hm0] at h9 ⊢
    simp only [← hm0] at HT HROW
    clear hm0
    obtain ⟨L, hL⟩ : ∃ L, L = setsL ((inOrder m0).filter (leastP (allP C) m0)) := ⟨_, rfl⟩
    have HV := Lib.hid (fun g2 cap2 W => gmOf_any (allP C) m0 g2 cap2 W h9)
    simp only [← hL] at HV
    rw [← hL]
    clear hL
    obtain ⟨N, hN⟩ : ∃ z, z = 2 ^ m0 := ⟨_, rfl⟩
    simp only [← hN] at HT HV
    clear hN
    obtain ⟨k, hk⟩ : ∃ k, k = L.length := ⟨_, rfl⟩
    simp only [← hk] at HV
    have HKL := Lib.hid hk
    clear hk
    go_enter Try.func26, Try.ntmps26
    go_wp2_with fail
    refine (chGood_any _ n n C _ hm (HK.out.now hb0)).mono ?_
    rintro e w1 ⟨rfl, hb1⟩
    rw [HC.out]
    have g1 := bfrom hb0 hb1
    have hr1 := hr.now hb1
    have HK1 := Lib.hid (HK.out.now g1)
    obtain ⟨A0, cap0, c0, hbl⟩ := HROW.out w1 HK1.out
    clear hr hb0 hb1
    have hzr := hr1.lt
    have K := Lib.hid (show ∀ W, Below w1.heap.size w1 W → (W.cell? ⟨b, off + 1, none⟩ = some (.slice A0 m0 cap0) ∧ W.cell? ⟨w.heap.size, 0, none⟩ = some (.int .i64 0) ∧ W.cell? ⟨w.heap.size, 1, none⟩ = some (.slice none 0 0) ∧ W.frozen? ⟨w.heap.size, 0, none⟩ = false ∧ W.frozen? ⟨w.heap.size, 1, none⟩ = false) from fun W hb => ⟨(hb.cell (p := ⟨b, off + 1, none⟩) hbl).trans c0, (hr1.now hb).cells.1, (hr1.now hb).cells.2, (KF.out _ (hr1.now hb)).1, (KF.out _ (hr1.now hb)).2⟩)
    have hbw : b < w.heap.size := by
      obtain ⟨_, _, _, h⟩ := HROW.out w HK.out
      exact h
    clear c0
    obtain ⟨c0, c2, c3, c4, c5⟩ := K.out _ (Below.refl _ _)
    clear hr1
    go_wp2_with fail
    go_region_held3 (fun w' => w'.cell? ⟨b, off + 1, none⟩ = some (.slice A0 m0 cap0) ∧ (w'.cell? ⟨w.heap.size, 0, none⟩).isSome = true ∧ (w'.cell? ⟨w.heap.size, 1, none⟩).isSome = true ∧ w'.frozen? ⟨w.heap.size, 0, none⟩ = false ∧ w'.frozen? ⟨w.heap.size, 1, none⟩ = false)
      (first | exact ⟨c0, by rw [c2]; rfl, by rw [c3]; rfl, c4, c5⟩ | exact ⟨a0, by rw [a2]; rfl, by rw [a3]; rfl, a4, a5⟩ | exact ⟨d0, by rw [d2]; rfl, by rw [d3]; rfl, d4, d5⟩ | ((try dsimp only); (repeat' apply And.intro); all_goals (first | exact cellf2k d0 (by simp; omega) (by simp; omega) | exact isSome_set (isSome_set (Option.isSome_iff_exists.2 ⟨_, d2⟩)) | exact isSome_set (isSome_set (Option.isSome_iff_exists.2 ⟨_, d3⟩)) | go_keep)) | go_keep)
      (first
        | (go_at_call 66; refine (HT.out _ (HK1.out.now (Below.refl _ _).drew)).mono ?_; rintro e wA ⟨g2, cap2, rfl, hg2, hoA, hbA⟩; have HOA := Lib.hid hoA; clear hoA; have gA := bfrom (Below.refl _ w1).drew hbA; obtain ⟨a0, a2, a3, a4, a5⟩ := K.out _ gA)
        | (go_at_call 71; refine (HV.out g2 cap2 _ HOA.out).mono ?_; rintro e wC ⟨BC, cC, rfl, hlC, hbC⟩; have HLC := Lib.hid hlC; clear hlC; have gC := bfrom gA hbC; obtain ⟨d0, d2, d3, d4, d5⟩ := K.out _ gC)
        | fail)
    have hzA := gA.size
    have hzC := gC.size
    clear a0 a2 a3 a4 a5 c0 c2 c3 c4 c5 d0 d4 d5
    go_wp2
    refine bodyPost_ret (v := .tuple #[.agg #[.int .i64 m0, .slice BC k cC], .bool true]) (by simp [results, Try.results26, go_sem, d2, d3]) rfl ?_
    refine ⟨BC, cC, by first | rfl | rw [HKL.out], ?_, ?_⟩
    · try rw [← HKL.out]
      exact Lies.rss0_wide (Lies.far (Lies.far HLC.out (by first | omega | (simp; omega)) _) (by first | omega | (simp; omega)) _) (by omega) (by first | exact Nat.le_refl _ | simp) (by first | exact Nat.le_refl _ | simp)
    · exact ((bfrom g1 gC).setCell (by simp) _).setCell (by simp) _
  | false =>
    have HC := Lib.hid hc
    have HM := Lib.hid (okM_no (m := (nAt C 0 : Int)) (show false = false from rfl))
    have HG := Lib.hid (okG_no (S := (inOrder (nAt C 0)).filter (leastP (allP C) (nAt C 0))) (show false = false from rfl))
    rw [HM.out, HG.out]
    clear hc
    go_enter Try.func26, Try.ntmps26
    go_wp2_with fail
    refine (chGood_any _ n n C _ hm (HK.out.now hb0)).mono ?_
    rintro e w1 ⟨rfl, hb1⟩
    rw [HC.out]
    have g1 := bfrom hb0 hb1
    have hr1 := hr.now hb1
    obtain ⟨f0, f1⟩ := KF.out _ hr1
    obtain ⟨c0, c1⟩ := hr1.cells
    go_wp2
    refine bodyPost_ret (v := .tuple #[.agg #[.int .i64 0, .slice none 0 0], .bool false]) (by simp [results, Try.results26, go_sem, c0, c1]) rfl ?_
    exact AnsG.none_ RSS0.none_ ((g1.setCell (by simp) _).setCell (by simp) _)

set_option maxRecDepth 20000 in
set_option maxHeartbeats 1000000 in
theorem sWinsSome_any (b off n : Nat) (C : List (Int × List Int)) (b2 off2 m cap2 : Nat) (xs : List Int) (w : World) (hm : n ≤ 9223372036854775807) (hk : KCS w (some ⟨b, off, none⟩) n C) (hm2 : m ≤ 9223372036854775807) (hs : Sl w b2 off2 m xs) :
    Calls Try.prog 24 #[.slice (some ⟨b, off, none⟩) n n, .slice (some ⟨b2, off2, none⟩) m cap2] w fun e w' => e = .returned (.tuple #[.bool (chSetB C xs m && someP C (ofK xs m)), .bool (chSetB C xs m)]) ∧ Below w.heap.size w w' := by
  have HLEN := Lib.hid hk.1
  have HK := Lib.hid hk
  have HS := Lib.hid hs
  clear hk hs
  cases hc : chSetB C xs m with
  | false =>
    have HC := Lib.hid hc
    clear hc
    go_enter Try.func24, Try.ntmps24
    go_wp2_with fail
    refine (chSet_any _ n n C b2 off2 m cap2 xs _ hm HK.out hm2 HS.out).mono ?_
    rintro e w1 ⟨rfl, hb1⟩
    rw [HC.out]
    go_wp2
    go_ret2
    exact ⟨rfl, hb1⟩
  | true =>
    obtain ⟨hcb, hri⟩ : chB C = true ∧ riseB (nAt C 0) xs m = true := by unfold chSetB at hc; simpa using hc
    obtain ⟨h1, _, hgood⟩ := chB_parts hcb
    have h9 : nAt C 0 < 10 := by have := (hgood 0 (by omega)).1.hi; omega
    have h512 := pow_lt (n := nAt C 0) (by omega)
    have hrk : RiseK (nAt C 0) xs m := of_decide_eq_true hri
    have HRK := Lib.hid hrk
    have hlt := ofK_lt hrk
    have HC := Lib.hid hc
    have HCB := Lib.hid hcb
    have HT := Lib.hid (fun W (hb : Below w.heap.size w W) => chAll_any false b off n C W hm (HK.out.now hb) hcb)
    simp only [TableAt, chP_someP HLEN.out] at HT
    clear hc hcb hri h1 hgood hrk
    obtain ⟨N, hN⟩ : ∃ z, z = 2 ^ nAt C 0 := ⟨_, rfl⟩
    rw [← hN] at h512 hlt
    simp only [← hN] at HT
    clear hN
    obtain ⟨s, hsv⟩ : ∃ z, z = ofK xs m := ⟨_, rfl⟩
    rw [← hsv] at hlt ⊢
    have HSV := Lib.hid hsv
    clear hsv
    obtain ⟨r, hr⟩ : ∃ z, z = someP C s := ⟨_, rfl⟩
    rw [← hr]
    have HRV := Lib.hid hr
    clear hr
    have hlt' : (s : Int) < (N : Int) := by omega
    go_enter Try.func24, Try.ntmps24
    go_wp2_with fail
    refine (chSet_any _ n n C b2 off2 m cap2 xs _ hm HK.out hm2 HS.out).mono ?_
    rintro e w1 ⟨rfl, hb1⟩
    rw [HC.out]
    go_wp2_with (first
      | (go_at_call 66; refine (HT.out _ hb1).mono ?_; rintro e w2 ⟨g, cp, rfl, hg, hown, hb2⟩; have HO := Lib.hid hown; clear hown; have hcell := HO.out.cell hlt; rw [← HRV.out] at hcell)
      | (go_at_call 67; refine (voBits_any (nAt C 0) b2 off2 m cap2 xs _ h9 hm2 HRK.out (HS.out.now (bfrom hb1 hb2))).mono ?_; rintro e w3 ⟨rfl, rfl⟩; rw [← HSV.out])
      | fail)
    go_ret2
    exact ⟨by simp, bfrom hb1 hb2⟩

set_option maxRecDepth 20000 in
set_option maxHeartbeats 4000000 in
theorem sSomeGame_ans (b off n : Nat) (C : List (Int × List Int)) (w : World) (hm : n ≤ 9223372036854775807) (hk : KCS w (some ⟨b, off, none⟩) n C) :
    Calls Try.prog 32 #[.slice (some ⟨b, off, none⟩) n n] w fun e w' => AnsG RSS0 (okM (chB C) (nAt C 0)) (okG (chB C) ((inOrder (nAt C 0)).filter (leastP (someP C) (nAt C 0)))) (chB C) w w' e := by
  have HLEN := Lib.hid hk.1
  have HK := Lib.hid hk
  clear hk
  have hb0 := below1 w (.cells #[.int .i64 0, .slice none 0 0] 37)
  have hr := BoxT.new 37 w (.int .i64 0) (.slice none 0 0)
  have KF := Lib.hid (show ∀ W, BoxT 37 W w.heap.size (.int .i64 0) (.slice none 0 0) → (W.frozen? ⟨w.heap.size, 0, none⟩ = false ∧ W.frozen? ⟨w.heap.size, 1, none⟩ = false) from fun W h => by unfold BoxT at h; exact ⟨by simp [World.frozen?, h], by simp [World.frozen?, h]⟩)
  cases hc : chB C with
  | true =>
    obtain ⟨hl1, _, hgood⟩ := chB_parts hc
    have h9 : nAt C 0 < 10 := by have := (hgood 0 (by omega)).1.hi; omega
    have hn1 : 0 < n := by have := HLEN.out; omega
    have h0n : (0 : Int) < (n : Int) := by omega
    have HM := Lib.hid (okM_yes (m := (nAt C 0 : Int)) (show true = true from rfl))
    have HG := Lib.hid (okG_yes (S := (inOrder (nAt C 0)).filter (leastP (someP C) (nAt C 0))) (show true = true from rfl))
    have HC := Lib.hid hc
    rw [HM.out, HG.out]
    have HT := Lib.hid (fun W (h : KCS W (some ⟨b, off, none⟩) n C) => chAll_any false b off n C W hm h hc)
    simp only [TableAt, chP_someP HLEN.out] at HT
    have HROW := Lib.hid (show ∀ W, KCS W (some ⟨b, off, none⟩) n C → ∃ A' cap, W.cell? ⟨b, off + 1, none⟩ = some (.slice A' (nAt C 0) cap) ∧ b < W.heap.size from fun W hb => by
      obtain ⟨_, b', off', hA, hrow⟩ := hb
      obtain ⟨hA', hl⟩ := hA (by omega)
      injection hA' with hA'; injection hA' with e1 e2; subst e1 e2
      obtain ⟨A', cap, _, c1, _⟩ := hrow 0 hn1
      simp only [Nat.zero_mul, Nat.add_zero] at c1
      exact ⟨A', cap, c1, hl⟩)
    clear hc hgood hl1 HM HG
    obtain ⟨m0, hm0⟩ : ∃ z, z = nAt C 0 := ⟨_, rfl⟩
    rw [← hm0] at h9 ⊢
    simp only [← hm0] at HT HROW
    clear hm0
    obtain ⟨L, hL⟩ : ∃ L, L = setsL ((inOrder m0).filter (leastP (someP C) m0)) := ⟨_, rfl⟩
    have HV := Lib.hid (fun g2 cap2 W => gmOf_any (someP C) m0 g2 cap2 W h9)
    simp only [← hL] at HV
    rw [← hL]
    clear hL
    obtain ⟨N, hN⟩ : ∃ z, z = 2 ^ m0 := ⟨_, rfl⟩
    simp only [← hN] at HT HV
    clear hN
    obtain ⟨k, hk⟩ : ∃ k, k = L.length := ⟨_, rfl⟩
    simp only [← hk] at HV
    have HKL := Lib.hid hk
    clear hk
    go_enter Try.func32, Try.ntmps32
    go_wp2_with fail
    refine (chGood_any _ n n C _ hm (HK.out.now hb0)).mono ?_
    rintro e w1 ⟨rfl, hb1⟩
    rw [HC.out]
    have g1 := bfrom hb0 hb1
    have hr1 := hr.now hb1
    have HK1 := Lib.hid (HK.out.now g1)
    obtain ⟨A0, cap0, c0, hbl⟩ := HROW.out w1 HK1.out
    clear hr hb0 hb1
    have hzr := hr1.lt
    have K := Lib.hid (show ∀ W, Below w1.heap.size w1 W → (W.cell? ⟨b, off + 1, none⟩ = some (.slice A0 m0 cap0) ∧ W.cell? ⟨w.heap.size, 0, none⟩ = some (.int .i64 0) ∧ W.cell? ⟨w.heap.size, 1, none⟩ = some (.slice none 0 0) ∧ W.frozen? ⟨w.heap.size, 0, none⟩ = false ∧ W.frozen? ⟨w.heap.size, 1, none⟩ = false) from fun W hb => ⟨(hb.cell (p := ⟨b, off + 1, none⟩) hbl).trans c0, (hr1.now hb).cells.1, (hr1.now hb).cells.2, (KF.out _ (hr1.now hb)).1, (KF.out _ (hr1.now hb)).2⟩)
    have hbw : b < w.heap.size := by
      obtain ⟨_, _, _, h⟩ := HROW.out w HK.out
      exact h
    clear c0
    obtain ⟨c0, c2, c3, c4, c5⟩ := K.out _ (Below.refl _ _)
    clear hr1
    go_wp2_with fail
    go_region_held3 (fun w' => w'.cell? ⟨b, off + 1, none⟩ = some (.slice A0 m0 cap0) ∧ (w'.cell? ⟨w.heap.size, 0, none⟩).isSome = true ∧ (w'.cell? ⟨w.heap.size, 1, none⟩).isSome = true ∧ w'.frozen? ⟨w.heap.size, 0, none⟩ = false ∧ w'.frozen? ⟨w.heap.size, 1, none⟩ = false)
      (first | exact ⟨c0, by rw [c2]; rfl, by rw [c3]; rfl, c4, c5⟩ | exact ⟨a0, by rw [a2]; rfl, by rw [a3]; rfl, a4, a5⟩ | exact ⟨d0, by rw [d2]; rfl, by rw [d3]; rfl, d4, d5⟩ | ((try dsimp only); (repeat' apply And.intro); all_goals (first | exact cellf2k d0 (by simp; omega) (by simp; omega) | exact isSome_set (isSome_set (Option.isSome_iff_exists.2 ⟨_, d2⟩)) | exact isSome_set (isSome_set (Option.isSome_iff_exists.2 ⟨_, d3⟩)) | go_keep)) | go_keep)
      (first
        | (go_at_call 66; refine (HT.out _ (HK1.out.now (Below.refl _ _).drew)).mono ?_; rintro e wA ⟨g2, cap2, rfl, hg2, hoA, hbA⟩; have HOA := Lib.hid hoA; clear hoA; have gA := bfrom (Below.refl _ w1).drew hbA; obtain ⟨a0, a2, a3, a4, a5⟩ := K.out _ gA)
        | (go_at_call 71; refine (HV.out g2 cap2 _ HOA.out).mono ?_; rintro e wC ⟨BC, cC, rfl, hlC, hbC⟩; have HLC := Lib.hid hlC; clear hlC; have gC := bfrom gA hbC; obtain ⟨d0, d2, d3, d4, d5⟩ := K.out _ gC)
        | fail)
    have hzA := gA.size
    have hzC := gC.size
    clear a0 a2 a3 a4 a5 c0 c2 c3 c4 c5 d0 d4 d5
    go_wp2
    refine bodyPost_ret (v := .tuple #[.agg #[.int .i64 m0, .slice BC k cC], .bool true]) (by simp [results, Try.results32, go_sem, d2, d3]) rfl ?_
    refine ⟨BC, cC, by first | rfl | rw [HKL.out], ?_, ?_⟩
    · try rw [← HKL.out]
      exact Lies.rss0_wide (Lies.far (Lies.far HLC.out (by first | omega | (simp; omega)) _) (by first | omega | (simp; omega)) _) (by omega) (by first | exact Nat.le_refl _ | simp) (by first | exact Nat.le_refl _ | simp)
    · exact ((bfrom g1 gC).setCell (by simp) _).setCell (by simp) _
  | false =>
    have HC := Lib.hid hc
    have HM := Lib.hid (okM_no (m := (nAt C 0 : Int)) (show false = false from rfl))
    have HG := Lib.hid (okG_no (S := (inOrder (nAt C 0)).filter (leastP (someP C) (nAt C 0))) (show false = false from rfl))
    rw [HM.out, HG.out]
    clear hc
    go_enter Try.func32, Try.ntmps32
    go_wp2_with fail
    refine (chGood_any _ n n C _ hm (HK.out.now hb0)).mono ?_
    rintro e w1 ⟨rfl, hb1⟩
    rw [HC.out]
    have g1 := bfrom hb0 hb1
    have hr1 := hr.now hb1
    obtain ⟨f0, f1⟩ := KF.out _ hr1
    obtain ⟨c0, c1⟩ := hr1.cells
    go_wp2
    refine bodyPost_ret (v := .tuple #[.agg #[.int .i64 0, .slice none 0 0], .bool false]) (by simp [results, Try.results32, go_sem, c0, c1]) rfl ?_
    exact AnsG.none_ RSS0.none_ ((g1.setCell (by simp) _).setCell (by simp) _)
end Go.Proofs.Ytkckefjpkhjeaaa
