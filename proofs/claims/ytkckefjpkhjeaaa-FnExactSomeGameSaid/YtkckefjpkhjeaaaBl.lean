/- Contracts of the program's sets and swings of chambers, and of the model's swings. -/
import Derived.Test.YtkckefjpkhjeaaaBk
import Derived.Test.YtkckefjpkhjeaaaBh
namespace Go.Proofs.Ytkckefjpkhjeaaa
open Go.RowKit Vo

set_option maxRecDepth 20000 in
set_option maxHeartbeats 2000000 in
theorem winsInChambers_any (P : List (Int × List Int) → Nat → Bool) (f n cp : Nat) (A : Option Addr) (C : List (Int × List Int)) (b2 off2 m cap2 : Nat) (xs : List Int) (w : World) (hf : AsksL P f) (hm : n ≤ 9223372036854775807) (hk : KCS w A n C) (hm2 : m ≤ 9223372036854775807) (hs : Sl w b2 off2 m xs) :
    Calls Try.prog 68 #[.slice A n cp, .slice (some ⟨b2, off2, none⟩) m cap2, .func (.func f) #[] #[]] w fun e w' => e = .returned (.tuple #[.bool (chSetB C xs m && P C (ofK xs m)), .bool (chSetB C xs m)]) ∧ Below w.heap.size w w' := by
  have HF := Lib.hid hf
  have HK := Lib.hid hk
  have HS := Lib.hid hs
  clear hf hk hs
  cases hc : chB C with
  | false =>
    have HC := Lib.hid hc
    have HR := Lib.hid (show chSetB C xs m = false from by unfold chSetB; rw [hc]; rfl)
    rw [HR.out]
    clear hc
    go_enter Try.func68, Try.ntmps68
    go_wp2_with fail
    refine (readChambers_no f n cp A C _ hm HK.out HC.out).mono ?_
    rintro e w1 ⟨rfl, hb1⟩
    go_wp2
    go_ret2
    exact ⟨rfl, hb1⟩
  | true =>
    obtain ⟨hl1, _, hgood⟩ := chB_parts hc
    have h9 : nAt C 0 < 10 := by have := (hgood 0 (by omega)).1.hi; omega
    have HC := Lib.hid hc
    clear hgood hl1
    have HR := Lib.hid (show chSetB C xs m = riseB (nAt C 0) xs m from by unfold chSetB; rw [hc]; rfl)
    rw [HR.out]
    clear hc
    obtain ⟨m0, hm0⟩ : ∃ z, z = nAt C 0 := ⟨_, rfl⟩
    have HRC := Lib.hid (readChambers_yes P f n cp A C w HF.out hm HK.out HC.out)
    rw [← hm0] at h9 ⊢
    simp only [← hm0] at HRC
    clear hm0 HR
    cases hr : riseB m0 xs m with
    | false =>
      have HRI := Lib.hid hr
      clear hr
      go_enter Try.func68, Try.ntmps68
      go_wp2_with fail
      refine HRC.out.mono ?_
      rintro e w1 ⟨g, b, w0, rfl, hasm, hw0, hb1⟩
      obtain ⟨k, first, cap, hbox, _⟩ := hasm.box
      have c0 := hbox.cells.1
      clear hasm hbox hw0
      go_wp2_with (first | (go_at_call 101; refine (readSet_any m0 b2 off2 m cap2 xs _ h9 hm2 (HS.out.now hb1)).mono ?_; rintro e w2 ⟨rfl, rfl⟩; rw [HRI.out]) | fail)
      go_ret2
      exact ⟨rfl, hb1⟩
    | true =>
      have hrk : RiseK m0 xs m := of_decide_eq_true hr
      have HRI := Lib.hid hr
      have HLT := Lib.hid (ofK_lt hrk)
      have HOF := Lib.hid (ofB_yes hrk)
      clear hr hrk
      go_enter Try.func68, Try.ntmps68
      go_wp2_with fail
      refine HRC.out.mono ?_
      rintro e w1 ⟨g, b, w0, rfl, hasm, hw0, hb1⟩
      have HA := Lib.hid hasm
      obtain ⟨k, first, cap, hbox, _⟩ := hasm.box
      have c0 := hbox.cells.1
      clear hasm hbox
      go_wp2_with (first
        | (go_at_call 101; refine (readSet_any m0 b2 off2 m cap2 xs _ h9 hm2 (HS.out.now hb1)).mono ?_; rintro e w2 ⟨rfl, rfl⟩; rw [HRI.out, HOF.out])
        | (go_at_call 108; refine (awins_any (P C) m0 g b (ofK xs m) w0 _ h9 HLT.out HA.out).mono ?_; rintro e w3 ⟨rfl, _, hg3⟩)
        | fail)
      have b3 := asm_below hb1 HA.out hw0 hg3
      go_ret2
      exact ⟨by simp, b3⟩
set_option maxHeartbeats 1000000 in
theorem iWinsAll_any (A : Option Addr) (n cp : Nat) (C : List (Int × List Int)) (b2 off2 m cap2 : Nat) (xs : List Int) (w : World) (hm : n ≤ 9223372036854775807) (hk : KCS w A n C) (hm2 : m ≤ 9223372036854775807) (hs : Sl w b2 off2 m xs) :
    Calls Try.prog 22 #[.slice A n cp, .slice (some ⟨b2, off2, none⟩) m cap2] w fun e w' => e = .returned (.tuple #[.bool (chSetB C xs m && allP C (ofK xs m)), .bool (chSetB C xs m)]) ∧ Below w.heap.size w w' := by
  have HG := Lib.hid (winsInChambers_any allP 69 n cp A C b2 off2 m cap2 xs w winAll_asks hm hk hm2 hs)
  clear hk hs
  go_enter Try.func22, Try.ntmps22
  go_wp2_with fail
  refine HG.out.mono ?_
  rintro e w1 ⟨rfl, hb1⟩
  go_wp2
  go_ret2
  exact ⟨rfl, hb1⟩
set_option maxHeartbeats 1000000 in
theorem iWinsSome_any (A : Option Addr) (n cp : Nat) (C : List (Int × List Int)) (b2 off2 m cap2 : Nat) (xs : List Int) (w : World) (hm : n ≤ 9223372036854775807) (hk : KCS w A n C) (hm2 : m ≤ 9223372036854775807) (hs : Sl w b2 off2 m xs) :
    Calls Try.prog 25 #[.slice A n cp, .slice (some ⟨b2, off2, none⟩) m cap2] w fun e w' => e = .returned (.tuple #[.bool (chSetB C xs m && someP C (ofK xs m)), .bool (chSetB C xs m)]) ∧ Below w.heap.size w w' := by
  have HG := Lib.hid (winsInChambers_any someP 70 n cp A C b2 off2 m cap2 xs w winSome_asks hm hk hm2 hs)
  clear hk hs
  go_enter Try.func25, Try.ntmps25
  go_wp2_with fail
  refine HG.out.mono ?_
  rintro e w1 ⟨rfl, hb1⟩
  go_wp2
  go_ret2
  exact ⟨rfl, hb1⟩

/-- The swings of chambers, where there are some. -/
def swgC (C : List (Int × List Int)) : List Int := if chB C then perL (fun k => cnt (swP (allP C) k) (2 ^ nAt C 0)) (nAt C 0) else []
theorem swgC_yes {C} (h : chB C = true) : swgC C = perL (fun k => cnt (swP (allP C) k) (2 ^ nAt C 0)) (nAt C 0) := if_pos h
theorem swgC_no {C} (h : chB C = false) : swgC C = [] := if_neg (by rw [h]; simp)
theorem swgC_len (C) : (swgC C).length ≤ 1048576 := by
  cases h : chB C with
  | false => rw [swgC_no h]; simp
  | true =>
    rw [swgC_yes h, perL_len]
    obtain ⟨h1, _, hg⟩ := chB_parts h
    have := (hg 0 (by omega)).1.hi
    omega

set_option maxHeartbeats 2000000 in
theorem iSwingsOfChambers_ans (A : Option Addr) (n cp : Nat) (C : List (Int × List Int)) (w : World) (hm : n ≤ 9223372036854775807) (hk : KCS w A n C) :
    Calls Try.prog 45 #[.slice A n cp] w fun e w' => Ans (RS (swgC C)) (chB C) w w' e := by
  have HK := Lib.hid hk
  clear hk
  cases hc : chB C with
  | false =>
    have HC := Lib.hid hc
    have HR := Lib.hid (swgC_no hc)
    rw [HR.out]
    clear hc
    go_enter Try.func45, Try.ntmps45
    go_wp2_with fail
    refine (readChambers_no _ n cp A C _ hm HK.out HC.out).mono ?_
    rintro e w1 ⟨rfl, hb1⟩
    go_wp2
    go_ret2
    exact (PairAt.none_ hb1).ans
  | true =>
    obtain ⟨hl1, _, hgood⟩ := chB_parts hc
    have h9 : nAt C 0 < 10 := by have := (hgood 0 (by omega)).1.hi; omega
    have HC := Lib.hid hc
    clear hgood hl1
    have HR := Lib.hid (swgC_yes hc)
    rw [HR.out]
    clear hc
    obtain ⟨m0, hm0⟩ : ∃ z, z = nAt C 0 := ⟨_, rfl⟩
    have HRC := Lib.hid (readChambers_yes allP _ n cp A C w winAll_asks hm HK.out HC.out)
    rw [← hm0] at h9 ⊢
    simp only [← hm0] at HRC
    clear hm0 HR
    have HSW := Lib.hid (fun g b w0 W h => aSwings_any (allP C) m0 g b w0 W h9 h)
    obtain ⟨L, hL⟩ : ∃ L, L = perL (fun k => cnt (swP (allP C) k) (2 ^ m0)) m0 := ⟨_, rfl⟩
    simp only [← hL] at HSW
    rw [← hL]
    clear hL
    go_enter Try.func45, Try.ntmps45
    go_wp2_with fail
    refine HRC.out.mono ?_
    rintro e w1 ⟨g, b, w0, rfl, hasm, hw0, hb1⟩
    have HA := Lib.hid hasm
    clear hasm
    go_wp2_with fail
    refine (HSW.out g b w0 _ HA.out).mono ?_
    rintro e w2 ⟨B, cB, rfl, hown, _, hg2⟩
    have HO := Lib.hid hown
    have HB := Lib.hid (asm_below hb1 HA.out hw0 hg2)
    have hz1 := hb1.size
    clear hown hg2
    go_wp2
    go_ret2
    exact PairAt.ans ⟨B, cB, rfl, owns_less HO.out hz1, HB.out⟩

set_option maxRecDepth 20000 in
set_option maxHeartbeats 2000000 in
theorem sSwingsOfChambers_ans (b off n : Nat) (C : List (Int × List Int)) (w : World) (hm : n ≤ 9223372036854775807) (hk : KCS w (some ⟨b, off, none⟩) n C) :
    Calls Try.prog 44 #[.slice (some ⟨b, off, none⟩) n n] w fun e w' => Ans (RS (swgC C)) (chB C) w w' e := by
  have HLEN := Lib.hid hk.1
  have HK := Lib.hid hk
  clear hk
  cases hc : chB C with
  | false =>
    have HC := Lib.hid hc
    have HR := Lib.hid (swgC_no hc)
    rw [HR.out]
    clear hc
    go_enter Try.func44, Try.ntmps44
    go_wp2_with fail
    refine (chGood_any _ n n C _ hm HK.out).mono ?_
    rintro e w1 ⟨rfl, hb1⟩
    rw [HC.out]
    go_wp2
    go_ret2
    exact (PairAt.none_ hb1).ans
  | true =>
    obtain ⟨hl1, _, hgood⟩ := chB_parts hc
    have h9 : nAt C 0 < 10 := by have := (hgood 0 (by omega)).1.hi; omega
    have hn1 : 0 < n := by have := HLEN.out; omega
    have h0n : (0 : Int) < (n : Int) := by omega
    have HC := Lib.hid hc
    have HR := Lib.hid (swgC_yes hc)
    rw [HR.out]
    have HT := Lib.hid (fun W (h : KCS W (some ⟨b, off, none⟩) n C) => chAll_any true b off n C W hm h hc)
    simp only [TableAt, chP_allP HLEN.out] at HT
    have HROW := Lib.hid (show ∀ W, KCS W (some ⟨b, off, none⟩) n C → ∃ A' cap, W.cell? ⟨b, off + 1, none⟩ = some (.slice A' (nAt C 0) cap) ∧ b < W.heap.size from fun W hb => by
      obtain ⟨_, b', off', hA, hrow⟩ := hb
      obtain ⟨hA', hl⟩ := hA (by omega)
      injection hA' with hA'; injection hA' with e1 e2; subst e1 e2
      obtain ⟨A', cap, _, c1, _⟩ := hrow 0 hn1
      simp only [Nat.zero_mul, Nat.add_zero] at c1
      exact ⟨A', cap, c1, hl⟩)
    clear hc hgood hl1 HR
    obtain ⟨m0, hm0⟩ : ∃ z, z = nAt C 0 := ⟨_, rfl⟩
    rw [← hm0] at h9 ⊢
    simp only [← hm0] at HT HROW
    clear hm0
    have HV := Lib.hid (fun g2 cap2 W h => pwCounts_any (allP C) m0 g2 cap2 W h9 h)
    simp only [WinsIn] at HV
    obtain ⟨L, hL⟩ : ∃ L, L = perL (fun k => cnt (swP (allP C) k) (2 ^ m0)) m0 := ⟨_, rfl⟩
    simp only [← hL] at HV
    rw [← hL]
    clear hL
    obtain ⟨N, hN⟩ : ∃ z, z = 2 ^ m0 := ⟨_, rfl⟩
    simp only [← hN] at HT HV
    clear hN
    go_enter Try.func44, Try.ntmps44
    go_wp2_with fail
    refine (chGood_any _ n n C _ hm HK.out).mono ?_
    rintro e w1 ⟨rfl, hb1⟩
    rw [HC.out]
    have HK1 := Lib.hid (HK.out.now hb1)
    obtain ⟨A0, cap0, c0, hbl⟩ := HROW.out w1 HK1.out
    have K := Lib.hid (show ∀ W, Below w1.heap.size w1 W → W.cell? ⟨b, off + 1, none⟩ = some (.slice A0 m0 cap0) from fun W hb => (hb.cell (p := ⟨b, off + 1, none⟩) hbl).trans c0)
    go_wp2_with fail
    go_region_held3 (fun w' => w'.cell? ⟨b, off + 1, none⟩ = some (.slice A0 m0 cap0))
      (first | exact c0 | exact a0 | exact d0 | go_keep)
      (first
        | (go_at_call 66; refine (HT.out _ (HK1.out.now (Below.refl _ _).drew)).mono ?_; rintro e wA ⟨g2, cap2, rfl, hg2, hoA, hbA⟩; have HOA := Lib.hid hoA; clear hoA; have gA := bfrom (Below.refl _ w1).drew hbA; have a0 := K.out _ gA)
        | (go_at_call 92; refine (HV.out g2 cap2 _ HOA.out).mono ?_; rintro e wC ⟨BC, cC, rfl, hoC, hbC⟩; have HOC := Lib.hid hoC; clear hoC; have gC := bfrom gA hbC; have d0 := K.out _ gC)
        | fail)
    have hzA := gA.size
    have hz1 := hb1.size
    go_wp2
    go_ret2
    exact PairAt.ans ⟨BC, cC, rfl, owns_less HOC.out (by omega), bfrom hb1 gC⟩

theorem chGame_few (C : List (Int × List Int)) (p : Nat → Bool) : tot (okG (chB C) ((inOrder (nAt C 0)).filter p)) + (okG (chB C) ((inOrder (nAt C 0)).filter p)).length ≤ 1048576 :=
  okG_few fun h => by
    obtain ⟨h1, _, hg⟩ := chB_parts h
    exact inOrder_few (by have := (hg 0 (by omega)).1.hi; omega)
end Go.Proofs.Ytkckefjpkhjeaaa
