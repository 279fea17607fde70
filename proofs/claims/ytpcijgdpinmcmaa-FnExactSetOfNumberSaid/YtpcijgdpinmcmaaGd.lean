/- Sets and their numbers: contracts of SetOfNumber and NumberOfSet, and the walks of their laws. -/
import Derived.Test.YtpcijgdpinmcmaaL1
import Derived.Test.YtpcijgdpinmcmaaK1
import Derived.Test.YtpcijgdpinmcmaaS3
import Derived.Test.YtpcijgdpinmcmaaO2
import Derived.Test.YtpcijgdpinmcmaaP1
namespace Go.Proofs.Ytpcijgdpinmcmaa
open Go.RowKit Vo

theorem Ans.noInts_ {w w' : World} (hb : Below w.heap.size w w') : Ans (RS []) false w w' (.returned (.tuple #[.slice none 0 0, .bool false])) :=
  ⟨_, rfl, ⟨Nat.le_refl _, fun _ _ => ⟨none, 0, rfl, Or.inl rfl⟩⟩, hb⟩

/-- The set with a number. -/
def sonB (x : Int) : Bool := inB x 0 511
def sonL (x : Int) : List Int := if sonB x then mem x.toNat 9 else []
theorem sonL_len (x : Int) : (sonL x).length ≤ 1048576 := by
  unfold sonL
  split
  · have := mem_len x.toNat 9; omega
  · simp
theorem son_parts {x : Int} (h : sonB x = true) : 0 ≤ x ∧ x ≤ 511 := by
  unfold sonB inB at h
  simpa using h

set_option maxHeartbeats 1000000 in
theorem iSetOfNumber_ans (x : Int) (w : World) :
    Calls Try.prog 27 #[.int .i64 x] w fun e w' => Ans (RS (sonL x)) (sonB x) w w' e := by
  cases h : sonB x with
  | true =>
    obtain ⟨h0, h1⟩ := son_parts h
    obtain ⟨s, rfl⟩ : ∃ s : Nat, x = (s : Int) := ⟨x.toNat, by omega⟩
    have HL := Lib.hid (show sonL (s : Int) = mem s 9 from by unfold sonL; rw [if_pos h, Int.toNat_natCast])
    clear h
    have hs : s < 512 := by omega
    have hs2 : ¬ (511 : Int) < (s : Int) := by omega
    have hs3 : ¬ (s : Int) < 0 := by omega
    rw [HL.out]
    obtain ⟨L, hL⟩ : ∃ L, L = mem s 9 := ⟨_, rfl⟩
    have HC := Lib.hid (fun W => list_any s W hs)
    rw [← hL] at HC ⊢
    clear hL HL
    go_enter Try.func27, Try.ntmps27
    go_wp2_with fail
    refine (HC.out _).mono ?_
    rintro e w1 ⟨A, cap, rfl, ho, hb⟩
    have HO := Lib.hid ho
    clear ho
    go_wp2
    go_ret2
    exact ⟨_, rfl, (RS.of_own HO.out).lies (Nat.le_refl _), hb⟩
  | false =>
    have HL := Lib.hid (show sonL x = [] from by unfold sonL; rw [h]; rfl)
    rw [HL.out]
    have hno : ¬ (0 ≤ x ∧ x ≤ 511) := fun hh => by
      have : sonB x = true := inB_yes hh.1 hh.2
      rw [this] at h; cases h
    clear h
    by_cases hn : x < 0
    · go_enter Try.func27, Try.ntmps27
      go_wp2
      go_ret2
      exact Ans.noInts_ (Below.refl _ _)
    · have h5 : 511 < x := by omega
      clear hno
      go_enter Try.func27, Try.ntmps27
      go_wp2
      go_ret2
      exact Ans.noInts_ (Below.refl _ _)

set_option maxHeartbeats 1000000 in
theorem sSetOfNumber_ans (x : Int) (w : World) :
    Calls Try.prog 26 #[.int .i64 x] w fun e w' => Ans (RS (sonL x)) (sonB x) w w' e := by
  have HA := Lib.hid (fun W => voAll_any 9 W (by omega))
  simp only [show ((2^9 - 1 : Nat) : Int) = 511 from rfl] at HA
  have HI := Lib.hid (fun W => l1In_any x 0 511 W)
  cases h : sonB x with
  | true =>
    obtain ⟨h0, h1⟩ := son_parts h
    have HB := Lib.hid h
    obtain ⟨s, rfl⟩ : ∃ s : Nat, x = (s : Int) := ⟨x.toNat, by omega⟩
    have HL := Lib.hid (show sonL (s : Int) = mem s 9 from by unfold sonL; rw [if_pos h, Int.toNat_natCast])
    clear h
    have hs : s < 512 := by omega
    rw [HL.out]
    obtain ⟨L, hL⟩ : ∃ L, L = mem s 9 := ⟨_, rfl⟩
    have HC := Lib.hid (fun W => voList_any s W hs)
    rw [← hL] at HC ⊢
    clear hL HL
    go_enter Try.func26, Try.ntmps26
    go_wp2_with fail
    refine (HA.out _).mono ?_
    rintro e w1 ⟨rfl, rfl⟩
    go_wp2_with fail
    refine (HI.out _).mono ?_
    rintro e w1 ⟨rfl, rfl⟩
    rw [show inB (s : Int) 0 511 = true from HB.out]
    go_wp2_with fail
    refine (HC.out _).mono ?_
    rintro e w1 ⟨A, cap, rfl, ho, hb⟩
    have HO := Lib.hid ho
    clear ho
    go_wp2
    go_ret2
    exact ⟨_, rfl, (RS.of_own HO.out).lies (Nat.le_refl _), hb⟩
  | false =>
    have HL := Lib.hid (show sonL x = [] from by unfold sonL; rw [h]; rfl)
    have HB := Lib.hid h
    rw [HL.out]
    clear h
    go_enter Try.func26, Try.ntmps26
    go_wp2_with fail
    refine (HA.out _).mono ?_
    rintro e w1 ⟨rfl, rfl⟩
    go_wp2_with fail
    refine (HI.out _).mono ?_
    rintro e w1 ⟨rfl, rfl⟩
    rw [show inB x 0 511 = false from HB.out]
    go_wp2
    go_ret2
    exact Ans.noInts_ (Below.refl _ _)

set_option maxHeartbeats 4000000 in
theorem lawSetOfNumber (x : Int) (w : World) (_hx : (Lit.int .i64 x).wf = true) :
    Calls Try.prog 6 #[.int .i64 x] w fun e w' => e = .returned (.bool true) ∧ Below w.heap.size w w' := by
  have HS := Lib.hid (fun W => sSetOfNumber_ans x W)
  have HI := Lib.hid (fun W => iSetOfNumber_ans x W)
  obtain ⟨M, hM⟩ : ∃ M, M = sonL x := ⟨_, rfl⟩
  have HLM := Lib.hid (show M.length ≤ 1048576 from by rw [hM]; exact sonL_len x)
  rw [← hM] at HS HI
  clear hM
  generalize sonB x = ok at *
  obtain ⟨N, hN⟩ : ∃ N : Nat, N = M.length := ⟨_, rfl⟩
  have hNm : N ≤ 1048576 := by have := HLM.out; omega
  have HN := Lib.hid hN
  clear hN
  go_enter Try.func6, Try.ntmps6
  go_wp2_with fail
  refine (HS.out _).mono ?_
  rintro e w3 ⟨v3, rfl, hl3, hb3⟩
  have HH3 := Lib.hid hl3
  have hz3 := hb3.size
  clear hl3
  go_wp2_with fail
  refine (HI.out _).mono ?_
  rintro e w5 ⟨v5, rfl, hl5, hb5⟩
  have HH5 := Lib.hid hl5
  have HH35 := Lib.hid (HH3.out.now hb5)
  have g5 := bfrom hb3 hb5
  have hz5 := hb5.size
  clear hl5 HH3 hb3 hb5
  go_wp2_with fail
  refine (eqIntS_v _ HLM.out HH5.out.here HH35.out.here).mono ?_
  rintro e w10 ⟨rfl, hb10⟩
  have g10 := bfrom g5 hb10
  have HH510 := Lib.hid (HH5.out.now hb10)
  have HH310 := Lib.hid (HH35.out.now hb10)
  have hz10 := hb10.size
  clear HH5 HH35 hb10 g5
  go_wp2_with fail
  refine (markIntS_v 1 _ (by omega) (by omega) HLM.out HH510.out.here).mono ?_
  rw [← HN.out]
  rintro e w11 ⟨rfl, t11, hmk⟩
  have hh11 := HH510.out.hi_le
  have hz11 := t11.size
  have HMK := Lib.hid (hmk.lies (by omega))
  have g11 := Turn.below g10 t11 (by omega) (by omega)
  have HH311 := Lib.hid (HH310.out.turn t11 (by omega))
  clear hmk t11 HH510 HH310 g10 hh11
  go_wp2_with fail
  refine (heldIntS_v 1 _ (by omega) (by omega) HLM.out HMK.out.here).mono ?_
  rw [← HN.out]
  rintro e w12 ⟨rfl, hb12⟩
  have g12 := bfrom g11 hb12
  have HH312 := Lib.hid (HH311.out.now hb12)
  have HMK12 := Lib.hid (HMK.out.now hb12)
  clear g11 HH311 HMK hb12
  go_wp2_with fail
  refine (HI.out _).mono ?_
  rintro e w14 ⟨v14, rfl, hl14, hb14⟩
  have HH14 := Lib.hid hl14
  have g14 := bfrom g12 hb14
  have HH314 := Lib.hid (HH312.out.now hb14)
  have HMK14 := Lib.hid (HMK12.out.now hb14)
  clear hl14 hb14 g12 HH312 HMK12
  go_wp2_with fail
  refine (eqIntS_v _ HLM.out HH14.out.here HH314.out.here).mono ?_
  rintro e w15 ⟨rfl, hb15⟩
  have g15 := bfrom g14 hb15
  have HMK15 := Lib.hid (HMK14.out.now hb15)
  go_wp2_with fail
  refine (heldIntS_v 1 _ (by omega) (by omega) HLM.out HMK15.out.here).mono ?_
  rw [← HN.out]
  rintro e w16 ⟨rfl, hb16⟩
  go_wp2
  go_ret
  exact ⟨rfl, bfrom g15 hb16⟩

set_option maxHeartbeats 1000000 in
theorem readSet_kx (n : Nat) (A : Option Addr) (m cap : Nat) (xs : List Int) (w : World) (hn : n < 10) (hm : m ≤ 9223372036854775807) (hk : Known w A m xs) :
    Calls Try.prog 65 #[.int .i64 n, .slice A m cap] w fun e w' => e = .returned (.tuple #[.int .u64 (ofB n xs m : Nat), .bool (riseB n xs m)]) ∧ w = w' := by
  by_cases hz : m = 0
  · subst hz
    have H1 := Lib.hid (ofB_yes (n := n) (xs := xs) (m := 0) RiseK.zero)
    have H2 := Lib.hid (riseB_yes (n := n) (xs := xs) (m := 0) RiseK.zero)
    go_enter Try.func65, Try.ntmps65
    go_wp2
    refine wp_loop_rounds 1 ?_
    rw [rounds_succ]
    go_wp2
    go_ret2
    exact ⟨by rw [H1.out, H2.out]; rfl, rfl⟩
  · obtain ⟨b, off, rfl, hsl⟩ := hk.get (by omega)
    exact readSet_any n b off m cap xs w hn hm hsl
set_option maxHeartbeats 1000000 in
theorem voSet_kx (n : Nat) (A : Option Addr) (m cap : Nat) (xs : List Int) (w : World) (hn : n < 10) (hm : m ≤ 9223372036854775807) (hk : Known w A m xs) :
    Calls Try.prog 63 #[.int .i64 n, .slice A m cap] w fun e w' => e = .returned (.bool (riseB n xs m)) ∧ w = w' := by
  by_cases hz : m = 0
  · subst hz
    have H2 := Lib.hid (riseB_yes (n := n) (xs := xs) (m := 0) RiseK.zero)
    go_enter Try.func63, Try.ntmps63
    go_wp2
    refine wp_loop_rounds 1 ?_
    rw [rounds_succ]
    go_wp2
    go_ret
    exact ⟨by rw [H2.out]; try rfl, rfl⟩
  · obtain ⟨b, off, rfl, hsl⟩ := hk.get (by omega)
    exact voSet_any n b off m cap xs w hn hm hsl
set_option maxHeartbeats 1000000 in
theorem voBits_kx (n : Nat) (A : Option Addr) (m cap : Nat) (xs : List Int) (w : World) (hn : n < 10) (hm : m ≤ 9223372036854775807) (hr : RiseK n xs m) (hk : Known w A m xs) :
    Calls Try.prog 64 #[.slice A m cap] w fun e w' => e = .returned (.int .i64 (ofK xs m : Nat)) ∧ w = w' := by
  by_cases hz : m = 0
  · subst hz
    have H2 := Lib.hid (show ofK xs 0 = 0 from rfl)
    go_enter Try.func64, Try.ntmps64
    go_wp2
    refine wp_loop_rounds 1 ?_
    rw [rounds_succ]
    go_wp2
    go_ret
    exact ⟨by rw [H2.out]; try rfl, rfl⟩
  · obtain ⟨b, off, rfl, hsl⟩ := hk.get (by omega)
    exact voBits_any n b off m cap xs w hn hm hr hsl
theorem ofB_lt {n : Nat} {xs : List Int} {m : Nat} : ofB n xs m < 2^n := by
  by_cases h : RiseK n xs m
  · rw [ofB_yes h]; exact ofK_lt h
  · rw [ofB_no h]; exact Nat.two_pow_pos n

set_option maxHeartbeats 1000000 in
theorem iNumberOfSet_any (A : Option Addr) (m cap : Nat) (xs : List Int) (w : World) (hm : m ≤ 9223372036854775807) (hk : Known w A m xs) :
    Calls Try.prog 33 #[.slice A m cap] w fun e w' => e = .returned (.tuple #[.int .i64 (ofB 9 xs m : Nat), .bool (riseB 9 xs m)]) ∧ Below w.heap.size w w' := by
  have hlt : ofB 9 xs m < 512 := ofB_lt
  have HR := Lib.hid (readSet_kx 9 A m cap xs w (by omega) hm hk)
  clear hk
  generalize ofB 9 xs m = s at *
  generalize riseB 9 xs m = r at *
  go_enter Try.func33, Try.ntmps33
  go_wp2_with fail
  refine HR.out.mono ?_
  rintro e w1 ⟨rfl, rfl⟩
  go_wp2
  go_ret2
  exact ⟨rfl, Below.refl _ _⟩
set_option maxHeartbeats 1000000 in
theorem sNumberOfSet_any (A : Option Addr) (m cap : Nat) (xs : List Int) (w : World) (hm : m ≤ 9223372036854775807) (hk : Known w A m xs) :
    Calls Try.prog 31 #[.slice A m cap] w fun e w' => e = .returned (.tuple #[.int .i64 (ofB 9 xs m : Nat), .bool (riseB 9 xs m)]) ∧ Below w.heap.size w w' := by
  have HS := Lib.hid (voSet_kx 9 A m cap xs w (by omega) hm hk)
  by_cases hr : RiseK 9 xs m
  · have HB := Lib.hid (voBits_kx 9 A m cap xs w (by omega) hm hr hk)
    rw [ofB_yes hr, riseB_yes hr]
    rw [riseB_yes hr] at HS
    clear hk hr
    go_enter Try.func31, Try.ntmps31
    go_wp2_with fail
    refine HS.out.mono ?_
    rintro e w1 ⟨rfl, rfl⟩
    go_wp2_with fail
    refine HB.out.mono ?_
    rintro e w1 ⟨rfl, rfl⟩
    go_wp2
    go_ret2
    exact ⟨rfl, Below.refl _ _⟩
  · rw [ofB_no hr, riseB_no hr]
    rw [riseB_no hr] at HS
    clear hk hr
    go_enter Try.func31, Try.ntmps31
    go_wp2_with fail
    refine HS.out.mono ?_
    rintro e w1 ⟨rfl, rfl⟩
    go_wp2
    go_ret2
    exact ⟨rfl, Below.refl _ _⟩

set_option maxHeartbeats 2000000 in
theorem lawNumberOfSet (A : Option Addr) (n cap : Nat) (xs : List Int) (w : World) (hm : n ≤ 9223372036854775807) (hk : Known w A n xs) :
    Calls Try.prog 7 #[.slice A n cap] w fun e w' => e = .returned (.bool true) ∧ Below w.heap.size w w' := by
  have HK := Lib.hid hk
  clear hk
  by_cases hn : 1048576 < n
  · go_enter Try.func7, Try.ntmps7
    go_wp2
    go_ret
    exact ⟨rfl, Below.refl _ _⟩
  have hn' : n ≤ 1048576 := by omega
  have HSM := Lib.hid (sameB_yes (xs := xs) (ys := xs) (n := n) (fun _ _ => rfl))
  have HTO := Lib.hid (fun W h => toIntS_any A n cap xs W hn' h)
  have HS := Lib.hid (fun b off W (h : Sl W b off n xs) => sNumberOfSet_any _ n n xs W hm (Known.of h))
  have HI := Lib.hid (fun b off W (h : Sl W b off n xs) => iNumberOfSet_any _ n n xs W hm (Known.of h))
  generalize ofB 9 xs n = r0 at *
  generalize riseB 9 xs n = r1 at *
  go_enter Try.func7, Try.ntmps7
  go_wp2_with fail
  refine (HTO.out _ HK.out).mono ?_
  rintro e w2 ⟨rfl, hi2, hb2⟩
  have HI2 := Lib.hid hi2.sl
  clear hi2
  go_wp2_with fail
  refine (HS.out _ _ _ HI2.out).mono ?_
  rintro e w3 ⟨rfl, hb3⟩
  have g3 := bfrom hb2 hb3
  clear HI2 hb2 hb3
  go_wp2_with fail
  refine (HTO.out _ (HK.out.now g3)).mono ?_
  rintro e w4 ⟨rfl, hi4, hb4⟩
  have HI4 := Lib.hid hi4.sl
  have g4 := bfrom g3 hb4
  clear hi4 g3 hb4
  go_wp2_with fail
  refine (HI.out _ _ _ HI4.out).mono ?_
  rintro e w5 ⟨rfl, hb5⟩
  have HI5 := Lib.hid (HI4.out.now hb5)
  have g5 := bfrom g4 hb5
  clear HI4 g4 hb5
  go_wp2_with fail
  refine (HTO.out _ (HK.out.now g5)).mono ?_
  rintro e w6 ⟨rfl, hi6, hb6⟩
  have HI6 := Lib.hid hi6.sl
  have HI56 := Lib.hid (HI5.out.now hb6)
  have g6 := bfrom g5 hb6
  clear hi6 g5 hb6
  go_wp2_with fail
  refine (eqIntS_in _ _ n n _ _ n xs xs _ hm HI56.out HI6.out).mono ?_
  rintro e w7 ⟨rfl, hb7⟩
  rw [HSM.out]
  go_wp2
  go_ret
  exact ⟨rfl, bfrom g6 hb7⟩
end Go.Proofs.Ytpcijgdpinmcmaa
