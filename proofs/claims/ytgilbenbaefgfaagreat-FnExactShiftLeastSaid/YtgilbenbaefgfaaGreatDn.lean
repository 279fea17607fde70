/- The model's deShifted, the sets that are shifted least. -/
import Derived.Test.YtgilbenbaefgfaaGreatDm
import Derived.BigQuiet
import Derived.Outline
namespace Go.Proofs.YtgilbenbaefgfaaGreat
open Go.RowKit Vo

set_option maxRecDepth 20000 in
set_option maxHeartbeats 16000000 in
theorem deShifted_true (p : Nat → Bool) (n g0 cap : Nat) (w : World) (hn : n ≤ 9) (hw : Own w g0 4 (2^n) (fun s => .bool (p s))) :
    Calls Tryz.prog 35 #[.slice (some ⟨g0, 0, none⟩) (2^n : Nat) cap, .int .i64 n, .bool true] w fun e w' => ∃ v, e = .returned v ∧ RSS0 (setsL ((inOrder n).filter (shiftP p (grK (worthP p n)) n true))) w.heap.size w'.heap.size v w' ∧ Below w.heap.size w w' := by
  obtain ⟨i0, hi0, hz0, hz1, hz2⟩ := info_parts infoInts
  have HW := Lib.hid (fun W (hb : Below w.heap.size w W) => hw.below hb hw.lt)
  have HDG := Lib.hid (fun i j W (hi : i < n) (hj : j < n) (hb : Below w.heap.size w W) => deGreater_any p n i j g0 cap W (by omega) hi hj (hw.below hb hw.lt))
  clear hw
  obtain ⟨gr, hgr⟩ : ∃ gr, gr = grK (worthP p n) := ⟨_, rfl⟩
  have HDG := Lib.hid (show ∀ i j W, i < n → j < n → Below w.heap.size w W → Calls Tryz.prog 27 #[.slice (some ⟨g0, 0, none⟩) (2^n : Nat) cap, .int .i64 i, .int .i64 j] W fun e w' => e = .returned (.bool (gr i j)) ∧ W = w' from fun i j W hi hj hb => by rw [hgr]; exact HDG.out i j W hi hj hb)
  rw [← hgr]
  clear hgr
  have h512 := pow_lt hn
  have HSORT := Lib.hid (kindL_sort (shiftP p gr n true) (n := n) hn)
  have HXB := Lib.hid (show ∀ s i, s < 2^n → i < n → s ^^^ 2^i < 2^n ∧ 2^i < 512 from fun s i hs hi => ⟨Nat.xor_lt_two_pow hs (Nat.pow_lt_pow_right (by omega) hi), by have := Nat.pow_lt_pow_right (a := 2) (by omega) hi; omega⟩)
  have HSP := Lib.hid (show ∀ s, shiftP p gr n true s = ((p s == true) && allK (stepI p gr n true s) n) from fun _ => rfl)
  have HFZ := Lib.hid (fun s i => fitJ_zero p gr n true s i)
  have HFS := Lib.hid (fun s i j => fitJ_succ p gr n true s i j)
  have HFA := Lib.hid (fun (s i : Nat) (h : s.testBit i = true) => fitJ_all (p := p) (gr := gr) (n := n) h)
  have HSK := Lib.hid (fun (s i : Nat) (h : s.testBit i = false) => allI_skip (p := p) (gr := gr) (n := n) (l := true) (s := s) (i := i) h)
  have HJS := Lib.hid (fun (s i j : Nat) (h : s.testBit j = true) => stepJ_same (p := p) (gr := gr) (i := i) h)
  have HJL := Lib.hid (fun (s i j : Nat) (h : gr i j = false) => stepJ_less (p := p) (l := true) (s := s) h)
  have HJA := Lib.hid (fun (s i j : Nat) (h : s.testBit j = false) (hg : gr i j = true) => stepJ_ask (p := p) (gr := gr) (l := true) (s := s) (i := i) (j := j) h hg)
  obtain ⟨sp, hsp⟩ : ∃ sp, sp = shiftP p gr n true := ⟨_, rfl⟩
  simp only [← hsp] at HSORT HSP
  rw [← hsp]
  clear hsp
  obtain ⟨AI, hAI⟩ : ∃ AI : Nat → Nat → Bool, AI = fun s i => allK (stepI p gr n true s) i := ⟨_, rfl⟩
  have HA0 := Lib.hid (fun s => show AI s 0 = true from by rw [hAI]; rfl)
  have HAE := Lib.hid (fun s i => show allK (stepI p gr n true s) i = AI s i from by rw [hAI])
  simp only [HAE.out] at HSP HFZ HFA HSK
  clear hAI HAE
  obtain ⟨FJ, hFJ⟩ : ∃ FJ, FJ = fitJ p gr n true := ⟨_, rfl⟩
  simp only [← hFJ] at HFZ HFS HFA
  clear hFJ
  obtain ⟨SJ, hSJ⟩ : ∃ SJ, SJ = stepJ p gr true := ⟨_, rfl⟩
  simp only [← hSJ] at HFS HJS HJL HJA
  clear hSJ
  obtain ⟨N, hN⟩ : ∃ N, 2^n = N := ⟨_, rfl⟩
  simp only [hN] at HW HDG h512 HSORT HXB ⊢
  clear hN
  rw [← HSORT.out]
  go_enter Tryz.func35, Tryz.ntmps35
  go_wp2
  go_loopw [7, 8, 9, 10, 11, 12, 15] (fun v _ _ _ _ _ x wr => ∃ (b c : Nat) (B : Option Addr) (cp : Nat), b ≤ N ∧ x = .int .i64 b ∧ v = .slice B c cp ∧ c = (kindL sp b).length ∧ SSb w.heap.size (kindL sp b) (.slice B c cp) wr ∧ Below w.heap.size w wr) (fun _ _ _ _ _ _ x _ => N - (intOf x).toNat)
  case atStart => exact ⟨0, 0, none, 0, Nat.zero_le _, rfl, rfl, rfl, SSb.nil _ _, Below.refl _ _⟩
  case round =>
    obtain ⟨b, c, B, cp, hb, rfl, rfl, hc, hss, hbr⟩ := hrel
    have HSS := Lib.hid hss
    have HC := Lib.hid hc
    have hcl := kindL_len sp b
    have hszr := hbr.size
    have hc512 : c ≤ 512 := by omega
    clear hss hc hcl
    obtain ⟨wo, hwo⟩ : ∃ z, z = wr := ⟨_, rfl⟩
    subst hwo
    by_cases hlt : b < N
    · have hcell := (HW.out _ hbr).cell hlt
      have hb512 : b < 512 := by omega
      have HSB := Lib.hid (HSP.out b)
      cases hpb : p b
      all_goals
        rw [hpb] at hcell HSB
        have HPB := Lib.hid hpb
        clear hpb
      · have HNO := Lib.hid (kindL_no (P := sp) (j := b) (by rw [HSB.out]; rfl))
        go_wp2
        go_roundw
        case rel => exact ⟨b + 1, c, B, cp, by omega, by go_num, rfl, by rw [HNO.out]; exact HC.out, by rw [HNO.out]; exact HSS.out, hbr⟩
        case measure => simp [intOf]; omega
      · have HSE := Lib.hid (show sp b = AI b n from by rw [HSB.out]; rfl)
        go_wp2
        go_loopw [10, 11, 12] (fun f x _ wi => ∃ i : Nat, i ≤ n ∧ x = .int .i64 i ∧ f = .bool (AI b i) ∧ Below wo.heap.size wo wi) (fun _ x _ _ => n - (intOf x).toNat)
        case atStart => exact ⟨0, Nat.zero_le _, rfl, by rw [HA0.out], Below.refl _ _⟩
        case round =>
          obtain ⟨i, hi, rfl, rfl, hbm2⟩ := hrel
          have hbm3 := hbr.trans (hbm2.mono hszr)
          by_cases hlt2 : i < n
          · have hbm := bit_mod b i
            have hnn := div_nn b i
            cases hbit : b.testBit i
            all_goals
              rw [hbit] at hbm
              have HBIT := Lib.hid hbit
              clear hbit
            · have HE := Lib.hid (HSK.out b i HBIT.out)
              go_wp2
              go_roundw
              case rel => exact ⟨i + 1, by omega, by go_num, by rw [HE.out], hbm2⟩
              case measure => simp [intOf]; omega
            · have HALL := Lib.hid (HFA.out b i HBIT.out)
              obtain ⟨hxi, hp5⟩ := HXB.out b i hlt hlt2
              have hxor := i64_xor_nat b (2^i) hb512 hp5
              have hshi := shl_pow2 i (by omega)
              have hcx := (HW.out _ hbm3).cell hxi
              have HZ := Lib.hid (HFZ.out b i)
              have HS := Lib.hid (fun j => HFS.out b i j)
              have HJS1 := Lib.hid (fun j h => HJS.out b i j h)
              have HJL1 := Lib.hid (fun j h => HJL.out b i j h)
              have HJA1 := Lib.hid (fun j h hg => HJA.out b i j h hg)
              have HXJ := Lib.hid (fun j hj => HXB.out (b ^^^ 2^i) j hxi hj)
              have hx512 : b ^^^ 2^i < 512 := by omega
              obtain ⟨P, hPe⟩ : ∃ P, 2^i = P := ⟨_, rfl⟩
              rw [hPe] at hxor hshi hp5
              simp only [hPe] at hcx HZ HJA1 HXJ hx512 hxi
              clear hPe
              obtain ⟨z, hze⟩ : ∃ z, b ^^^ P = z := ⟨_, rfl⟩
              rw [hze] at hxor
              simp only [hze] at hcx HZ HJA1 HXJ hx512 hxi
              clear hze
              have hzN : (z : Int) < N := by omega
              have hi64 : (i : Int) < 64 := by omega
              cases hA : AI b i
              · have HZ2 := Lib.hid (show FJ b i 0 = false from by rw [HZ.out, hA]; rfl)
                clear hA
                go_wp2
                try simp only [hshi]
                go_loopw [10, 12] (fun f y wi => ∃ j : Nat, j ≤ n ∧ y = .int .i64 j ∧ f = .bool (FJ b i j) ∧ Below wo.heap.size wo wi) (fun _ y _ => n - (intOf y).toNat)
                case atStart => exact ⟨0, Nat.zero_le _, rfl, by rw [HZ2.out] <;> rfl, hbm2⟩
                case round =>
                  obtain ⟨j, hj, rfl, rfl, hbj2⟩ := hrel
                  have HSJ := Lib.hid (HS.out j)
                  have hbw := hbr.trans (hbj2.mono hszr)
                  by_cases hlt3 : j < n
                  · have hbmj := bit_mod b j
                    have hnnj := div_nn b j
                    cases hbj : b.testBit j
                    all_goals
                      rw [hbj] at hbmj
                      have HBJ := Lib.hid hbj
                      clear hbj
                    · have HDJ := Lib.hid (HDG.out i j _ hlt2 hlt3 hbw)
                      cases hg : gr i j
                      · rw [hg] at HDJ
                        have HE := Lib.hid (show FJ b i (j+1) = FJ b i j from by rw [HSJ.out, HJL1.out j hg, Bool.and_true])
                        clear hg
                        go_wp2_with (go_at_call 27; refine HDJ.out.mono ?_; rintro e w4 ⟨rfl, rfl⟩)
                        go_roundw
                        case rel => exact ⟨j + 1, by omega, by go_num, by rw [HE.out], hbj2⟩
                        case measure => simp [intOf]; omega
                      · rw [hg] at HDJ
                        have HJV := Lib.hid (HJA1.out j HBJ.out hg)
                        clear hg
                        obtain ⟨hyj, hp6⟩ := HXJ.out j hlt3
                        have hxor2 := i64_xor_nat z (2^j) hx512 hp6
                        have hshj := shl_pow2 j (by omega)
                        have hcy := (HW.out _ hbw).cell hyj
                        obtain ⟨Q, hQe⟩ : ∃ Q, 2^j = Q := ⟨_, rfl⟩
                        rw [hQe] at hxor2 hshj hp6 HJV
                        simp only [hQe] at hcy hyj
                        clear hQe
                        obtain ⟨y, hye⟩ : ∃ y, z ^^^ Q = y := ⟨_, rfl⟩
                        rw [hye] at hxor2 HJV
                        simp only [hye] at hcy hyj
                        clear hye
                        have hyN : (y : Int) < N := by omega
                        have hj64 : (j : Int) < 64 := by omega
                        cases hF : FJ b i j
                        · have HE := Lib.hid (show FJ b i (j+1) = false from by rw [HSJ.out, hF]; rfl)
                          clear hF
                          go_wp2_with (go_at_call 27; refine HDJ.out.mono ?_; rintro e w4 ⟨rfl, rfl⟩)
                          go_quiet (fail)
                          go_wp2
                          go_roundw
                          case rel => exact ⟨j + 1, by omega, by go_num, by rw [HE.out] <;> rfl, below_drewN hbj2 _⟩
                          case measure => simp [intOf]; omega
                        · cases hpy : p y
                          · have HE := Lib.hid (show FJ b i (j+1) = true from by rw [HSJ.out, HJV.out, hF, hpy]; rfl)
                            rw [hpy] at hcy
                            clear hF hpy
                            go_wp2_with (go_at_call 27; refine HDJ.out.mono ?_; rintro e w4 ⟨rfl, rfl⟩)
                            go_quiet (fail)
                            go_wp2
                            go_roundw
                            case rel => exact ⟨j + 1, by omega, by go_num, by rw [HE.out] <;> rfl, below_drewN hbj2 _⟩
                            case measure => simp [intOf]; omega
                          · have HE := Lib.hid (show FJ b i (j+1) = false from by rw [HSJ.out, HJV.out, hF, hpy]; rfl)
                            rw [hpy] at hcy
                            clear hF hpy
                            go_wp2_with (go_at_call 27; refine HDJ.out.mono ?_; rintro e w4 ⟨rfl, rfl⟩)
                            go_quiet (fail)
                            go_wp2
                            go_roundw
                            case rel => exact ⟨j + 1, by omega, by go_num, by rw [HE.out] <;> rfl, below_drewN hbj2 _⟩
                            case measure => simp [intOf]; omega
                    · have HE := Lib.hid (show FJ b i (j+1) = FJ b i j from by rw [HSJ.out, HJS1.out j HBJ.out, Bool.and_true])
                      go_wp2
                      go_roundw
                      case rel => exact ⟨j + 1, by omega, by go_num, by rw [HE.out], hbj2⟩
                      case measure => simp [intOf]; omega
                  · obtain rfl : j = n := by omega
                    go_wp2
                    go_roundw
                    case rel => exact ⟨i + 1, by omega, by go_num, by rw [HALL.out], hbj2⟩
                    case measure => simp [intOf]; omega
              · cases hpz : p z
                · have HZ2 := Lib.hid (show FJ b i 0 = true from by rw [HZ.out, hA, hpz]; rfl)
                  rw [hpz] at hcx
                  clear hA hpz
                  go_wp2
                  try simp only [hshi]
                  go_loopw [10, 12] (fun f y wi => ∃ j : Nat, j ≤ n ∧ y = .int .i64 j ∧ f = .bool (FJ b i j) ∧ Below wo.heap.size wo wi) (fun _ y _ => n - (intOf y).toNat)
                  case atStart => exact ⟨0, Nat.zero_le _, rfl, by rw [HZ2.out] <;> rfl, hbm2⟩
                  case round =>
                    obtain ⟨j, hj, rfl, rfl, hbj2⟩ := hrel
                    have HSJ := Lib.hid (HS.out j)
                    have hbw := hbr.trans (hbj2.mono hszr)
                    by_cases hlt3 : j < n
                    · have hbmj := bit_mod b j
                      have hnnj := div_nn b j
                      cases hbj : b.testBit j
                      all_goals
                        rw [hbj] at hbmj
                        have HBJ := Lib.hid hbj
                        clear hbj
                      · have HDJ := Lib.hid (HDG.out i j _ hlt2 hlt3 hbw)
                        cases hg : gr i j
                        · rw [hg] at HDJ
                          have HE := Lib.hid (show FJ b i (j+1) = FJ b i j from by rw [HSJ.out, HJL1.out j hg, Bool.and_true])
                          clear hg
                          go_wp2_with (go_at_call 27; refine HDJ.out.mono ?_; rintro e w4 ⟨rfl, rfl⟩)
                          go_roundw
                          case rel => exact ⟨j + 1, by omega, by go_num, by rw [HE.out], hbj2⟩
                          case measure => simp [intOf]; omega
                        · rw [hg] at HDJ
                          have HJV := Lib.hid (HJA1.out j HBJ.out hg)
                          clear hg
                          obtain ⟨hyj, hp6⟩ := HXJ.out j hlt3
                          have hxor2 := i64_xor_nat z (2^j) hx512 hp6
                          have hshj := shl_pow2 j (by omega)
                          have hcy := (HW.out _ hbw).cell hyj
                          obtain ⟨Q, hQe⟩ : ∃ Q, 2^j = Q := ⟨_, rfl⟩
                          rw [hQe] at hxor2 hshj hp6 HJV
                          simp only [hQe] at hcy hyj
                          clear hQe
                          obtain ⟨y, hye⟩ : ∃ y, z ^^^ Q = y := ⟨_, rfl⟩
                          rw [hye] at hxor2 HJV
                          simp only [hye] at hcy hyj
                          clear hye
                          have hyN : (y : Int) < N := by omega
                          have hj64 : (j : Int) < 64 := by omega
                          cases hF : FJ b i j
                          · have HE := Lib.hid (show FJ b i (j+1) = false from by rw [HSJ.out, hF]; rfl)
                            clear hF
                            go_wp2_with (go_at_call 27; refine HDJ.out.mono ?_; rintro e w4 ⟨rfl, rfl⟩)
                            go_quiet (fail)
                            go_wp2
                            go_roundw
                            case rel => exact ⟨j + 1, by omega, by go_num, by rw [HE.out] <;> rfl, below_drewN hbj2 _⟩
                            case measure => simp [intOf]; omega
                          · cases hpy : p y
                            · have HE := Lib.hid (show FJ b i (j+1) = true from by rw [HSJ.out, HJV.out, hF, hpy]; rfl)
                              rw [hpy] at hcy
                              clear hF hpy
                              go_wp2_with (go_at_call 27; refine HDJ.out.mono ?_; rintro e w4 ⟨rfl, rfl⟩)
                              go_quiet (fail)
                              go_wp2
                              go_roundw
                              case rel => exact ⟨j + 1, by omega, by go_num, by rw [HE.out] <;> rfl, below_drewN hbj2 _⟩
                              case measure => simp [intOf]; omega
                            · have HE := Lib.hid (show FJ b i (j+1) = false from by rw [HSJ.out, HJV.out, hF, hpy]; rfl)
                              rw [hpy] at hcy
                              clear hF hpy
                              go_wp2_with (go_at_call 27; refine HDJ.out.mono ?_; rintro e w4 ⟨rfl, rfl⟩)
                              go_quiet (fail)
                              go_wp2
                              go_roundw
                              case rel => exact ⟨j + 1, by omega, by go_num, by rw [HE.out] <;> rfl, below_drewN hbj2 _⟩
                              case measure => simp [intOf]; omega
                      · have HE := Lib.hid (show FJ b i (j+1) = FJ b i j from by rw [HSJ.out, HJS1.out j HBJ.out, Bool.and_true])
                        go_wp2
                        go_roundw
                        case rel => exact ⟨j + 1, by omega, by go_num, by rw [HE.out], hbj2⟩
                        case measure => simp [intOf]; omega
                    · obtain rfl : j = n := by omega
                      go_wp2
                      go_roundw
                      case rel => exact ⟨i + 1, by omega, by go_num, by rw [HALL.out], hbj2⟩
                      case measure => simp [intOf]; omega
                · have HZ2 := Lib.hid (show FJ b i 0 = false from by rw [HZ.out, hA, hpz]; rfl)
                  rw [hpz] at hcx
                  clear hA hpz
                  go_wp2
                  try simp only [hshi]
                  go_loopw [10, 12] (fun f y wi => ∃ j : Nat, j ≤ n ∧ y = .int .i64 j ∧ f = .bool (FJ b i j) ∧ Below wo.heap.size wo wi) (fun _ y _ => n - (intOf y).toNat)
                  case atStart => exact ⟨0, Nat.zero_le _, rfl, by rw [HZ2.out] <;> rfl, hbm2⟩
                  case round =>
                    obtain ⟨j, hj, rfl, rfl, hbj2⟩ := hrel
                    have HSJ := Lib.hid (HS.out j)
                    have hbw := hbr.trans (hbj2.mono hszr)
                    by_cases hlt3 : j < n
                    · have hbmj := bit_mod b j
                      have hnnj := div_nn b j
                      cases hbj : b.testBit j
                      all_goals
                        rw [hbj] at hbmj
                        have HBJ := Lib.hid hbj
                        clear hbj
                      · have HDJ := Lib.hid (HDG.out i j _ hlt2 hlt3 hbw)
                        cases hg : gr i j
                        · rw [hg] at HDJ
                          have HE := Lib.hid (show FJ b i (j+1) = FJ b i j from by rw [HSJ.out, HJL1.out j hg, Bool.and_true])
                          clear hg
                          go_wp2_with (go_at_call 27; refine HDJ.out.mono ?_; rintro e w4 ⟨rfl, rfl⟩)
                          go_roundw
                          case rel => exact ⟨j + 1, by omega, by go_num, by rw [HE.out], hbj2⟩
                          case measure => simp [intOf]; omega
                        · rw [hg] at HDJ
                          have HJV := Lib.hid (HJA1.out j HBJ.out hg)
                          clear hg
                          obtain ⟨hyj, hp6⟩ := HXJ.out j hlt3
                          have hxor2 := i64_xor_nat z (2^j) hx512 hp6
                          have hshj := shl_pow2 j (by omega)
                          have hcy := (HW.out _ hbw).cell hyj
                          obtain ⟨Q, hQe⟩ : ∃ Q, 2^j = Q := ⟨_, rfl⟩
                          rw [hQe] at hxor2 hshj hp6 HJV
                          simp only [hQe] at hcy hyj
                          clear hQe
                          obtain ⟨y, hye⟩ : ∃ y, z ^^^ Q = y := ⟨_, rfl⟩
                          rw [hye] at hxor2 HJV
                          simp only [hye] at hcy hyj
                          clear hye
                          have hyN : (y : Int) < N := by omega
                          have hj64 : (j : Int) < 64 := by omega
                          cases hF : FJ b i j
                          · have HE := Lib.hid (show FJ b i (j+1) = false from by rw [HSJ.out, hF]; rfl)
                            clear hF
                            go_wp2_with (go_at_call 27; refine HDJ.out.mono ?_; rintro e w4 ⟨rfl, rfl⟩)
                            go_quiet (fail)
                            go_wp2
                            go_roundw
                            case rel => exact ⟨j + 1, by omega, by go_num, by rw [HE.out] <;> rfl, below_drewN hbj2 _⟩
                            case measure => simp [intOf]; omega
                          · cases hpy : p y
                            · have HE := Lib.hid (show FJ b i (j+1) = true from by rw [HSJ.out, HJV.out, hF, hpy]; rfl)
                              rw [hpy] at hcy
                              clear hF hpy
                              go_wp2_with (go_at_call 27; refine HDJ.out.mono ?_; rintro e w4 ⟨rfl, rfl⟩)
                              go_quiet (fail)
                              go_wp2
                              go_roundw
                              case rel => exact ⟨j + 1, by omega, by go_num, by rw [HE.out] <;> rfl, below_drewN hbj2 _⟩
                              case measure => simp [intOf]; omega
                            · have HE := Lib.hid (show FJ b i (j+1) = false from by rw [HSJ.out, HJV.out, hF, hpy]; rfl)
                              rw [hpy] at hcy
                              clear hF hpy
                              go_wp2_with (go_at_call 27; refine HDJ.out.mono ?_; rintro e w4 ⟨rfl, rfl⟩)
                              go_quiet (fail)
                              go_wp2
                              go_roundw
                              case rel => exact ⟨j + 1, by omega, by go_num, by rw [HE.out] <;> rfl, below_drewN hbj2 _⟩
                              case measure => simp [intOf]; omega
                      · have HE := Lib.hid (show FJ b i (j+1) = FJ b i j from by rw [HSJ.out, HJS1.out j HBJ.out, Bool.and_true])
                        go_wp2
                        go_roundw
                        case rel => exact ⟨j + 1, by omega, by go_num, by rw [HE.out], hbj2⟩
                        case measure => simp [intOf]; omega
                    · obtain rfl : j = n := by omega
                      go_wp2
                      go_roundw
                      case rel => exact ⟨i + 1, by omega, by go_num, by rw [HALL.out], hbj2⟩
                      case measure => simp [intOf]; omega
          · obtain rfl : i = n := by omega
            have HSS2 := Lib.hid (HSS.out.now hbm2)
            have hszw := hbm3.size
            cases hq : AI b i
            · have HNO := Lib.hid (kindL_no (P := sp) (j := b) (HSE.out.trans hq))
              clear hq
              go_wp2
              go_roundw
              case rel => exact ⟨b + 1, c, B, cp, by omega, by go_num, rfl, by rw [HNO.out]; exact HC.out, by rw [HNO.out]; exact HSS2.out, hbm3⟩
              case measure => simp [intOf]; omega
            · have HYES := Lib.hid (kindL_yes (P := sp) (j := b) (HSE.out.trans hq))
              clear hq
              obtain ⟨xs, _, ho, _⟩ := HSS2.out
              rw [← HC.out] at ho
              have HXS := Lib.hid ho
              clear ho
              obtain ⟨m, hm⟩ : ∃ m, m = (mem b 9).length := ⟨_, rfl⟩
              have hm9 : m ≤ 9 := by have := mem_len b 9; omega
              have HM := Lib.hid hm
              clear hm
              go_wp2_with (first
                | (go_at_call 60; refine (voList_any b _ hb512).mono ?_; rintro e w6 ⟨A6, cap6, rfl, hown6, hb6⟩; rw [← HM.out] at hown6 ⊢; have HL6 := Lib.hid hown6; clear hown6; have HO6 := Lib.hid (owns_now HXS.out hb6); have b6 := bfromB hbm3 hb6 hszw; have hsz6 := b6.size)
                | (at_builtin; refine wpList_append_lies _ rfl _ _ _ rfl w.heap.size 35 i0 _ 1 24 Tryz.underlying22 hi0 hz0 hz1 hz2 rfl (by decide) (.slice B c cp) c xs rfl (HO6.out.alloc _) ⟨w6.heap.size, 0, none⟩ 1 1 [.slice A6 m cap6] rfl rfl (World.news_of_block (cs := #[.slice A6 m cap6]) (t := 35) (fr := (0, 0)) (heap_alloc_new w6 _)) (by simp [Value.oneCell']) (by omega) (by unfold maxLen; omega) (by omega) (by simp; omega) (w6.heap.size + 1) (by simp) ?_; intro gg cap4 w7 hown7 hgrow7 hat7 hlt7)
                | fail)
              have b7 : Below w.heap.size w w7 := (b6.alloc hsz6 (.cells #[.slice A6 m cap6] 35)).grown hgrow7 (by simp; omega) fun i hi => owns_le HO6.out hi
              have HP := Lib.hid (SSb.push (l := mem b 9) HSS2.out HC.out hszw hb6 ⟨A6, cap6, by rw [HM.out], by rw [← HM.out]; exact HL6.out⟩ (Nat.le_succ _) _ (below1 w6 (.cells #[.slice A6 m cap6] 35)) (by simp) xs HXS.out hown7 hgrow7 hat7)
              go_roundw
              case rel => exact ⟨b + 1, c + 1, some ⟨gg, 0, none⟩, cap4, by omega, by go_num, by simp, by rw [HYES.out, List.length_append, ← HC.out]; rfl, by rw [HYES.out]; exact HP.out, b7⟩
              case measure => simp [intOf]; omega
    · obtain rfl : b = N := by omega
      obtain ⟨P0, hP, hA⟩ := SSb.pairs HSS.out HC.out setsL_small
      have HPP := Lib.hid hP
      have HA := Lib.hid hA
      clear hP hA
      go_wp2_with (go_at_call 61; refine (voSorted_any w.heap.size (kindL sp b) P0 B c cp _ hc512 HPP.out HA.out).mono ?_; rintro e w6 ⟨B6, cp6, P6, rfl, hown6, hP6, hb6⟩)
      go_ret
      exact ⟨_, rfl, hP6.rss hown6 hb6 w.heap.size (Nat.le_refl _) hszr, bfromB hbr hb6 hszr⟩

end Go.Proofs.YtgilbenbaefgfaaGreat
