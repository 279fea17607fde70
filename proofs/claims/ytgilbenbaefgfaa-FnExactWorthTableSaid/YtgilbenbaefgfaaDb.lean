/- Desire in the model: who is worth whom; IsWorth, CompareMembers, AreUnlike. -/
import Derived.Test.YtgilbenbaefgfaaDa
import Derived.Test.YtgilbenbaefgfaaN4
import Derived.Outline
namespace Go.Proofs.Ytgilbenbaefgfaa
open Go.RowKit Vo

set_option maxRecDepth 20000 in
set_option maxHeartbeats 4000000 in
theorem deWorth_any (p : Nat → Bool) (n i j g cap : Nat) (w : World) (hn : n < 10) (hi : i < n) (hj : j < n) (hw : Own w g 4 (2^n) (fun s => .bool (p s))) :
    Calls Try.prog 42 #[.slice (some ⟨g, 0, none⟩) (2^n : Nat) cap, .int .i64 i, .int .i64 j] w fun e w' => e = .returned (.bool (worthP p n i j)) ∧ w = w' := by
  have HW := Lib.hid hw
  have h512 := pow_lt (n := n) (by omega)
  have HNI := Lib.hid (show ∀ s, s < 2^n → s.testBit i = false → s + 2^i < 2^n ∧ s ||| 2^i = s + 2^i from fun s h hb => by rw [add_pow h hi hb]; exact ⟨or_pow_lt h hi, rfl⟩)
  have HNJ := Lib.hid (show ∀ s, s < 2^n → s.testBit j = false → s + 2^j < 2^n ∧ s ||| 2^j = s + 2^j from fun s h hb => by rw [add_pow h hj hb]; exact ⟨or_pow_lt h hj, rfl⟩)
  have hshi := shl_pow i (by omega)
  have hshj := shl_pow j (by omega)
  have hPi := Nat.pow_le_pow_right (show 1 ≤ 2 by omega) (show i ≤ 9 by omega)
  have hPj := Nat.pow_le_pow_right (show 1 ≤ 2 by omega) (show j ≤ 9 by omega)
  have HSW := Lib.hid (show ∀ s, worthS p i j s = (s.testBit i || (s.testBit j || (!p (s ||| 2^j) || p (s ||| 2^i)))) from fun _ => rfl)
  have HF := Lib.hid (fun t (ht : t < 2^n) (h : worthS p i j t = false) => show worthP p n i j = false from allK_false t ht h)
  have HT := Lib.hid (show (∀ t, t < 2^n → worthS p i j t = true) → worthP p n i j = true from fun h => allK_iff.2 h)
  clear hw
  obtain ⟨N, hN⟩ : ∃ N, 2^n = N := ⟨_, rfl⟩
  rw [hN] at HW h512 HNI HNJ HF HT ⊢
  clear hN
  obtain ⟨P, hPe⟩ : ∃ P, 2^i = P := ⟨_, rfl⟩
  rw [hPe] at HNI hshi hPi HSW
  clear hPe
  obtain ⟨Q, hQe⟩ : ∃ Q, 2^j = Q := ⟨_, rfl⟩
  rw [hQe] at HNJ hshj hPj HSW
  clear hQe
  obtain ⟨r, hr⟩ : ∃ r, r = worthP p n i j := ⟨_, rfl⟩
  rw [← hr] at HF HT ⊢
  clear hr
  go_enter Try.func42, Try.ntmps42
  go_wp2
  go_loopw [7, 10] (fun _ x wr => ∃ b : Nat, b ≤ N ∧ x = .int .i64 b ∧ (∀ t, t < b → worthS p i j t = true) ∧ wr = w) (fun _ x _ => N - (intOf x).toNat)
  case atStart => exact ⟨0, Nat.zero_le _, rfl, fun _ h => by omega, rfl⟩
  case round =>
    obtain ⟨b, hb, rfl, hall, rfl⟩ := hrel
    have HA := Lib.hid hall
    clear hall
    by_cases hlt : b < N
    · have hbi := bit_mod0 b i
      have hbj := bit_mod0 b j
      have hnni := div_nn b i
      have hnnj := div_nn b j
      have HSTEP := Lib.hid (show worthS p i j b = true → ∀ t, t < b + 1 → worthS p i j t = true from fun h t ht => by
        by_cases e : t = b
        · subst e; exact h
        · exact HA.out t (by omega))
      cases hbit : b.testBit i
      · cases hbit2 : b.testBit j
        · obtain ⟨hlt2, hor⟩ := HNI.out b hlt hbit
          obtain ⟨hlt3, hor3⟩ := HNJ.out b hlt hbit2
          have hcI := HW.out.cell hlt2
          have hcJ := HW.out.cell hlt3
          have hsumI : ((b : Int) + (P : Int)).toNat = b + P := by omega
          have hsumJ : ((b : Int) + (Q : Int)).toNat = b + Q := by omega
          have hS2 := HSW.out b
          rw [hbit, hbit2, hor, hor3] at hS2
          rw [hbit] at hbi
          rw [hbit2] at hbj
          have h0 : (0 : Int) ≤ (b : Int) + P := by omega
          have h1 : (b : Int) + P < N := by omega
          have h2 : (0 : Int) ≤ (b : Int) + Q := by omega
          have h3 : (b : Int) + Q < N := by omega
          clear hor hor3
          cases hpj : p (b + Q)
          · rw [hpj] at hcJ hS2
            have HS := Lib.hid (HSTEP.out (by rw [hS2]; rfl))
            clear hbit hbit2 hS2 hpj
            go_wp2
            go_roundw
            case rel => exact ⟨b + 1, by omega, by go_num, HS.out, trivial⟩
            case measure => simp [intOf]; omega
          · cases hpi : p (b + P)
            · rw [hpj] at hcJ hS2
              rw [hpi] at hcI hS2
              have HR := Lib.hid (HF.out b hlt (by rw [hS2]; rfl))
              clear hbit hbit2 hS2 hpj hpi
              go_wp2
              go_ret
              exact ⟨by rw [HR.out]; rfl, rfl⟩
            · rw [hpj] at hcJ hS2
              rw [hpi] at hcI hS2
              have HS := Lib.hid (HSTEP.out (by rw [hS2]; rfl))
              clear hbit hbit2 hS2 hpj hpi
              go_wp2
              go_roundw
              case rel => exact ⟨b + 1, by omega, by go_num, HS.out, trivial⟩
              case measure => simp [intOf]; omega
        · have hS2 := HSW.out b
          rw [hbit, hbit2] at hS2
          rw [hbit] at hbi
          rw [hbit2] at hbj
          have HS := Lib.hid (HSTEP.out (by rw [hS2]; rfl))
          clear hbit hbit2 hS2
          go_wp2
          go_roundw
          case rel => exact ⟨b + 1, by omega, by go_num, HS.out, trivial⟩
          case measure => simp [intOf]; omega
      · have hS2 := HSW.out b
        rw [hbit] at hS2
        rw [hbit] at hbi
        have HS := Lib.hid (HSTEP.out (by rw [hS2]; rfl))
        clear hbit hS2
        go_wp2
        go_roundw
        case rel => exact ⟨b + 1, by omega, by go_num, HS.out, trivial⟩
        case measure => simp [intOf]; omega
    · obtain rfl : b = N := by omega
      have HR := Lib.hid (HT.out HA.out)
      go_wp2
      go_ret
      exact ⟨by rw [HR.out]; rfl, rfl⟩

set_option maxHeartbeats 2000000 in
theorem dePair_any (m : Int) (A : Option Addr) (n cap : Nat) (L : List (List Int)) (x y : Int) (w : World) (hl : n ≤ 1048576) (hcap : n ≤ cap) (hk : ListsR w A n L) :
    Calls Try.prog 41 #[.agg #[.int .i64 m, .slice A n cap], .int .i64 x, .int .i64 y] w fun e w' => e = .returned (.bool (duoB m L x y)) ∧ Below w.heap.size w w' := by
  have HK := Lib.hid (hk.now (below1 w (.cells #[.int .i64 m, .slice A n cap] 28)))
  clear hk
  have hx := BoxT.new 28 w (.int .i64 m) (.slice A n cap)
  have hb0 := below1 w (.cells #[.int .i64 m, .slice A n cap] 28)
  obtain ⟨c0, c1⟩ := hx.cells
  have HD := Lib.hid (show duoB m L x y = (goodG m L && (inB x 0 (m-1) && (inB y 0 (m-1) && decide (x ≠ y)))) from rfl)
  cases hg : goodG m L with
  | false =>
    have HGB := Lib.hid hg
    rw [hg] at HD
    clear hg
    go_enter Try.func41, Try.ntmps41
    go_wp2_with fail
    refine (gmGood_any m A n cap L _ hl hcap HK.out).mono ?_
    rintro e w1 ⟨rfl, hb1⟩
    rw [HGB.out]
    go_wp2
    go_ret
    exact ⟨by rw [HD.out]; rfl, bfrom hb0 hb1⟩
  | true =>
    have HGB := Lib.hid hg
    obtain ⟨h1, h9, _, _, _⟩ := goodG_parts hg
    rw [hg] at HD
    clear hg
    go_enter Try.func41, Try.ntmps41
    go_wp2_with fail
    refine (gmGood_any m A n cap L _ hl hcap HK.out).mono ?_
    rintro e w1 ⟨rfl, hb1⟩
    rw [HGB.out]
    have g1 := bfrom hb0 hb1
    have hx1 := hx.now hb1
    clear c0 c1
    obtain ⟨c0, c1⟩ := hx1.cells
    cases hix : inB x 0 (m-1) with
    | false =>
      rw [hix] at HD
      have HX := Lib.hid hix
      clear hix
      go_wp2_with fail
      refine (l1In_any x 0 (m-1) _).mono ?_
      rintro e w2 ⟨rfl, rfl⟩
      rw [HX.out]
      go_wp2
      go_ret
      exact ⟨by rw [HD.out]; rfl, g1⟩
    | true =>
      rw [hix] at HD
      have HX := Lib.hid hix
      clear hix
      cases hiy : inB y 0 (m-1) with
      | false =>
        rw [hiy] at HD
        have HY := Lib.hid hiy
        clear hiy
        go_wp2_with fail
        refine (l1In_any x 0 (m-1) _).mono ?_
        rintro e w2 ⟨rfl, rfl⟩
        rw [HX.out]
        go_wp2_with fail
        refine (l1In_any y 0 (m-1) _).mono ?_
        rintro e w2 ⟨rfl, rfl⟩
        rw [HY.out]
        go_wp2
        go_ret
        exact ⟨by rw [HD.out]; rfl, g1⟩
      | true =>
        rw [hiy] at HD
        have HY := Lib.hid hiy
        clear hiy
        go_wp2_with fail
        refine (l1In_any x 0 (m-1) _).mono ?_
        rintro e w2 ⟨rfl, rfl⟩
        rw [HX.out]
        go_wp2_with fail
        refine (l1In_any y 0 (m-1) _).mono ?_
        rintro e w2 ⟨rfl, rfl⟩
        rw [HY.out]
        go_wp2
        go_ret
        exact ⟨by rw [HD.out]; by_cases e : x = y <;> simp [e], g1⟩

set_option maxHeartbeats 1000000 in
theorem deGreater_any (p : Nat → Bool) (n i j g cap : Nat) (w : World) (hn : n < 10) (hi : i < n) (hj : j < n) (hw : Own w g 4 (2^n) (fun s => .bool (p s))) :
    Calls Try.prog 47 #[.slice (some ⟨g, 0, none⟩) (2^n : Nat) cap, .int .i64 i, .int .i64 j] w fun e w' => e = .returned (.bool (worthP p n i j && !worthP p n j i)) ∧ w = w' := by
  have H1 := Lib.hid (deWorth_any p n i j g cap w hn hi hj hw)
  have H2 := Lib.hid (deWorth_any p n j i g cap w hn hj hi hw)
  clear hw
  obtain ⟨N, hN⟩ : ∃ N, 2^n = N := ⟨_, rfl⟩
  rw [hN] at H1 H2 ⊢
  clear hN
  generalize worthP p n i j = a at *
  generalize worthP p n j i = b at *
  cases a
  · go_enter Try.func47, Try.ntmps47
    go_wp2_with fail
    refine H1.out.mono ?_
    rintro e w1 ⟨rfl, rfl⟩
    go_wp2
    go_ret
    exact ⟨rfl, rfl⟩
  · go_enter Try.func47, Try.ntmps47
    go_wp2_with fail
    refine H1.out.mono ?_
    rintro e w1 ⟨rfl, rfl⟩
    go_wp2_with fail
    refine H2.out.mono ?_
    rintro e w1 ⟨rfl, rfl⟩
    go_wp2
    go_ret
    exact ⟨rfl, rfl⟩

set_option maxHeartbeats 1000000 in
theorem deUnlike_any (p : Nat → Bool) (n i j g cap : Nat) (w : World) (hn : n < 10) (hi : i < n) (hj : j < n) (hw : Own w g 4 (2^n) (fun s => .bool (p s))) :
    Calls Try.prog 46 #[.slice (some ⟨g, 0, none⟩) (2^n : Nat) cap, .int .i64 i, .int .i64 j] w fun e w' => e = .returned (.bool (!worthP p n i j && !worthP p n j i)) ∧ w = w' := by
  have H1 := Lib.hid (deWorth_any p n i j g cap w hn hi hj hw)
  have H2 := Lib.hid (deWorth_any p n j i g cap w hn hj hi hw)
  clear hw
  obtain ⟨N, hN⟩ : ∃ N, 2^n = N := ⟨_, rfl⟩
  rw [hN] at H1 H2 ⊢
  clear hN
  generalize worthP p n i j = a at *
  generalize worthP p n j i = b at *
  cases a
  · go_enter Try.func46, Try.ntmps46
    go_wp2_with fail
    refine H1.out.mono ?_
    rintro e w1 ⟨rfl, rfl⟩
    go_wp2_with fail
    refine H2.out.mono ?_
    rintro e w1 ⟨rfl, rfl⟩
    go_wp2
    go_ret
    exact ⟨rfl, rfl⟩
  · go_enter Try.func46, Try.ntmps46
    go_wp2_with fail
    refine H1.out.mono ?_
    rintro e w1 ⟨rfl, rfl⟩
    go_wp2
    go_ret
    exact ⟨rfl, rfl⟩

set_option maxRecDepth 20000 in
set_option maxHeartbeats 2000000 in
theorem sIsWorth_any (m : Int) (A : Option Addr) (n cap : Nat) (L : List (List Int)) (x y : Int) (w : World) (hl : n ≤ 1048576) (hcap : n ≤ cap) (hk : ListsR w A n L) (_hxw : (Lit.int .i64 x).wf = true) (_hyw : (Lit.int .i64 y).wf = true) :
    Calls Try.prog 12 #[.agg #[.int .i64 m, .slice A n cap], .int .i64 x, .int .i64 y] w fun e w' => e = .returned (.tuple #[.bool (worthG m L x y), .bool (duoB m L x y)]) ∧ Below w.heap.size w w' := by
  have HK := Lib.hid (hk.now (below1 w (.cells #[.int .i64 m, .slice A n cap] 28)))
  have hx := BoxT.new 28 w (.int .i64 m) (.slice A n cap)
  have hb0 := below1 w (.cells #[.int .i64 m, .slice A n cap] 28)
  clear hk
  obtain ⟨c0, c1⟩ := hx.cells
  cases hd : duoB m L x y with
  | false =>
    have HD := Lib.hid hd
    have HV := Lib.hid (worthG_no hd)
    clear hd
    go_enter Try.func12, Try.ntmps12
    go_wp2_with fail
    refine (dePair_any m A n cap L x y _ hl hcap HK.out).mono ?_
    rintro e w1 ⟨rfl, hb1⟩
    rw [HD.out]
    go_wp2
    go_ret2
    exact ⟨by rw [HV.out]; rfl, bfrom hb0 hb1⟩
  | true =>
    obtain ⟨hg, ⟨hx0, hxm⟩, ⟨hy0, hym⟩, hne⟩ := duoB_parts hd
    obtain ⟨h1, h9, _, hr, _⟩ := goodG_parts hg
    obtain ⟨q, rfl⟩ : ∃ q : Nat, m = q := ⟨m.toNat, by omega⟩
    obtain ⟨i, rfl⟩ : ∃ i : Nat, x = i := ⟨x.toNat, by omega⟩
    obtain ⟨j, rfl⟩ : ∃ j : Nat, y = j := ⟨y.toNat, by omega⟩
    rw [Int.toNat_natCast] at hr
    have hq9 : q ≤ 9 := by omega
    have hq10 : q < 10 := by omega
    have hiq : i < q := by omega
    have hjq : j < q := by omega
    have HD := Lib.hid hd
    have HGA := Lib.hid (fun W h => gmAll_any q A n cap L W hq9 hl hr h)
    have HG := Lib.hid (show worthG (q : Int) L (i : Int) (j : Int) = worthP (wnL (setsN L)) q i j from worthG_yes hd)
    have HH := Lib.hid (show worthH (q : Int) L (i : Int) (j : Int) = worthP (wnL (setsN L)) q j i from worthH_yes hd)
    have HDW := Lib.hid (fun g cap W h => deWorth_any (wnL (setsN L)) q i j g cap W hq10 hiq hjq h)
    have HDU := Lib.hid (fun g cap W h => deUnlike_any (wnL (setsN L)) q i j g cap W hq10 hiq hjq h)
    have HDG := Lib.hid (fun g cap W h => deGreater_any (wnL (setsN L)) q i j g cap W hq10 hiq hjq h)
    have HDH := Lib.hid (fun g cap W h => deGreater_any (wnL (setsN L)) q j i g cap W hq10 hjq hiq h)
    have HP := Lib.hid (dePair_any (q : Int) A n cap L (i : Int) (j : Int) _ hl hcap HK.out)
    rw [HD.out] at HP
    clear hg hr hd hxm hym hne hiq hjq
    obtain ⟨N, hN⟩ : ∃ N, N = 2^q := ⟨_, rfl⟩
    rw [← hN] at HGA HDW HDU HDG HDH
    clear hN
    obtain ⟨a, ha⟩ : ∃ a, a = worthP (wnL (setsN L)) q i j := ⟨_, rfl⟩
    obtain ⟨b, hb⟩ : ∃ b, b = worthP (wnL (setsN L)) q j i := ⟨_, rfl⟩
    simp only [← ha, ← hb] at HDW HDU HDG HDH
    rw [← ha] at HG
    rw [← hb] at HH
    clear ha hb
    go_enter Try.func12, Try.ntmps12
    go_wp2_with fail
    refine HP.out.mono ?_
    rintro e w1 ⟨rfl, hb1⟩
    have g1 := bfrom hb0 hb1
    have hx1 := hx.now hb1
    clear c0 c1
    obtain ⟨c0, c1⟩ := hx1.cells
    go_wp2_with fail
    refine (HGA.out _ (HK.out.now hb1).lists).mono ?_
    rintro e w3 ⟨rfl, hown, hb3⟩
    have HO := Lib.hid hown
    clear hown
    go_wp2_with fail
    refine (HDW.out _ _ _ HO.out).mono ?_
    rintro e w4 ⟨rfl, rfl⟩
    go_wp2
    go_ret2
    exact ⟨by rw [HG.out]; rfl, bfrom g1 hb3⟩

set_option maxRecDepth 20000 in
set_option maxHeartbeats 2000000 in
theorem sCompareMembers_any (m : Int) (A : Option Addr) (n cap : Nat) (L : List (List Int)) (x y : Int) (w : World) (hl : n ≤ 1048576) (hcap : n ≤ cap) (hk : ListsR w A n L) (_hxw : (Lit.int .i64 x).wf = true) (_hyw : (Lit.int .i64 y).wf = true) :
    Calls Try.prog 16 #[.agg #[.int .i64 m, .slice A n cap], .int .i64 x, .int .i64 y] w fun e w' => e = .returned (.tuple #[.int .i64 (cmpV m L x y), .bool (cmpT m L x y)]) ∧ Below w.heap.size w w' := by
  have HK := Lib.hid (hk.now (below1 w (.cells #[.int .i64 m, .slice A n cap] 28)))
  have hx := BoxT.new 28 w (.int .i64 m) (.slice A n cap)
  have hb0 := below1 w (.cells #[.int .i64 m, .slice A n cap] 28)
  clear hk
  obtain ⟨c0, c1⟩ := hx.cells
  cases hd : duoB m L x y with
  | false =>
    have HD := Lib.hid hd
    have HV := Lib.hid (cmpV_no hd)
    have HVT := Lib.hid (cmpT_no hd)
    clear hd
    go_enter Try.func16, Try.ntmps16
    go_wp2_with fail
    refine (dePair_any m A n cap L x y _ hl hcap HK.out).mono ?_
    rintro e w1 ⟨rfl, hb1⟩
    rw [HD.out]
    go_wp2
    go_ret2
    exact ⟨by rw [HV.out, HVT.out]; rfl, bfrom hb0 hb1⟩
  | true =>
    obtain ⟨hg, ⟨hx0, hxm⟩, ⟨hy0, hym⟩, hne⟩ := duoB_parts hd
    obtain ⟨h1, h9, _, hr, _⟩ := goodG_parts hg
    obtain ⟨q, rfl⟩ : ∃ q : Nat, m = q := ⟨m.toNat, by omega⟩
    obtain ⟨i, rfl⟩ : ∃ i : Nat, x = i := ⟨x.toNat, by omega⟩
    obtain ⟨j, rfl⟩ : ∃ j : Nat, y = j := ⟨y.toNat, by omega⟩
    rw [Int.toNat_natCast] at hr
    have hq9 : q ≤ 9 := by omega
    have hq10 : q < 10 := by omega
    have hiq : i < q := by omega
    have hjq : j < q := by omega
    have HD := Lib.hid hd
    have HGA := Lib.hid (fun W h => gmAll_any q A n cap L W hq9 hl hr h)
    have HG := Lib.hid (show worthG (q : Int) L (i : Int) (j : Int) = worthP (wnL (setsN L)) q i j from worthG_yes hd)
    have HH := Lib.hid (show worthH (q : Int) L (i : Int) (j : Int) = worthP (wnL (setsN L)) q j i from worthH_yes hd)
    have HDW := Lib.hid (fun g cap W h => deWorth_any (wnL (setsN L)) q i j g cap W hq10 hiq hjq h)
    have HDU := Lib.hid (fun g cap W h => deUnlike_any (wnL (setsN L)) q i j g cap W hq10 hiq hjq h)
    have HDG := Lib.hid (fun g cap W h => deGreater_any (wnL (setsN L)) q i j g cap W hq10 hiq hjq h)
    have HDH := Lib.hid (fun g cap W h => deGreater_any (wnL (setsN L)) q j i g cap W hq10 hjq hiq h)
    have HP := Lib.hid (dePair_any (q : Int) A n cap L (i : Int) (j : Int) _ hl hcap HK.out)
    rw [HD.out] at HP
    clear hg hr hd hxm hym hne hiq hjq
    obtain ⟨N, hN⟩ : ∃ N, N = 2^q := ⟨_, rfl⟩
    rw [← hN] at HGA HDW HDU HDG HDH
    clear hN
    obtain ⟨a, ha⟩ : ∃ a, a = worthP (wnL (setsN L)) q i j := ⟨_, rfl⟩
    obtain ⟨b, hb⟩ : ∃ b, b = worthP (wnL (setsN L)) q j i := ⟨_, rfl⟩
    simp only [← ha, ← hb] at HDW HDU HDG HDH
    rw [← ha] at HG
    rw [← hb] at HH
    clear ha hb
    have HCV := Lib.hid (show cmpV (q : Int) L (i : Int) (j : Int) = (if a then (if b then 0 else 1) else if b then -1 else 0) from by unfold cmpV; rw [HG.out, HH.out])
    have HCT := Lib.hid (show cmpT (q : Int) L (i : Int) (j : Int) = (a || b) from by unfold cmpT; rw [HG.out, HH.out])
    go_enter Try.func16, Try.ntmps16
    go_wp2_with fail
    refine HP.out.mono ?_
    rintro e w1 ⟨rfl, hb1⟩
    have g1 := bfrom hb0 hb1
    have hx1 := hx.now hb1
    clear c0 c1
    obtain ⟨c0, c1⟩ := hx1.cells
    go_wp2_with fail
    refine (HGA.out _ (HK.out.now hb1).lists).mono ?_
    rintro e w3 ⟨rfl, hown, hb3⟩
    have HO := Lib.hid hown
    clear hown
    cases a
    · cases b
      · go_wp2_with fail
        refine (HDU.out _ _ _ HO.out).mono ?_
        rintro e w4 ⟨rfl, rfl⟩
        go_wp2
        go_ret2
        exact ⟨by rw [HCV.out, HCT.out]; rfl, bfrom g1 hb3⟩
      · go_wp2_with fail
        refine (HDU.out _ _ _ HO.out).mono ?_
        rintro e w4 ⟨rfl, rfl⟩
        go_wp2_with fail
        refine (HDG.out _ _ _ HO.out).mono ?_
        rintro e w4 ⟨rfl, rfl⟩
        go_wp2_with fail
        refine (HDH.out _ _ _ HO.out).mono ?_
        rintro e w4 ⟨rfl, rfl⟩
        go_wp2
        go_ret2
        exact ⟨by rw [HCV.out, HCT.out]; rfl, bfrom g1 hb3⟩
    · cases b
      · go_wp2_with fail
        refine (HDU.out _ _ _ HO.out).mono ?_
        rintro e w4 ⟨rfl, rfl⟩
        go_wp2_with fail
        refine (HDG.out _ _ _ HO.out).mono ?_
        rintro e w4 ⟨rfl, rfl⟩
        go_wp2
        go_ret2
        exact ⟨by rw [HCV.out, HCT.out]; rfl, bfrom g1 hb3⟩
      · go_wp2_with fail
        refine (HDU.out _ _ _ HO.out).mono ?_
        rintro e w4 ⟨rfl, rfl⟩
        go_wp2_with fail
        refine (HDG.out _ _ _ HO.out).mono ?_
        rintro e w4 ⟨rfl, rfl⟩
        go_wp2_with fail
        refine (HDH.out _ _ _ HO.out).mono ?_
        rintro e w4 ⟨rfl, rfl⟩
        go_wp2
        go_ret2
        exact ⟨by rw [HCV.out, HCT.out]; rfl, bfrom g1 hb3⟩

set_option maxRecDepth 20000 in
set_option maxHeartbeats 2000000 in
theorem sAreUnlike_any (m : Int) (A : Option Addr) (n cap : Nat) (L : List (List Int)) (x y : Int) (w : World) (hl : n ≤ 1048576) (hcap : n ≤ cap) (hk : ListsR w A n L) (_hxw : (Lit.int .i64 x).wf = true) (_hyw : (Lit.int .i64 y).wf = true) :
    Calls Try.prog 18 #[.agg #[.int .i64 m, .slice A n cap], .int .i64 x, .int .i64 y] w fun e w' => e = .returned (.tuple #[.bool (unlT m L x y), .bool (duoB m L x y)]) ∧ Below w.heap.size w w' := by
  have HK := Lib.hid (hk.now (below1 w (.cells #[.int .i64 m, .slice A n cap] 28)))
  have hx := BoxT.new 28 w (.int .i64 m) (.slice A n cap)
  have hb0 := below1 w (.cells #[.int .i64 m, .slice A n cap] 28)
  clear hk
  obtain ⟨c0, c1⟩ := hx.cells
  cases hd : duoB m L x y with
  | false =>
    have HD := Lib.hid hd
    have HV := Lib.hid (unlT_no hd)
    clear hd
    go_enter Try.func18, Try.ntmps18
    go_wp2_with fail
    refine (dePair_any m A n cap L x y _ hl hcap HK.out).mono ?_
    rintro e w1 ⟨rfl, hb1⟩
    rw [HD.out]
    go_wp2
    go_ret2
    exact ⟨by rw [HV.out]; rfl, bfrom hb0 hb1⟩
  | true =>
    obtain ⟨hg, ⟨hx0, hxm⟩, ⟨hy0, hym⟩, hne⟩ := duoB_parts hd
    obtain ⟨h1, h9, _, hr, _⟩ := goodG_parts hg
    obtain ⟨q, rfl⟩ : ∃ q : Nat, m = q := ⟨m.toNat, by omega⟩
    obtain ⟨i, rfl⟩ : ∃ i : Nat, x = i := ⟨x.toNat, by omega⟩
    obtain ⟨j, rfl⟩ : ∃ j : Nat, y = j := ⟨y.toNat, by omega⟩
    rw [Int.toNat_natCast] at hr
    have hq9 : q ≤ 9 := by omega
    have hq10 : q < 10 := by omega
    have hiq : i < q := by omega
    have hjq : j < q := by omega
    have HD := Lib.hid hd
    have HGA := Lib.hid (fun W h => gmAll_any q A n cap L W hq9 hl hr h)
    have HG := Lib.hid (show worthG (q : Int) L (i : Int) (j : Int) = worthP (wnL (setsN L)) q i j from worthG_yes hd)
    have HH := Lib.hid (show worthH (q : Int) L (i : Int) (j : Int) = worthP (wnL (setsN L)) q j i from worthH_yes hd)
    have HDW := Lib.hid (fun g cap W h => deWorth_any (wnL (setsN L)) q i j g cap W hq10 hiq hjq h)
    have HDU := Lib.hid (fun g cap W h => deUnlike_any (wnL (setsN L)) q i j g cap W hq10 hiq hjq h)
    have HDG := Lib.hid (fun g cap W h => deGreater_any (wnL (setsN L)) q i j g cap W hq10 hiq hjq h)
    have HDH := Lib.hid (fun g cap W h => deGreater_any (wnL (setsN L)) q j i g cap W hq10 hjq hiq h)
    have HP := Lib.hid (dePair_any (q : Int) A n cap L (i : Int) (j : Int) _ hl hcap HK.out)
    rw [HD.out] at HP
    clear hg hr hd hxm hym hne hiq hjq
    obtain ⟨N, hN⟩ : ∃ N, N = 2^q := ⟨_, rfl⟩
    rw [← hN] at HGA HDW HDU HDG HDH
    clear hN
    obtain ⟨a, ha⟩ : ∃ a, a = worthP (wnL (setsN L)) q i j := ⟨_, rfl⟩
    obtain ⟨b, hb⟩ : ∃ b, b = worthP (wnL (setsN L)) q j i := ⟨_, rfl⟩
    simp only [← ha, ← hb] at HDW HDU HDG HDH
    rw [← ha] at HG
    rw [← hb] at HH
    clear ha hb
    have HUT := Lib.hid (show unlT (q : Int) L (i : Int) (j : Int) = (!a && !b) from by unfold unlT; rw [HD.out, HG.out, HH.out]; rfl)
    go_enter Try.func18, Try.ntmps18
    go_wp2_with fail
    refine HP.out.mono ?_
    rintro e w1 ⟨rfl, hb1⟩
    have g1 := bfrom hb0 hb1
    have hx1 := hx.now hb1
    clear c0 c1
    obtain ⟨c0, c1⟩ := hx1.cells
    go_wp2_with fail
    refine (HGA.out _ (HK.out.now hb1).lists).mono ?_
    rintro e w3 ⟨rfl, hown, hb3⟩
    have HO := Lib.hid hown
    clear hown
    go_wp2_with fail
    refine (HDU.out _ _ _ HO.out).mono ?_
    rintro e w4 ⟨rfl, rfl⟩
    go_wp2
    go_ret2
    exact ⟨by rw [HUT.out]; rfl, bfrom g1 hb3⟩
end Go.Proofs.Ytgilbenbaefgfaa
