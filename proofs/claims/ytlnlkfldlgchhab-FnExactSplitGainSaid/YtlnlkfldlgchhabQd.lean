/- Contract of the model's SplitGain. -/
import Derived.Test.YtlnlkfldlgchhabQc
import Derived.Test.YtlnlkfldlgchhabQa
import Derived.Test.YtlnlkfldlgchhabPy
import Derived.Outline
namespace Go.Proofs.Ytlnlkfldlgchhab
open Go.RowKit Vo

set_option maxRecDepth 20000 in
set_option maxHeartbeats 2000000 in
theorem sSplitGain_core (q : Int) (A : Option Addr) (n : Nat) (ws : List Int) (x y : Int) (w : World) (hm : n ≤ 9223372036854775807) (hk : Known w A n ws) :
    Calls Try.prog 48 #[.agg #[.int .i64 q, .slice A n n], .int .i64 x, .int .i64 y] w fun e w' => e = .returned (.tuple #[.int .i64 (sgG q ws n x y), .bool (splitOk q ws n x y)]) ∧ Below w.heap.size w w' := by
  have HK := Lib.hid hk
  clear hk
  have hb0 := below1 w (.cells #[.int .i64 q, .slice A n n] 29)
  have hx := Box.new w (.int .i64 q) (.slice A n n)
  cases hok : splitOk q ws n x y with
  | false =>
    have HV := Lib.hid (sgG_no hok)
    have HO := Lib.hid hok
    clear hok
    go_enter Try.func48, Try.ntmps48
    go_wp2_with fail
    refine (unPart_any q A n n ws x y _ hm (HK.out.now hb0)).mono ?_
    rintro e w1 ⟨rfl, hb1⟩
    rw [HO.out]
    go_wp2
    go_ret2
    exact ⟨by rw [HV.out]; rfl, bfrom hb0 hb1⟩
  | true =>
    obtain ⟨hg, hxb, h9, hg'⟩ := splitOk_good hok
    obtain ⟨_, _, hy0, hy1⟩ := partAsk_parts (splitOk_parts hok).1
    have HO := Lib.hid hok
    obtain ⟨b, off, rfl, hsl⟩ := HK.out.get hg.lo
    have HSL := Lib.hid hsl
    obtain ⟨i, rfl⟩ : ∃ i : Nat, x = i := ⟨x.toNat, by omega⟩
    rw [Int.toNat_natCast] at hg' hy1
    have hin : i < n := by omega
    have HV := Lib.hid (show sgG q ws n i y = sgn (((swingN q (splitL ws n i y) (n + 1) i + swingN q (splitL ws n i y) (n + 1) (i + 1) : Nat) : Int) * swS q ws n - (swingN q ws n i : Int) * swS q (splitL ws n i y) (n + 1)) from by
      rw [sgG_yes hok, Int.toNat_natCast]
      unfold gainV twoS
      rw [Int.toNat_natCast, partN_one _ hin, partN_two _ (show i < n + 1 by omega) (show i + 1 < n + 1 by omega) (by omega)])
    have HU := Lib.hid (fun W (h : Sl W b off n ws) => unSplit_any q b off n i ws y W hin hg hy0 hy1 h)
    have HS1 := Lib.hid (fun b2 W (h1 : Known W (some ⟨b, off, none⟩) n ws) (h2 : Sl W b2 0 1 [(i : Int)]) => unSwings_any q (some ⟨b, off, none⟩) n n ws b2 0 1 1 [(i : Int)] W hg h1 (by omega) h2 (one_in hin))
    have HS2 := Lib.hid (fun A' cap' b2 W (h1 : Known W A' (n + 1) (splitL ws n i y)) (h2 : Sl W b2 0 2 [(i : Int), ((i + 1 : Nat) : Int)]) => unSwings_any q A' (n + 1) cap' (splitL ws n i y) b2 0 2 2 [(i : Int), ((i + 1 : Nat) : Int)] W hg' h1 (by omega) h2 (two_in (by omega) (by omega)))
    rw [setN_one] at HS1
    rw [setN_two] at HS2
    have HUG := Lib.hid (fun W => unGain_any (swingN q ws n i) (swS q ws n) (swingN q (splitL ws n i y) (n + 1) i + swingN q (splitL ws n i y) (n + 1) (i + 1)) (swS q (splitL ws n i y) (n + 1)) W
      (by have := swingN_le q ws n i (by omega); omega) (by have := swS_le (q := q) (ws := ws) (n := n) (by omega); omega) (by have := swingN_le q (splitL ws n i y) (n + 1) i (by omega); have := swingN_le q (splitL ws n i y) (n + 1) (i + 1) (by omega); omega) (by have := swS_le (q := q) (ws := splitL ws n i y) (n := n + 1) (by omega); omega))
    obtain ⟨L, hL⟩ : ∃ L, L = splitL ws n i y := ⟨_, rfl⟩
    rw [← hL] at HU HS2 HUG HV
    generalize swingN q ws n i = a at *
    generalize swS q ws n = s at *
    generalize swingN q L (n + 1) i + swingN q L (n + 1) (i + 1) = a' at *
    generalize swS q L (n + 1) = s' at *
    have hi1 : ((i + 1 : Nat) : Int) = (i : Int) + 1 := by omega
    rw [hi1] at HS2
    clear hok hg hg' hL hsl
    go_enter Try.func48, Try.ntmps48
    go_wp2_with fail
    refine (unPart_any q _ n n ws i y _ hm (HK.out.now hb0)).mono ?_
    rintro e w1 ⟨rfl, hb1⟩
    rw [HO.out]
    have g1 := bfrom hb0 hb1
    have hx1 := hx.now hb1
    clear hx hb0 hb1
    obtain ⟨c0, c1⟩ := hx1.cells
    have b2 := below1 w1 (.cells #[.int .i64 i] 3)
    have hl2 := Lib.hid (lit1_sl w1 i)
    have HK2 := Lib.hid (HK.out.now (bfrom g1 b2))
    go_wp2_with fail
    refine (HS1.out _ _ HK2.out hl2.out).mono ?_
    rintro e w3 ⟨rfl, hb3⟩
    have b13 := bfrom b2 hb3
    have g3 := bfrom g1 b13
    have hx3 := hx1.now b13
    clear hl2 HK2 c0 c1
    obtain ⟨c0, c1⟩ := hx3.cells
    go_wp2_with fail
    refine (HU.out _ (HSL.out.now g3)).mono ?_
    rintro e w4 ⟨g, cp, rfl, hge, hI, hb4⟩
    have g4 := bfrom g3 hb4
    have b5 := below1 w4 (.cells #[.int .i64 i, .int .i64 ((i : Int) + 1)] 3)
    have hl5 := Lib.hid (lit2_sl w4 i ((i : Int) + 1))
    have HK5 := Lib.hid ((Known.of (Ints.sl hI)).now b5)
    clear hI
    go_wp2_with fail
    refine (HS2.out _ cp _ _ HK5.out hl5.out).mono ?_
    rintro e w6 ⟨rfl, hb6⟩
    go_wp2_with fail
    refine (HUG.out _).mono ?_
    rintro e w7 ⟨rfl, rfl⟩
    go_wp2
    go_ret2
    exact ⟨by rw [HV.out]; rfl, bfrom g4 (bfrom b5 hb6)⟩
theorem sSplitGain_any (q : Int) (A : Option Addr) (n cap : Nat) (ws : List Int) (x y : Int) (w : World) (hm : n ≤ 9223372036854775807) (hk : Known w A n ws) (_hxw : (Lit.int .i64 x).wf = true) (_hyw : (Lit.int .i64 y).wf = true) (hcap : n = cap := by exact rfl) :
    Calls Try.prog 48 #[.agg #[.int .i64 q, .slice A n cap], .int .i64 x, .int .i64 y] w fun e w' => e = .returned (.tuple #[.int .i64 (sgG q ws n x y), .bool (splitOk q ws n x y)]) ∧ Below w.heap.size w w' := by
  subst hcap
  exact sSplitGain_core q A n ws x y w hm hk
end Go.Proofs.Ytlnlkfldlgchhab
