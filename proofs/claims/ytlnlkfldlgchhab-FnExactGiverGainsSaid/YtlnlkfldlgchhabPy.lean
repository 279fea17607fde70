/- Contract of the model's GiverGains. -/
import Derived.Test.YtlnlkfldlgchhabPu
import Derived.Test.YtlnlkfldlgchhabPw
import Derived.Test.YtlnlkfldlgchhabPo
import Derived.Outline
namespace Go.Proofs.Ytlnlkfldlgchhab
open Go.RowKit Vo

set_option maxRecDepth 20000 in
set_option maxHeartbeats 2000000 in
theorem sGiverGains_any (q : Int) (A : Option Addr) (n cap : Nat) (ws : List Int) (x y z : Int) (w : World) (hm : n ≤ 9223372036854775807) (hk : Known w A n ws) (hxw : (Lit.int .i64 x).wf = true) (hyw : (Lit.int .i64 y).wf = true) (hzw : (Lit.int .i64 z).wf = true) :
    Calls Try.prog 44 #[.agg #[.int .i64 q, .slice A n cap], .int .i64 x, .int .i64 y, .int .i64 z] w fun e w' => e = .returned (.tuple #[.int .i64 (gvG q ws n x y z), .bool (giveOk q ws n x y z)]) ∧ Below w.heap.size w w' := by
  have HK := Lib.hid hk
  clear hk
  have hb0 := below1 w (.cells #[.int .i64 q, .slice A n cap] 29)
  have hx := Box.new w (.int .i64 q) (.slice A n cap)
  have HGV := Lib.hid (fun W (h : Known W A n ws) => unGive_any q A n cap ws x y z W hm h hxw hyw hzw)
  clear hxw hyw hzw
  cases hok : giveOk q ws n x y z with
  | false =>
    have HV := Lib.hid (gvG_no hok)
    have HO := Lib.hid hok
    rw [hok] at HGV
    clear hok
    go_enter Try.func44, Try.ntmps44
    go_wp2_with fail
    refine (HGV.out _ (HK.out.now hb0)).mono ?_
    rintro e w1 ⟨A1, cap1, rfl, _, hb1⟩
    have g1 := bfrom hb0 hb1
    have g2 := bfrom g1 (below1 w1 (.cells #[.int .i64 (qIf false q), .slice A1 (nIf false n) cap1] 29))
    go_wp2
    go_ret2
    exact ⟨by rw [HV.out]; rfl, g2⟩
  | true =>
    obtain ⟨hask, hg'⟩ := giveOk_parts hok
    obtain ⟨hg, hxb, _⟩ := giveAsk_parts hask
    obtain ⟨i, rfl⟩ : ∃ i : Nat, x = i := ⟨x.toNat, by omega⟩
    rw [Int.toNat_natCast] at hg'
    have hin : i < n := by omega
    have HV := Lib.hid (show gvG q ws n i y z = sgn ((swingN q (giveL ws n i y.toNat z) n i : Int) * swS q ws n - (swingN q ws n i : Int) * swS q (giveL ws n i y.toNat z) n) from by
      rw [gvG_yes hok, Int.toNat_natCast]
      unfold gainV
      rw [partN_one _ hin, partN_one _ hin])
    rw [hok, Int.toNat_natCast] at HGV
    have HG := Lib.hid hg
    have HG' := Lib.hid hg'
    have hn9 := hg.hi
    have HS1 := Lib.hid (fun b2 W (h1 : Known W A n ws) (h2 : Sl W b2 0 1 [(i : Int)]) => unSwings_any q A n cap ws b2 0 1 1 [(i : Int)] W hg h1 (by omega) h2 (one_in hin))
    have HS2 := Lib.hid (fun A' cap' b2 W (h1 : Known W A' n (giveL ws n i y.toNat z)) (h2 : Sl W b2 0 1 [(i : Int)]) => unSwings_any q A' n cap' (giveL ws n i y.toNat z) b2 0 1 1 [(i : Int)] W hg' h1 (by omega) h2 (one_in hin))
    rw [setN_one] at HS1 HS2
    have HUG := Lib.hid (fun W => unGain_any (swingN q ws n i) (swS q ws n) (swingN q (giveL ws n i y.toNat z) n i) (swS q (giveL ws n i y.toNat z) n) W
      (by have := swingN_le q ws n i hn9; omega) (by have := swS_le (q := q) (ws := ws) hn9; omega) (by have := swingN_le q (giveL ws n i y.toNat z) n i hn9; omega) (by have := swS_le (q := q) (ws := giveL ws n i y.toNat z) hn9; omega))
    obtain ⟨L, hL⟩ : ∃ L, L = giveL ws n i y.toNat z := ⟨_, rfl⟩
    rw [← hL] at HGV HS2 HUG HV
    generalize swingN q ws n i = a at *
    generalize swS q ws n = b at *
    generalize swingN q L n i = a' at *
    generalize swS q L n = b' at *
    clear hok hask hg hg' hL
    go_enter Try.func44, Try.ntmps44
    go_wp2_with fail
    refine (HGV.out _ (HK.out.now hb0)).mono ?_
    rintro e w1 ⟨A1, cap1, rfl, hh1, hb1⟩
    have g1 := bfrom hb0 hb1
    have hx1 := hx.now hb1
    have hg2 := Box.new w1 (.int .i64 q) (.slice A1 n cap1)
    have hx2 := hx1.alloc (.cells #[.int .i64 q, .slice A1 n cap1] 29)
    have g2 := bfrom g1 (below1 w1 (.cells #[.int .i64 q, .slice A1 n cap1] 29))
    have HK1 := Lib.hid (hh1.known.now (below1 w1 (.cells #[.int .i64 q, .slice A1 n cap1] 29)))
    rw [show nIf true n = n from rfl] at HK1
    rw [show nIf true n = n from rfl, show qIf true q = q from rfl]
    obtain ⟨c0, c1⟩ := hx2.cells
    have b3 := below1 (w1.alloc (.cells #[.int .i64 q, .slice A1 n cap1] 29)) (.cells #[.int .i64 i] 3)
    have hl3 := Lib.hid (lit1_sl (w1.alloc (.cells #[.int .i64 q, .slice A1 n cap1] 29)) i)
    have HK3 := Lib.hid (HK.out.now (bfrom g2 b3))
    clear hh1 hx hb0 hb1 hx1
    go_wp2_with fail
    simp only [World.size_alloc] at hl3
    refine (HS1.out _ _ HK3.out hl3.out).mono ?_
    rintro e w4 ⟨rfl, hb4⟩
    have b24 := bfrom b3 hb4
    have hg4 := hg2.now b24
    have g4 := bfrom g2 b24
    have HK14 := Lib.hid (HK1.out.now b24)
    clear hl3 HK3 c0 c1
    obtain ⟨d0, d1⟩ := hg4.cells
    have b5 := below1 w4 (.cells #[.int .i64 i] 3)
    have hl5 := Lib.hid (lit1_sl w4 i)
    have HK5 := Lib.hid (HK14.out.now b5)
    go_wp2_with fail
    refine (HS2.out A1 cap1 _ _ HK5.out hl5.out).mono ?_
    rintro e w6 ⟨rfl, hb6⟩
    go_wp2_with fail
    refine (HUG.out _).mono ?_
    rintro e w7 ⟨rfl, rfl⟩
    go_wp2
    go_ret2
    exact ⟨by rw [HV.out]; rfl, bfrom g4 (bfrom b5 hb6)⟩
end Go.Proofs.Ytlnlkfldlgchhab
