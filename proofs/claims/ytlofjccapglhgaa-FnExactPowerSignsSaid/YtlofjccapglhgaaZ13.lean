/- Contracts of the program's PowerSigns. -/
import Derived.Test.YtlofjccapglhgaaZ12
import Derived.Test.YtlofjccapglhgaaQ0
import Derived.Outline
namespace Go.Proofs.Ytlofjccapglhgaa
open Go.RowKit Vo

theorem leads_lists (q : Int) (A : Option Addr) (n cap : Nat) (ws : List Int) (w : World) (hk : Known w A n ws) (hg : Vo.Good q ws n) :
    Lists (perZ (leadZ q ws n) n) 79 (.agg #[.int .i64 q, .slice A n cap]) w := by
  obtain ⟨b, off, rfl, hsl⟩ := hk.get hg.lo
  exact ⟨enters_of Try.func79 (by kernel_rfl) rfl, fun W hb => powerLeads_any q b off n cap ws W (by have := hg.hi; omega) hg.ok (hsl.now hb)⟩

set_option maxHeartbeats 1000000 in
theorem compare0_any (x : Int) (w : World) : Calls Try.prog 82 #[.int .i64 x, .int .i64 0] w fun e w' => e = .returned (.int .i64 (sgn x)) ∧ w = w' := by
  rcases Int.lt_trichotomy x 0 with h | h | h
  · have HV := Lib.hid (sgn_neg h)
    go_enter Try.func82, Try.ntmps82
    go_wp2
    go_ret
    exact ⟨by rw [HV.out]; rfl, rfl⟩
  · subst h
    go_enter Try.func82, Try.ntmps82
    go_wp2
    go_ret
    exact ⟨rfl, rfl⟩
  · have HV := Lib.hid (sgn_pos h)
    have hd : decide (x < 0) = false := by simp; omega
    go_enter Try.func82, Try.ntmps82
    go_wp2
    go_ret
    exact ⟨by rw [HV.out]; rfl, rfl⟩

set_option maxHeartbeats 1000000 in
theorem signs1_any (f : Nat → Int) (g n cap gl : Nat) (k : Nat) (w : World) (_hn : n < 10) (hk : k < n) (hr : Own w g 3 n (fun j => .int .i64 (f j))) (hb : Box1 22 w gl (.slice (some ⟨g, 0, none⟩) n cap)) :
    Calls Try.prog 81 #[.int .i64 k, .pointer (some ⟨gl, 0, none⟩)] w fun e w' => e = .returned (.int .i64 (sgn (f k))) ∧ Below w.heap.size w w' := by
  have hc := hb.cell
  have hgl := hb.lt
  have hcell := hr.cell hk
  have hg := hr.lt
  have hkI : (k : Int) < (n : Int) := by omega
  clear hr hb
  generalize f k = x at *
  go_enter Try.func81, Try.ntmps81
  go_wp2_with (go_at_call 82; refine (compare0_any x _).mono ?_; rintro e w1 ⟨rfl, rfl⟩)
  go_ret
  exact ⟨rfl, Below.refl _ _⟩
theorem signs_nums (f : Nat → Int) (g n cap gl : Nat) (w : World) (hn : n < 10) (hr : Own w g 3 n (fun j => .int .i64 (f j))) (hb : Box1 22 w gl (.slice (some ⟨g, 0, none⟩) n cap)) :
    NumsZ (fun k => sgn (f k)) 81 #[] #[.pointer (some ⟨gl, 0, none⟩)] n w :=
  ⟨enters_of Try.func81 (by kernel_rfl) rfl, fun W k hk hW => signs1_any f g n cap gl k W hn hk (hr.now' hW) (hb.now hW)⟩

def signsL (q : Int) (ws : List Int) (n : Nat) : List Int := okL (goodB q ws n) (perZ (fun k => sgn (leadZ q ws n k)) n)
theorem signsL_len (q : Int) (ws : List Int) (n : Nat) : (signsL q ws n).length ≤ 1048576 := by
  by_cases hg : Vo.Good q ws n
  · exact okL_len (by rw [perZ_len]; have := hg.hi; omega)
  · unfold signsL; rw [okL_no (goodB_false hg)]; simp

set_option maxHeartbeats 2000000 in
theorem powerSigns_any (q : Int) (A : Option Addr) (n cap : Nat) (ws : List Int) (w : World) (hm : n ≤ 9223372036854775807) (hk : Known w A n ws) :
    Calls Try.prog 40 #[.agg #[.int .i64 q, .slice A n cap]] w fun e w' => PairAt (signsL q ws n) (goodB q ws n) w w' e := by
  have HK := Lib.hid hk
  clear hk
  have hb0 := below1 w (.cells #[.int .i64 q, .slice A n cap] 28)
  have hx := Box.new w (.int .i64 q) (.slice A n cap)
  by_cases hg : Vo.Good q ws n
  · have HG := Lib.hid hg
    have HGB := Lib.hid (goodB_true hg)
    have hn9 := hg.hi
    have hn1 := hg.lo
    have HV := Lib.hid (show signsL q ws n = perZ (fun k => sgn (leadZ q ws n k)) n from okL_yes HGB.out)
    have HLE := Lib.hid (perZ_len (fun k => sgn (leadZ q ws n k)) n)
    have HVL := Lib.hid (okL_yes (L := perZ (leadZ q ws n) n) HGB.out)
    have HPL := Lib.hid (perZ_len (leadZ q ws n) n)
    clear hg
    go_enter Try.func40, Try.ntmps40
    go_wp2_with fail
    refine (numbersOf_any (perZ (leadZ q ws n) n) _ q A n cap ws _ hm (HK.out.now hb0) (fun hg => leads_lists q A n cap ws _ (HK.out.now hb0) hg)).mono ?_
    rintro e w1 ⟨A1, cap1, rfl, hown, hb1⟩
    rw [HVL.out, HPL.out] at hown ⊢
    rw [HGB.out]
    obtain ⟨g, cp', hv, hgl, _, _⟩ := owns_head hown (by omega)
    obtain ⟨rfl, rfl⟩ : A1 = some ⟨g, 0, none⟩ ∧ cap1 = cp' := by simpa using hv
    have hO : Own w1 g 3 n (fun j => .int .i64 (leadZ q ws n j)) := Own.of_own hown fun i hi => by simp [perZ, hi]
    have g1 := bfrom hb0 hb1
    have b2 := below1 w1 (.cells #[.slice (some ⟨g, 0, none⟩) n cap1] 22)
    have hx2 := (hx.now hb1).now b2
    have hl2 := Box1.new 22 w1 (.slice (some ⟨g, 0, none⟩) n cap1)
    have HO2 := Lib.hid (hO.now' b2)
    obtain ⟨c0, c1⟩ := hx2.cells
    have g2 := bfrom g1 b2
    clear hown hv hO
    go_wp2_with fail
    refine (forEachMemberZ_any (fun k => sgn (leadZ q ws n k)) _ _ _ q _ n cap _ (by omega) (signs_nums (leadZ q ws n) g n cap1 w1.heap.size _ (by omega) HO2.out hl2)).mono ?_
    rintro e w3 ⟨A3, cap3, rfl, hown3, hb3⟩
    have HO3 := Lib.hid hown3
    clear hown3
    go_wp2
    go_ret2
    rw [HV.out, HGB.out]
    exact ⟨A3, cap3, rfl, owns_less HO3.out g2.size, bfrom g2 hb3⟩
  · have HGB := Lib.hid (goodB_false hg)
    go_enter Try.func40, Try.ntmps40
    go_wp2_with fail
    refine (numbersOf_any (perZ (leadZ q ws n) n) _ q A n cap ws _ hm (HK.out.now hb0) (fun h => absurd h hg)).mono ?_
    rintro e w1 ⟨A1, cap1, rfl, hown, hb1⟩
    rw [okL_no HGB.out, HGB.out]
    clear hown
    go_wp2
    go_ret2
    rw [show signsL q ws n = [] from okL_no HGB.out, HGB.out]
    exact PairAt.none_ ((bfrom hb0 hb1).alloc (bfrom hb0 hb1).size _)
theorem powerSigns_ans (q : Int) (A : Option Addr) (n cap : Nat) (ws : List Int) (w : World) (hm : n ≤ 9223372036854775807) (hk : Known w A n ws) :
    Calls Try.prog 40 #[.agg #[.int .i64 q, .slice A n cap]] w fun e w' => Ans (RS (signsL q ws n)) (goodB q ws n) w w' e := (powerSigns_any q A n cap ws w hm hk).mono fun _ _ h => h.ans
end Go.Proofs.Ytlofjccapglhgaa
