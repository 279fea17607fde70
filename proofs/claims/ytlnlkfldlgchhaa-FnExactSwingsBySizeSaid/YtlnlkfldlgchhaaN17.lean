/- The program's swings by size. -/
import Derived.Test.YtlnlkfldlgchhaaMh
namespace Go.Proofs.Ytlnlkfldlgchhaa
open Go.RowKit Vo

set_option maxHeartbeats 2000000 in
theorem swingsBySize_ans (q : Int) (A : Option Addr) (n cap : Nat) (ws : List Int) (x : Int) (w : World) (hm : n ≤ 9223372036854775807) (hk : Known w A n ws) (_hx : (Lit.int .i64 x).wf = true) :
    Calls Try.prog 27 #[.agg #[.int .i64 q, .slice A n cap], .int .i64 x] w fun e w' => Ans (RS (bySizeL q ws n x)) (memOk q ws n x) w w' e := by
  have HK := Lib.hid hk
  clear hk
  have hx := Box.new w (.int .i64 q) (.slice A n cap)
  have hb0 := below1 w (.cells #[.int .i64 q, .slice A n cap] 28)
  cases hok : memOk q ws n x with
  | true =>
    obtain ⟨hg, hx0, hxn⟩ := memOk_parts hok
    obtain ⟨b, off, rfl, hsl⟩ := HK.out.get hg.lo
    have HSL := Lib.hid hsl
    have HOK := Lib.hid hg.ok
    have HGB := Lib.hid (goodB_true hg)
    have HIN := Lib.hid (inB_yes (x := x) (lo := 0) (hi := (n : Int) - 1) hx0 (by omega))
    have hn9 := hg.hi
    have hn10 : n < 10 := by omega
    have HE := Lib.hid (show bySizeL q ws n x = perL (sizN (winB q ws n) x.toNat (2^n)) n from okL_yes hok)
    obtain ⟨k, rfl⟩ : ∃ k : Nat, x = k := ⟨x.toNat, by omega⟩
    rw [Int.toNat_natCast] at HE
    have hkn : k < n := by omega
    have HMO := Lib.hid hok
    clear hg hsl hok
    go_enter Try.func27, Try.ntmps27
    go_wp2_with fail
    refine (hasMember_any q _ n cap ws _ _ hm (HK.out.now hb0)).mono ?_
    rintro e w1 ⟨rfl, hb⟩
    rw [HMO.out]
    have hx1 := hx.now hb
    have g1 := bfrom hb0 hb
    have hs1 := Lib.hid (HSL.out.now g1)
    obtain ⟨hc0, hc1⟩ := hx1.cells
    go_wp2_with (first
      | (go_at_call 63; refine (countSwingsBySize_any q b off n cap ws k _ hn10 hkn HOK.out hs1.out).mono ?_; rintro e w4 ⟨g, cap4, rfl, hg4, hrow, hb4⟩; have HR := Lib.hid hrow; have hgl := Own.lt hrow; clear hrow))
    have hz2 := g1.size
    go_ret2
    rw [HE.out]
    exact ⟨_, rfl, RS.lies ⟨_, cap4, rfl, Or.inr ⟨g, rfl, by omega, hgl, HR.out⟩⟩ (Nat.le_refl _), bfrom g1 hb4⟩
  | false =>
    have HE := Lib.hid (show bySizeL q ws n x = [] from okL_no hok)
    have HMO := Lib.hid hok
    clear hok
    go_enter Try.func27, Try.ntmps27
    go_wp2_with fail
    refine (hasMember_any q _ n cap ws _ _ hm (HK.out.now hb0)).mono ?_
    rintro e w1 ⟨rfl, hb⟩
    rw [HMO.out]
    go_wp2
    go_ret2
    rw [HE.out]
    exact Ans.none_ (bfrom hb0 hb)

end Go.Proofs.Ytlnlkfldlgchhaa
