/- Contract of the program's LeastWinning. -/
import Derived.Test.YtldpdjnedoflcabR7
import Derived.Test.YtldpdjnedoflcabA1
namespace Go.Proofs.Ytldpdjnedoflcab
open Go.RowKit Vo

set_option maxRecDepth 20000 in
set_option maxHeartbeats 4000000 in
theorem leastWinning_ans (q : Int) (A : Option Addr) (n cap : Nat) (ws : List Int) (w : World) (hm : n ≤ 9223372036854775807) (hk : Known w A n ws) :
    Calls Try.prog 18 #[.agg #[.int .i64 q, .slice A n cap]] w fun e w' => Ans (RSS (leastWinningL q ws n)) (goodB q ws n) w w' e := by
  have HK := Lib.hid hk
  clear hk
  have hx := Box.new w (.int .i64 q) (.slice A n cap)
  have hb0 := below1 w (.cells #[.int .i64 q, .slice A n cap] 29)
  by_cases hg : Vo.Good q ws n
  · obtain ⟨b, off, rfl, hsl⟩ := HK.out.get hg.lo
    have HSL := Lib.hid hsl
    have HOK := Lib.hid hg.ok
    have HGB := Lib.hid (goodB_true hg)
    have hn9 := hg.hi
    have hn10 : n < 10 := by omega
    have HV := Lib.hid (show leastWinningL q ws n = setsL ((inOrder n).filter (leastP (winB q ws n) n)) from okLL_yes HGB.out)
    have HFG := Lib.hid (filt_get (P := leastP (winB q ws n) n) hn9)
    clear hg hsl
    go_enter Try.func18, Try.ntmps18
    go_wp2_with fail
    refine (isCommittee_any q _ n cap ws _ hm (HK.out.now hb0)).mono ?_
    rintro e w1 ⟨rfl, hb⟩
    rw [HGB.out]
    have hx1 := hx.now hb
    have g1 := bfrom hb0 hb
    have hs1 := Lib.hid (HSL.out.now g1)
    obtain ⟨hc0, hc1⟩ := hx1.cells
    go_wp2_with (first
      | (go_at_call 57; refine (leastWinning_any q b off n cap ws _ hn10 HOK.out hs1.out).mono ?_; rintro e w4 ⟨A4, cap4, rfl, hown4, hb4⟩; have HO4 := Lib.hid hown4; clear hown4; have hd2 := (hx1.now hb4).cells)
      | (go_at_call 56; refine (listsOf_any _ w1.heap.size cap4 _ A4 _ rfl HFG.out.1 HFG.out.2 HO4.out).mono ?_; rintro e w5 ⟨B5, cap5, rfl, hss5, hb5⟩; have HSS := Lib.hid hss5; clear hss5; have hd3 := ((hx1.now hb4).now hb5).cells))
    have g4 := bfrom g1 hb4
    have hz4 := g4.size
    go_wp2
    go_ret2
    rw [HV.out, HGB.out]
    refine ⟨_, rfl, RSS.lies (SSb.rss ?_ ⟨B5, cap5, by rw [setsL_len]; rfl⟩) (Nat.le_refl _), bfrom g4 hb5⟩
    exact SSb.less HSS.out hz4
  · have HGB := Lib.hid (goodB_false hg)
    clear hg
    go_enter Try.func18, Try.ntmps18
    go_wp2_with fail
    refine (isCommittee_any q A n cap ws _ hm (HK.out.now hb0)).mono ?_
    rintro e w1 ⟨rfl, hb⟩
    rw [HGB.out]
    go_wp2
    go_ret2
    rw [show leastWinningL q ws n = [] from okLL_no HGB.out, HGB.out]
    exact Ans.noneSS (bfrom hb0 hb)

end Go.Proofs.Ytldpdjnedoflcab
