/- How many votings there are: both sides. -/
import Derived.Test.YtlnlkfldlgchhabUd
import Derived.Outline
namespace Go.Proofs.Ytlnlkfldlgchhab
open Go.RowKit Vo

def cvX (q : Int) (ws : List Int) (n : Nat) : Int := if goodB q ws n then ((posL ws n).length : Int) else 0
theorem pos_len (ws : List Int) (n : Nat) : (posL ws n).length ≤ 2^n := Nat.le_trans (List.length_filter_le _ _) dst_len

set_option maxRecDepth 20000 in
set_option maxHeartbeats 4000000 in
theorem sCountVotings_any (q : Int) (A : Option Addr) (n cap : Nat) (ws : List Int) (w : World) (hm : n ≤ 9223372036854775807) (hk : Known w A n ws) :
    Calls Try.prog 33 #[.agg #[.int .i64 q, .slice A n cap]] w fun e w' =>
      e = .returned (.tuple #[.int .i64 (cvX q ws n), .bool (goodB q ws n)]) ∧ Below w.heap.size w w' := by
  have HK := Lib.hid hk
  clear hk
  have hx := Box.new w (.int .i64 q) (.slice A n cap)
  have hb0 := below1 w (.cells #[.int .i64 q, .slice A n cap] 29)
  by_cases hg : Vo.Good q ws n
  · obtain ⟨b, off, rfl, hsl⟩ := HK.out.get hg.lo
    have HSL := Lib.hid hsl
    have HOK := Lib.hid hg.ok
    have HGB := Lib.hid (goodB_true hg)
    have h1 := hg.lo
    have hn10 : n < 10 := by have := hg.hi; omega
    have hpl := pos_len ws n
    have h512 := pow_lt (n := n) (by omega)
    have HV := Lib.hid (show cvX q ws n = ((posL ws n).length : Int) from by unfold cvX; rw [HGB.out]; rfl)
    have HSS := Lib.hid (fun W h => shSums_any q b off n cap ws W h1 hn10 HOK.out h)
    obtain ⟨m, hm1⟩ : ∃ m, m = (posL ws n).length := ⟨_, rfl⟩
    rw [← hm1] at hpl HV HSS
    clear hg hsl hm1
    go_enter Try.func33, Try.ntmps33
    go_wp2_with fail
    refine (voGood_any q _ n cap ws _ hm (HK.out.now hb0)).mono ?_
    rintro e w1 ⟨rfl, hb⟩
    rw [HGB.out]
    have g1 := bfrom hb0 hb
    have hs1 := Lib.hid (HSL.out.now g1)
    obtain ⟨hc0, hc1⟩ := (hx.now hb).cells
    go_wp2_with (go_at_call 63; refine (HSS.out _ hs1.out).mono ?_; rintro e w2 ⟨C, c, rfl, _h, hb2⟩)
    go_ret2
    exact ⟨by rw [HV.out, HGB.out]; rfl, bfrom g1 hb2⟩
  · have HGB := Lib.hid (goodB_false hg)
    clear hg
    go_enter Try.func33, Try.ntmps33
    go_wp2_with fail
    refine (voGood_any q A n cap ws _ hm (HK.out.now hb0)).mono ?_
    rintro e w1 ⟨rfl, hb⟩
    rw [HGB.out]
    go_wp2
    go_ret2
    exact ⟨by rw [show cvX q ws n = 0 from by unfold cvX; rw [HGB.out]; rfl, HGB.out]; rfl, bfrom hb0 hb⟩

set_option maxRecDepth 20000 in
set_option maxHeartbeats 4000000 in
theorem countVotings_any (q : Int) (A : Option Addr) (n cap : Nat) (ws : List Int) (w : World) (hm : n ≤ 9223372036854775807) (hk : Known w A n ws) :
    Calls Try.prog 34 #[.agg #[.int .i64 q, .slice A n cap]] w fun e w' =>
      e = .returned (.tuple #[.int .i64 (cvX q ws n), .bool (goodB q ws n)]) ∧ Below w.heap.size w w' := by
  have HK := Lib.hid hk
  clear hk
  have hx := Box.new w (.int .i64 q) (.slice A n cap)
  have hb0 := below1 w (.cells #[.int .i64 q, .slice A n cap] 29)
  by_cases hg : Vo.Good q ws n
  · obtain ⟨b, off, rfl, hsl⟩ := HK.out.get hg.lo
    have HSL := Lib.hid hsl
    have HOK := Lib.hid hg.ok
    have HGB := Lib.hid (goodB_true hg)
    have h1 := hg.lo
    have hn10 : n < 10 := by have := hg.hi; omega
    have hpl := dst_len (ws := ws) (n := n)
    have h512 := pow_lt (n := n) (by omega)
    have hdp : (dstL ws n).length = (posL ws n).length + 1 := by rw [dst_pos HOK.out]; rfl
    have HV := Lib.hid (show cvX q ws n = ((dstL ws n).length : Int) - 1 from by unfold cvX; rw [HGB.out, hdp]; simp)
    have HSS := Lib.hid (fun W h => sums_any q b off n cap ws W h1 hn10 HOK.out h)
    clear hdp
    obtain ⟨m, hm1⟩ : ∃ m, m = (dstL ws n).length := ⟨_, rfl⟩
    rw [← hm1] at hpl HV HSS
    clear hg hsl hm1
    go_enter Try.func34, Try.ntmps34
    go_wp2_with fail
    refine (isCommittee_any q _ n cap ws _ hm (HK.out.now hb0)).mono ?_
    rintro e w1 ⟨rfl, hb⟩
    rw [HGB.out]
    have g1 := bfrom hb0 hb
    have hs1 := Lib.hid (HSL.out.now g1)
    obtain ⟨hc0, hc1⟩ := (hx.now hb).cells
    go_wp2_with (go_at_call 65; refine (HSS.out _ hs1.out).mono ?_; rintro e w2 ⟨C, c, rfl, _h, hb2⟩)
    go_ret2
    exact ⟨by rw [HV.out, HGB.out]; rfl, bfrom g1 hb2⟩
  · have HGB := Lib.hid (goodB_false hg)
    clear hg
    go_enter Try.func34, Try.ntmps34
    go_wp2_with fail
    refine (isCommittee_any q A n cap ws _ hm (HK.out.now hb0)).mono ?_
    rintro e w1 ⟨rfl, hb⟩
    rw [HGB.out]
    go_wp2
    go_ret2
    exact ⟨by rw [show cvX q ws n = 0 from by unfold cvX; rw [HGB.out]; rfl, HGB.out]; rfl, bfrom hb0 hb⟩
end Go.Proofs.Ytlnlkfldlgchhab
