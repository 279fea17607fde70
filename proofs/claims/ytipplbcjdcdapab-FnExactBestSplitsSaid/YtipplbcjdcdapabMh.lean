/- Whether a committee has a member. -/
import Derived.Test.YtipplbcjdcdapabN13
import Derived.Outline
namespace Go.Proofs.Ytipplbcjdcdapab
open Go.RowKit Vo

set_option maxHeartbeats 1000000 in
theorem hasMember_any (q : Int) (A : Option Addr) (n cap : Nat) (ws : List Int) (x : Int) (w : World) (hm : n ≤ 9223372036854775807) (hk : Known w A n ws) :
    Calls Try.prog 46 #[.agg #[.int .i64 q, .slice A n cap], .int .i64 x] w fun e w' => e = .returned (.bool (memOk q ws n x)) ∧ Below w.heap.size w w' := by
  have HK := Lib.hid hk
  clear hk
  have hx := Box.new w (.int .i64 q) (.slice A n cap)
  have hb0 := below1 w (.cells #[.int .i64 q, .slice A n cap] 41)
  by_cases hg : Vo.Good q ws n
  · have HGB := Lib.hid (goodB_true hg)
    have hn9 := hg.hi
    clear hg
    go_enter Try.func46, Try.ntmps46
    go_wp2_with fail
    refine (isCommittee_any q A n cap ws _ hm (HK.out.now hb0)).mono ?_
    rintro e w1 ⟨rfl, hb⟩
    rw [HGB.out]
    obtain ⟨hc0, hc1⟩ := (hx.now hb).cells
    go_wp2_with (first
      | (go_at_call 77; refine (members_any _ _ n cap _).mono ?_; rintro e w2 ⟨rfl, hb2⟩)
      | (go_at_call 76; refine (isMember_any n x _ hm).mono ?_; rintro e w3 ⟨rfl, rfl⟩))
    go_ret
    exact ⟨by unfold memOk; rw [HGB.out]; simp, bfrom hb0 (bfrom hb hb2)⟩
  · have HGB := Lib.hid (goodB_false hg)
    clear hg
    go_enter Try.func46, Try.ntmps46
    go_wp2_with fail
    refine (isCommittee_any q A n cap ws _ hm (HK.out.now hb0)).mono ?_
    rintro e w1 ⟨rfl, hb⟩
    rw [HGB.out]
    go_wp2
    go_ret
    exact ⟨by unfold memOk; rw [HGB.out]; simp, bfrom hb0 hb⟩
end Go.Proofs.Ytipplbcjdcdapab
