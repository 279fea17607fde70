/- Contracts of the program's hasMember and RaiseQuota; answers that are a committee of the call's own or none. -/
import Derived.Test.YtbecagfokcadnaaWc
import Derived.Test.YtbecagfokcadnaaN13
import Derived.Outline
namespace Go.Proofs.Ytbecagfokcadnaa
open Go.RowKit Vo

/-- The quota, and how many members, of an answer that may be none. -/
def qIf (ok : Bool) (q : Int) : Int := if ok then q else 0
def nIf (ok : Bool) (n : Nat) : Nat := if ok then n else 0
theorem nIf_le {ok : Bool} {n : Nat} (h : ok = true → n ≤ 9) : nIf ok n ≤ 9 := by
  cases ok with
  | false => simp [nIf]
  | true => simpa [nIf] using h rfl
theorem ComAt.fail {w w' : World} {Q : Int} {m : Nat} {L : List Int} (hb : Below w.heap.size w w') : ComAt (qIf false Q) (nIf false m) L false w w' (.returned (.tuple #[.agg #[.int .i64 0, .slice none 0 0], .bool false])) :=
  ⟨none, 0, rfl, Or.inl ⟨rfl, rfl⟩, hb⟩

set_option maxHeartbeats 1000000 in
theorem hasMember_any (q : Int) (A : Option Addr) (n cap : Nat) (ws : List Int) (x : Int) (w : World) (hm : n ≤ 9223372036854775807) (hk : Known w A n ws) :
    Calls Try.prog 50 #[.agg #[.int .i64 q, .slice A n cap], .int .i64 x] w fun e w' => e = .returned (.bool (memOk q ws n x)) ∧ Below w.heap.size w w' := by
  have HK := Lib.hid hk
  clear hk
  have hx := Box.new w (.int .i64 q) (.slice A n cap)
  have hb0 := below1 w (.cells #[.int .i64 q, .slice A n cap] 26)
  by_cases hg : Vo.Good q ws n
  · have HGB := Lib.hid (goodB_true hg)
    have hn9 := hg.hi
    clear hg
    go_enter Try.func50, Try.ntmps50
    go_wp2_with fail
    refine (isCommittee_any q A n cap ws _ hm (HK.out.now hb0)).mono ?_
    rintro e w1 ⟨rfl, hb⟩
    rw [HGB.out]
    obtain ⟨hc0, hc1⟩ := (hx.now hb).cells
    go_wp2_with (first
      | (go_at_call 58; refine (members_any _ _ n cap _).mono ?_; rintro e w2 ⟨rfl, hb2⟩)
      | (go_at_call 79; refine (isMember_any n x _ hm).mono ?_; rintro e w3 ⟨rfl, rfl⟩))
    go_ret
    exact ⟨by unfold memOk; rw [HGB.out]; simp, bfrom hb0 (bfrom hb hb2)⟩
  · have HGB := Lib.hid (goodB_false hg)
    clear hg
    go_enter Try.func50, Try.ntmps50
    go_wp2_with fail
    refine (isCommittee_any q A n cap ws _ hm (HK.out.now hb0)).mono ?_
    rintro e w1 ⟨rfl, hb⟩
    rw [HGB.out]
    go_wp2
    go_ret
    exact ⟨by unfold memOk; rw [HGB.out]; simp, bfrom hb0 hb⟩
end Go.Proofs.Ytbecagfokcadnaa
