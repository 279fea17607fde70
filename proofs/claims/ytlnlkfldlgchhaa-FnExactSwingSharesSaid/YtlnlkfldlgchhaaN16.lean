/- The program's swings as parts of those of all. -/
import Derived.Test.YtlnlkfldlgchhaaZ5
import Derived.Test.YtlnlkfldlgchhaaN9
namespace Go.Proofs.Ytlnlkfldlgchhaa
open Go.RowKit Vo

set_option maxHeartbeats 1000000 in
theorem swingShares_any (q : Int) (A : Option Addr) (n cap : Nat) (ws : List Int) (w : World) (hm : n ≤ 9223372036854775807) (hk : Known w A n ws) :
    Calls Try.prog 37 #[.agg #[.int .i64 q, .slice A n cap]] w fun e w' => ShAt (swingSharesL q ws n) (goodB q ws n) w w' e := by
  have HK := Lib.hid hk
  have hb0 := below1 w (.cells #[.int .i64 q, .slice A n cap] 28)
  clear hk
  go_enter Try.func37, Try.ntmps37
  go_wp2_with fail
  refine (partsOfSum_any (swingN q ws n) _ q A n cap ws _ hm (HK.out.now hb0) (fun hg => (swings_lists q A n cap ws _ (HK.out.now hb0) hg).reads (by rw [perL_len]; exact hg.lo)) (fun hg => ⟨fun j => by have h1 : swingN q ws n j ≤ 512 := Nat.le_trans (cnt_le _ _) (pow_lt hg.hi); omega, swings_pos hg⟩)).mono ?_
  rintro e w1 ⟨A2, cap2, rfl, hown, hb⟩
  have HO := Lib.hid hown
  clear hown
  go_wp2
  go_ret2
  exact ⟨A2, cap2, rfl, owns_less HO.out hb0.size, bfrom hb0 hb⟩
theorem swingShares_ans (q : Int) (A : Option Addr) (n cap : Nat) (ws : List Int) (w : World) (hm : n ≤ 9223372036854775807) (hk : Known w A n ws) :
    Calls Try.prog 37 #[.agg #[.int .i64 q, .slice A n cap]] w fun e w' => Ans (RSh (swingSharesL q ws n)) (goodB q ws n) w w' e := (swingShares_any q A n cap ws w hm hk).mono fun _ _ h => h.ans
end Go.Proofs.Ytlnlkfldlgchhaa
