/- Texts of Yp. -/
import Derived.Test.YtnldodnpakpeeaaGreatPkQ44
import Derived.Test.YtnldodnpakpeeaaGreatPkQ41
import Derived.Outline
namespace Go.Proofs.YtnldodnpakpeeaaGreat
open Go.RowKit Vo

theorem sureL_few (q : List Nat → Nat → Bool) (m : Int) (C : List Clu) : tot (sureL q m C) + (sureL q m C).length ≤ 1048576 := by
  by_cases hm : m ≤ 4
  · exact sureL_small q m C hm
  · cases h : fsOk m C with
    | false => rw [sureL_no h]; simp [tot, totK]
    | true =>
      exfalso
      have hp : puzB m C = true := by unfold fsOk at h; simp at h; exact h.1
      obtain ⟨z, rfl, h1, h4, _⟩ := puzB_nat hp
      omega
theorem winsS (z : Nat) : KindS (fun L s => winS L s == true) 35 z :=
  ⟨enters_of Tryz.func35 (by kernel_rfl) rfl, fun W base L A n cp s hn hn16 hL hs ho => by
    have h := gWins_any L z s base n cp A W hn (by omega) hL hs ho
    rw [show (winS L s == true) = winS L s from by simp]
    exact h⟩
theorem losesS (z : Nat) : KindS (fun L s => winS L s == false) 17 z :=
  ⟨enters_of Tryz.func17 (by kernel_rfl) rfl, fun W base L A n cp s hn hn16 hL hs ho => by
    have h := gLoses_any L z s base n cp A W hn (by omega) hL hs ho
    rw [show (winS L s == false) = !winS L s from by simp]
    exact h⟩

set_option maxRecDepth 20000 in
set_option maxHeartbeats 1000000 in
theorem iSureLosses_p (m : Int) (A : Option Addr) (n cap : Nat) (C : List Clu) (w : World) (hl : n ≤ 1048576) (_hc : n ≤ cap) (hk : KCl w A n C) :
    Calls Tryz.prog 7 #[.agg #[.int .i64 m, .slice A n cap]] w fun e w' => Ans (RSS (sureL (fun L s => winS L s == false) m C)) (fsOk m C) w w' e := by
  have b0 := below1 w (.cells #[.int .i64 m, .slice A n cap] 31)
  obtain ⟨c0, c1⟩ := (BoxT.new 31 w (.int .i64 m) (.slice A n cap)).cells
  have HS := Lib.hid (sureSets_any (fun L s => winS L s == false) _ losesS m A n cap C _ hl (hk.now b0))
  generalize fsOk m C = ok at *
  generalize sureL (fun L s => winS L s == false) m C = M at *
  clear hk
  go_enter Tryz.func7, Tryz.ntmps7
  go_wp2_with fail
  refine HS.out.mono ?_
  rintro e w1 ⟨v, rfl, hv, hb⟩
  have HV := Lib.hid hv
  clear hv c0 c1
  go_wp2
  go_ret2
  exact ⟨v, rfl, Lies.rss_wide HV.out b0.size (Nat.le_refl _) (Nat.le_refl _), bfrom b0 hb⟩

set_option maxRecDepth 20000 in
set_option maxHeartbeats 1000000 in
theorem sSureLosses_p (m : Int) (A : Option Addr) (n cap : Nat) (C : List Clu) (w : World) (hl : n ≤ 1048576) (_hc : n ≤ cap) (hk : KCl w A n C) :
    Calls Tryz.prog 5 #[.agg #[.int .i64 m, .slice A n cap]] w fun e w' => Ans (RSS0 (sureL (fun L s => winS L s == false) m C)) (fsOk m C) w w' e := by
  have b0 := below1 w (.cells #[.int .i64 m, .slice A n cap] 31)
  obtain ⟨c0, c1⟩ := (BoxT.new 31 w (.int .i64 m) (.slice A n cap)).cells
  have HS := Lib.hid (sPzSure_any false m A n cap C _ hl (hk.now b0))
  generalize fsOk m C = ok at *
  generalize sureL (fun L s => winS L s == false) m C = M at *
  clear hk
  go_enter Tryz.func5, Tryz.ntmps5
  go_wp2_with fail
  refine HS.out.mono ?_
  rintro e w1 ⟨v, rfl, hv, hb⟩
  have HV := Lib.hid hv
  clear hv c0 c1
  go_wp2
  go_ret2
  exact ⟨v, rfl, Lies.rss0_wide HV.out b0.size (Nat.le_refl _) (Nat.le_refl _), bfrom b0 hb⟩
end Go.Proofs.YtnldodnpakpeeaaGreat
