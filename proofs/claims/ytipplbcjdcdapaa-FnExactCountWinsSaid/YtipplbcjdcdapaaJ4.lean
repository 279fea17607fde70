/- Contracts of the model's CountWins. -/
import Derived.Test.YtipplbcjdcdapaaJ2
import Derived.Test.YtipplbcjdcdapaaJ3
import Derived.Outline
namespace Go.Proofs.Ytipplbcjdcdapaa
open Go.RowKit Vo

theorem winL_winS : wnL = winS := rfl

set_option maxRecDepth 20000 in
set_option maxHeartbeats 2000000 in
theorem sCountWins_any (m : Int) (A : Option Addr) (n cap : Nat) (L : List (List Int)) (w : World) (hl : n ≤ 1048576) (hcap : n ≤ cap) (hk : ListsR w A n L) :
    Calls Try.prog 31 #[.agg #[.int .i64 m, .slice A n cap]] w fun e w' => e = .returned (.tuple #[.int .i64 (cntG m L), .bool (goodG m L)]) ∧ Below w.heap.size w w' := by
  have HK := Lib.hid (hk.now (below1 w (.cells #[.int .i64 m, .slice A n cap] 28)))
  clear hk
  have hx := BoxT.new 28 w (.int .i64 m) (.slice A n cap)
  have hb0 := below1 w (.cells #[.int .i64 m, .slice A n cap] 28)
  obtain ⟨c0, c1⟩ := hx.cells
  cases hg : goodG m L with
  | true =>
    obtain ⟨h1, h9, _, hr, _⟩ := goodG_parts hg
    obtain ⟨q, rfl⟩ : ∃ q : Nat, m = q := ⟨m.toNat, by omega⟩
    rw [Int.toNat_natCast] at hr
    have hq9 : q ≤ 9 := by omega
    have h512 := pow_lt hq9
    have HGB := Lib.hid hg
    have HCN := Lib.hid (cntG_yes hg)
    have hcl := cnt_le (winS (setsN L)) (2^q)
    have HGA := Lib.hid (fun W h => gmAll_any q A n cap L W hq9 hl hr h)
    have HGC := Lib.hid (fun g W h => gmCount_any (winS (setsN L)) (2^q) g (2^q) W (by omega) h)
    rw [winL_winS] at HGA
    obtain ⟨c, hc⟩ : ∃ c, c = cnt (winS (setsN L)) (2^q) := ⟨_, rfl⟩
    rw [← hc] at HGC HCN hcl
    obtain ⟨P, hP⟩ : ∃ P, P = winS (setsN L) := ⟨_, rfl⟩
    rw [← hP] at HGA HGC
    obtain ⟨N, hN⟩ : ∃ N, N = 2^q := ⟨_, rfl⟩
    rw [← hN] at HGA HGC hcl h512
    clear hg hr hc hP hN
    go_enter Try.func31, Try.ntmps31
    go_wp2_with fail
    refine (gmGood_any q A n cap L _ hl hcap HK.out).mono ?_
    rintro e w1 ⟨rfl, hb1⟩
    rw [HGB.out]
    have g1 := bfrom hb0 hb1
    have hx1 := hx.now hb1
    clear c0 c1
    obtain ⟨c0, c1⟩ := hx1.cells
    go_wp2_with fail
    refine (HGA.out _ (HK.out.now hb1).lists).mono ?_
    rintro e w2 ⟨rfl, hown, hb2⟩
    have HO := Lib.hid hown
    clear hown
    go_wp2_with fail
    refine (HGC.out _ _ HO.out).mono ?_
    rintro e w3 ⟨rfl, rfl⟩
    go_wp2
    go_ret2
    exact ⟨by rw [HCN.out]; rfl, bfrom g1 hb2⟩
  | false =>
    have HGB := Lib.hid hg
    have HCN := Lib.hid (cntG_no hg)
    clear hg
    go_enter Try.func31, Try.ntmps31
    go_wp2_with fail
    refine (gmGood_any m A n cap L _ hl hcap HK.out).mono ?_
    rintro e w1 ⟨rfl, hb1⟩
    rw [HGB.out]
    go_wp2
    go_ret2
    exact ⟨by rw [HCN.out]; rfl, bfrom hb0 hb1⟩
end Go.Proofs.Ytipplbcjdcdapaa
