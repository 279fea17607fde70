/- OrderOfWorth, the model's. -/
import Derived.Test.YtgilbenbaefgfaaGreatDj
import Derived.Outline
namespace Go.Proofs.YtgilbenbaefgfaaGreat
open Go.RowKit Vo

set_option maxRecDepth 20000 in
set_option maxHeartbeats 4000000 in
theorem sOrderOfWorth_any (m : Int) (A : Option Addr) (n cap : Nat) (L : List (List Int)) (w : World) (hl : n ≤ 1048576) (hcap : n ≤ cap) (hk : ListsR w A n L) :
    Calls Tryz.prog 16 #[.agg #[.int .i64 m, .slice A n cap]] w fun e w' => Ans (RS (ordI m L)) (compG m L) w w' e := by
  have HK := Lib.hid (hk.now (below1 w (.cells #[.int .i64 m, .slice A n cap] 28)))
  clear hk
  have hx := BoxT.new 28 w (.int .i64 m) (.slice A n cap)
  have hb0 := below1 w (.cells #[.int .i64 m, .slice A n cap] 28)
  obtain ⟨c0, c1⟩ := hx.cells
  cases hg : goodG m L with
  | true =>
    obtain ⟨h1, h9, _, hr, _⟩ := goodG_parts hg
    obtain ⟨q, rfl⟩ : ∃ q : Nat, m = q := ⟨m.toNat, by omega⟩
    rw [Int.toNat_natCast] at hr
    have hq9 : q ≤ 9 := by omega
    have HGB := Lib.hid hg
    have HCN := Lib.hid (show compG (q : Int) L = compB (worthP (wnL (setsN L)) q) q from compG_yes hg)
    have HGA := Lib.hid (fun W h => gmAll_any q A n cap L W hq9 hl hr h)
    have HDC := Lib.hid (fun g cap W h => deComplete_any (wnL (setsN L)) q g cap W (by omega) h)
    have HDO := Lib.hid (fun g cap W h => deOrder_any (wnL (setsN L)) q g cap W hq9 (by omega) h)
    have HOI := Lib.hid (fun (h : compG (q : Int) L = true) => show ordI (q : Int) L = natsI (ordL (grK (worthP (wnL (setsN L)) q)) q) from ordI_yes h)
    have HON := Lib.hid (fun (h : compG (q : Int) L = false) => ordI_no h)
    have HLN := Lib.hid (show (natsI (ordL (grK (worthP (wnL (setsN L)) q)) q)).length = q from by rw [natsI_len, ordL_len])
    clear hg hr
    obtain ⟨N, hN⟩ : ∃ N, N = 2^q := ⟨_, rfl⟩
    rw [← hN] at HGA HDC HDO
    clear hN
    obtain ⟨K, hK⟩ : ∃ K, K = natsI (ordL (grK (worthP (wnL (setsN L)) q)) q) := ⟨_, rfl⟩
    simp only [← hK] at HDO HOI HLN
    clear hK
    cases hc : compB (worthP (wnL (setsN L)) q) q with
    | false =>
      simp only [hc] at HDC
      rw [hc] at HCN
      have HE := Lib.hid (HON.out HCN.out)
      clear hc
      go_enter Tryz.func16, Tryz.ntmps16
      go_wp2_with fail
      refine (gmGood_any q A n cap L _ hl hcap HK.out).mono ?_
      rintro e w1 ⟨rfl, hb1⟩
      rw [HGB.out]
      have g1 := bfrom hb0 hb1
      have hx1 := hx.now hb1
      clear c0 c1
      obtain ⟨c0, c1⟩ := hx1.cells
      go_wp2_with fail
      refine (HGA.out _ (HK.out.now hb1).lists).mono ?_
      rintro e w3 ⟨rfl, hown, hb3⟩
      have HO := Lib.hid hown
      clear hown
      obtain ⟨c2, c3⟩ := (hx1.now hb3).cells
      go_wp2_with fail
      refine (HDC.out _ _ _ HO.out).mono ?_
      rintro e w4 ⟨rfl, rfl⟩
      go_wp2
      go_ret2
      rw [HE.out, HCN.out]
      exact noInts (bfrom g1 hb3)
    | true =>
      simp only [hc] at HDC
      rw [hc] at HCN
      have HE := Lib.hid (HOI.out HCN.out)
      clear hc
      go_enter Tryz.func16, Tryz.ntmps16
      go_wp2_with fail
      refine (gmGood_any q A n cap L _ hl hcap HK.out).mono ?_
      rintro e w1 ⟨rfl, hb1⟩
      rw [HGB.out]
      have g1 := bfrom hb0 hb1
      have hx1 := hx.now hb1
      clear c0 c1
      obtain ⟨c0, c1⟩ := hx1.cells
      go_wp2_with fail
      refine (HGA.out _ (HK.out.now hb1).lists).mono ?_
      rintro e w3 ⟨rfl, hown, hb3⟩
      have HO := Lib.hid hown
      clear hown
      obtain ⟨c2, c3⟩ := (hx1.now hb3).cells
      have g3 := bfrom g1 hb3
      go_wp2_with fail
      refine (HDC.out _ _ _ HO.out).mono ?_
      rintro e w4 ⟨rfl, rfl⟩
      go_wp2_with fail
      refine (HDO.out _ _ _ HO.out).mono ?_
      rintro e w5 ⟨B, cp, rfl, hown5, hb5⟩
      have HO5 := Lib.hid hown5
      clear hown5
      have hz := g3.size
      go_wp2
      go_ret2
      refine ⟨.slice B q cp, by rw [HCN.out]; rfl, ?_, bfrom g3 hb5⟩
      rw [HE.out]
      refine RS.lies ?_ (Nat.le_refl _)
      have h := owns_less HO5.out hz
      rw [← HLN.out] at h ⊢
      exact RS.of_own h
  | false =>
    have HGB := Lib.hid hg
    have HCN := Lib.hid (compG_no hg)
    have HE := Lib.hid (ordI_no HCN.out)
    clear hg
    go_enter Tryz.func16, Tryz.ntmps16
    go_wp2_with fail
    refine (gmGood_any m A n cap L _ hl hcap HK.out).mono ?_
    rintro e w1 ⟨rfl, hb1⟩
    rw [HGB.out]
    go_wp2
    go_ret2
    rw [HE.out, HCN.out]
    exact noInts (bfrom hb0 hb1)
end Go.Proofs.YtgilbenbaefgfaaGreat
