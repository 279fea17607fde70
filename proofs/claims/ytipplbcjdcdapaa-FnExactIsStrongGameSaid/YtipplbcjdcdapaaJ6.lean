/- Contracts of the model's IsProperGame and IsStrongGame. -/
import Derived.Test.YtipplbcjdcdapaaJ4
import Derived.Test.YtipplbcjdcdapaaJ5
import Derived.Outline
namespace Go.Proofs.Ytipplbcjdcdapaa
open Go.RowKit Vo

set_option maxRecDepth 20000 in
set_option maxHeartbeats 1000000 in
theorem gmProper_any (p : Nat → Bool) (N g cap : Nat) (w : World) (hN : N ≤ 512) (hw : Own w g 4 N (fun j => .bool (p j))) :
    Calls Try.prog 79 #[.slice (some ⟨g, 0, none⟩) N cap] w fun e w' => e = .returned (.bool (allK (fun s => !p s || !p (N - 1 - s)) N)) ∧ w = w' := by
  have HO := Lib.hid hw
  clear hw
  go_enter Try.func79, Try.ntmps79
  go_wp2
  go_loopw [3, 4, 7] (fun _ _ i wr => ∃ j : Nat, j ≤ N ∧ i = .int .i64 j ∧ allK (fun s => !p s || !p (N - 1 - s)) j = true ∧ wr = w) (fun _ _ i _ => N - (intOf i).toNat)
  case atStart => exact ⟨0, Nat.zero_le _, rfl, rfl, rfl⟩
  case round =>
    obtain ⟨k, hk, rfl, hall, rfl⟩ := hrel
    have HL := Lib.hid hall
    clear hall
    by_cases hlt : k < N
    · have hcell := HO.out.cell hlt
      have hcell2 := HO.out.cell (show N - 1 - k < N by omega)
      have HPK := Lib.hid (show allK (fun s => !p s || !p (N - 1 - s)) (k+1) = (allK (fun s => !p s || !p (N - 1 - s)) k && (!p k || !p (N - 1 - k))) from rfl)
      have HF := Lib.hid (show (!p k || !p (N - 1 - k)) = false → allK (fun s => !p s || !p (N - 1 - s)) N = false from fun h => allK_false k hlt h)
      have hcoi : ((N : Int) - 1 - k).toNat = N - 1 - k := by omega
      cases hwin : p k <;> cases hwin2 : p (N - 1 - k)
      all_goals
        rw [hwin] at hcell HPK HF
        rw [hwin2] at hcell2 HPK HF
        clear hwin hwin2
        have h0 : (0 : Int) ≤ (N : Int) - 1 - k := by omega
        have h1 : (N : Int) - 1 - k < N := by omega
        go_wp2
        first
          | (go_roundw
             case rel => exact ⟨k + 1, by omega, by go_num, by rw [HPK.out, HL.out]; rfl, trivial⟩
             case measure => simp [intOf]; omega)
          | (go_ret
             exact ⟨by rw [HF.out rfl]; rfl, rfl⟩)
    · obtain rfl : k = N := by omega
      go_wp2
      go_ret
      exact ⟨by rw [HL.out]; rfl, rfl⟩

theorem proper_all (p : Nat → Bool) (q : Nat) : allK (fun s => !p s || !p (2^q - 1 - s)) (2^q) = allK (properS p q) (2^q) := rfl
theorem strong_all (p : Nat → Bool) (q : Nat) : allK (fun s => !!p (2^q - 1 - s) || !!p (2^q - 1 - (2^q - 1 - s))) (2^q) = allK (strongS p q) (2^q) :=
  allK_congr fun s hs => by
    unfold strongS co
    rw [show 2^q - 1 - (2^q - 1 - s) = s from by omega, Bool.not_not, Bool.not_not, Bool.or_comm]
theorem gmStrong_any (p : Nat → Bool) (q g : Nat) (w : World) (hq : 2^q ≤ 512) (hw : Own w g 4 (2^q) (fun j => .bool (!p (2^q - 1 - j)))) :
    Calls Try.prog 79 #[.slice (some ⟨g, 0, none⟩) (2^q : Nat) (2^q : Nat)] w fun e w' => e = .returned (.bool (allK (strongS p q) (2^q))) ∧ w = w' :=
  (gmProper_any (fun s => !p (2^q - 1 - s)) (2^q) g (2^q) w hq hw).mono fun e w' h => ⟨by rw [← strong_all]; exact h.1, h.2⟩


set_option maxRecDepth 20000 in
set_option maxHeartbeats 2000000 in
theorem sIsProperGame_any (m : Int) (A : Option Addr) (n cap : Nat) (L : List (List Int)) (w : World) (hl : n ≤ 1048576) (hcap : n ≤ cap) (hk : ListsR w A n L) :
    Calls Try.prog 36 #[.agg #[.int .i64 m, .slice A n cap]] w fun e w' => e = .returned (.tuple #[.bool (properG m L), .bool (goodG m L)]) ∧ Below w.heap.size w w' := by
  have HK := Lib.hid (hk.now (below1 w (.cells #[.int .i64 m, .slice A n cap] 28)))
  clear hk
  have hx := BoxT.new 28 w (.int .i64 m) (.slice A n cap)
  have hb0 := below1 w (.cells #[.int .i64 m, .slice A n cap] 28)
  obtain ⟨c0, c1⟩ := hx.cells
  cases hg : goodG m L with
  | true =>
    obtain ⟨h1, h9, _, hr, _⟩ := goodG_parts hg
    obtain ⟨q, rfl⟩ : ∃ q : Nat, m = q := ⟨m.toNat, by omega⟩
    rw [Int.toNat_natCast] at hr
    have hq9 : q ≤ 9 := by omega
    have h512 := pow_lt hq9
    have HGB := Lib.hid hg
    have HCN := Lib.hid (properG_yes hg)
    have HGA := Lib.hid (fun W h => gmAll_any q A n cap L W hq9 hl hr h)
    have HGP := Lib.hid (fun g W h => gmProper_any (winS (setsN L)) (2^q) g (2^q) W (by omega) h)
    rw [proper_all] at HGP
    rw [winL_winS] at HGA
    obtain ⟨a, haa⟩ : ∃ a, a = allK (properS (winS (setsN L)) q) (2^q) := ⟨_, rfl⟩
    rw [← haa] at HGP HCN
    clear hg hr haa
    go_enter Try.func36, Try.ntmps36
    go_wp2_with fail
    refine (gmGood_any q A n cap L _ hl hcap HK.out).mono ?_
    rintro e w1 ⟨rfl, hb1⟩
    rw [HGB.out]
    have g1 := bfrom hb0 hb1
    have hx1 := hx.now hb1
    clear c0 c1
    obtain ⟨c0, c1⟩ := hx1.cells
    go_wp2_with fail
    refine (HGA.out _ (HK.out.now hb1).lists).mono ?_
    rintro e w2 ⟨rfl, hown, hb2⟩
    have HO := Lib.hid hown
    clear hown
    go_wp2_with fail
    refine (HGP.out _ _ HO.out).mono ?_
    rintro e w3 ⟨rfl, rfl⟩
    go_wp2
    go_ret2
    exact ⟨by rw [HCN.out]; rfl, bfrom g1 hb2⟩
  | false =>
    have HGB := Lib.hid hg
    have HCN := Lib.hid (properG_no hg)
    clear hg
    go_enter Try.func36, Try.ntmps36
    go_wp2_with fail
    refine (gmGood_any m A n cap L _ hl hcap HK.out).mono ?_
    rintro e w1 ⟨rfl, hb1⟩
    rw [HGB.out]
    go_wp2
    go_ret2
    exact ⟨by rw [HCN.out]; rfl, bfrom hb0 hb1⟩

set_option maxRecDepth 20000 in
set_option maxHeartbeats 2000000 in
theorem sIsStrongGame_any (m : Int) (A : Option Addr) (n cap : Nat) (L : List (List Int)) (w : World) (hl : n ≤ 1048576) (hcap : n ≤ cap) (hk : ListsR w A n L) :
    Calls Try.prog 38 #[.agg #[.int .i64 m, .slice A n cap]] w fun e w' => e = .returned (.tuple #[.bool (strongG m L), .bool (goodG m L)]) ∧ Below w.heap.size w w' := by
  have HK := Lib.hid (hk.now (below1 w (.cells #[.int .i64 m, .slice A n cap] 28)))
  clear hk
  have hx := BoxT.new 28 w (.int .i64 m) (.slice A n cap)
  have hb0 := below1 w (.cells #[.int .i64 m, .slice A n cap] 28)
  obtain ⟨c0, c1⟩ := hx.cells
  cases hg : goodG m L with
  | true =>
    obtain ⟨h1, h9, _, hr, _⟩ := goodG_parts hg
    obtain ⟨q, rfl⟩ : ∃ q : Nat, m = q := ⟨m.toNat, by omega⟩
    rw [Int.toNat_natCast] at hr
    have hq9 : q ≤ 9 := by omega
    have h512 := pow_lt hq9
    have HGB := Lib.hid hg
    have HCN := Lib.hid (strongG_yes hg)
    have HGA := Lib.hid (fun W h => gmAll_any q A n cap L W hq9 hl hr h)
    have HGD := Lib.hid (fun g W h => gmDual_any (winS (setsN L)) (2^q) g (2^q) W (by omega) h)
    have HGP := Lib.hid (fun g W h => gmStrong_any (winS (setsN L)) q g W (by omega) h)
    rw [winL_winS] at HGA
    obtain ⟨a, haa⟩ : ∃ a, a = allK (strongS (winS (setsN L)) q) (2^q) := ⟨_, rfl⟩
    rw [← haa] at HGP HCN
    clear hg hr haa
    go_enter Try.func38, Try.ntmps38
    go_wp2_with fail
    refine (gmGood_any q A n cap L _ hl hcap HK.out).mono ?_
    rintro e w1 ⟨rfl, hb1⟩
    rw [HGB.out]
    have g1 := bfrom hb0 hb1
    have hx1 := hx.now hb1
    clear c0 c1
    obtain ⟨c0, c1⟩ := hx1.cells
    go_wp2_with fail
    refine (HGA.out _ (HK.out.now hb1).lists).mono ?_
    rintro e w2 ⟨rfl, hown, hb2⟩
    have HO := Lib.hid hown
    clear hown
    go_wp2_with fail
    refine (HGD.out _ _ HO.out).mono ?_
    rintro e w3 ⟨rfl, hown3, hb3⟩
    have HO3 := Lib.hid hown3
    clear hown3
    go_wp2_with fail
    refine (HGP.out _ _ HO3.out).mono ?_
    rintro e w4 ⟨rfl, rfl⟩
    go_wp2
    go_ret2
    exact ⟨by rw [HCN.out]; rfl, bfrom (bfrom g1 hb2) hb3⟩
  | false =>
    have HGB := Lib.hid hg
    have HCN := Lib.hid (strongG_no hg)
    clear hg
    go_enter Try.func38, Try.ntmps38
    go_wp2_with fail
    refine (gmGood_any m A n cap L _ hl hcap HK.out).mono ?_
    rintro e w1 ⟨rfl, hb1⟩
    rw [HGB.out]
    go_wp2
    go_ret2
    exact ⟨by rw [HCN.out]; rfl, bfrom hb0 hb1⟩
end Go.Proofs.Ytipplbcjdcdapaa
