/- Contract of the model's DoesFitGame. -/
import Derived.Test.YtipplbcjdcdapabWv
import Derived.Test.YtipplbcjdcdapabS3
namespace Go.Proofs.Ytipplbcjdcdapab
open Go.RowKit Vo

set_option maxRecDepth 20000 in
set_option maxHeartbeats 2000000 in
theorem weSame_any (p1 p2 : Nat → Bool) (n1 n2 g1 g2 c1 c2 : Nat) (w : World) (hn1 : n1 < 10) (hn2 : n2 < 10) (h1 : Own w g1 4 (2^n1) (fun j => .bool (p1 j))) (h2 : Own w g2 4 (2^n2) (fun j => .bool (p2 j))) :
    Calls Try.prog 36 #[.slice (some ⟨g1, 0, none⟩) (2^n1 : Nat) c1, .slice (some ⟨g2, 0, none⟩) (2^n2 : Nat) c2] w fun e w' => e = .returned (.bool (sameV p1 p2 n1 n2)) ∧ Below w.heap.size w w' := by
  have H1 := Lib.hid h1
  have H2 := Lib.hid h2
  have a512 := pow_lt (n := n1) (by omega)
  have b512 := pow_lt (n := n2) (by omega)
  clear h1 h2
  by_cases hnn : n1 = n2
  · subst hnn
    have HV := Lib.hid (show sameV p1 p2 n1 n1 = allK (fun s => p1 s == p2 s) (2^n1) from by unfold sameV; rw [decide_eq_true rfl, Bool.true_and])
    rw [HV.out]
    obtain ⟨N, hN⟩ : ∃ N, N = 2^n1 := ⟨_, rfl⟩
    rw [← hN] at H1 H2 a512 ⊢
    clear hN b512 HV
    go_enter Try.func36, Try.ntmps36
    go_wp2_with fail
    go_loopw [5, 13] (fun _ i wr => ∃ k : Nat, k ≤ N ∧ i = .int .i64 k ∧ allK (fun s => p1 s == p2 s) k = true ∧ Below w.heap.size w wr) (fun _ i _ => N - (intOf i).toNat)
    case atStart => exact ⟨0, Nat.zero_le _, rfl, rfl, Below.refl _ _⟩
    case round =>
      obtain ⟨k, hk, rfl, hall, hb⟩ := hrel
      have HALL := Lib.hid hall
      clear hall
      by_cases hlt : k < N
      · have hc1 := (Own.below H1.out hb H1.out.lt).cell hlt
        have hc2 := (Own.below H2.out hb H2.out.lt).cell hlt
        obtain ⟨r1, hr1⟩ : ∃ r, r = p1 k := ⟨_, rfl⟩
        obtain ⟨r2, hr2⟩ : ∃ r, r = p2 k := ⟨_, rfl⟩
        have R1 := Lib.hid hr1
        have R2 := Lib.hid hr2
        rw [← hr1] at hc1
        rw [← hr2] at hc2
        clear hr1 hr2
        cases r1 with
        | false =>
          cases r2 with
          | false =>
            have HN := Lib.hid (show allK (fun s => p1 s == p2 s) (k+1) = true from by simp only [allK]; rw [HALL.out, ← R1.out, ← R2.out]; rfl)
            go_wp2_with fail
            go_quiet (fail)
            go_wp2
            go_roundw
            case rel => exact ⟨k + 1, by omega, by go_num, HN.out, (by first | exact hb | exact hb.drew | exact below_drewN hb _)⟩
            case measure => simp [intOf]; omega
          | true =>
            have HN := Lib.hid (show allK (fun s => p1 s == p2 s) N = false from allK_false k hlt (by rw [← R1.out, ← R2.out]; rfl))
            go_wp2_with fail
            go_quiet (fail)
            go_wp2
            go_ret
            exact ⟨by rw [HN.out]; rfl, (by first | exact hb | exact hb.drew | exact below_drewN hb _)⟩
        | true =>
          cases r2 with
          | false =>
            have HN := Lib.hid (show allK (fun s => p1 s == p2 s) N = false from allK_false k hlt (by rw [← R1.out, ← R2.out]; rfl))
            go_wp2_with fail
            go_quiet (fail)
            go_wp2
            go_ret
            exact ⟨by rw [HN.out]; rfl, (by first | exact hb | exact hb.drew | exact below_drewN hb _)⟩
          | true =>
            have HN := Lib.hid (show allK (fun s => p1 s == p2 s) (k+1) = true from by simp only [allK]; rw [HALL.out, ← R1.out, ← R2.out]; rfl)
            go_wp2_with fail
            go_quiet (fail)
            go_wp2
            go_roundw
            case rel => exact ⟨k + 1, by omega, by go_num, HN.out, (by first | exact hb | exact hb.drew | exact below_drewN hb _)⟩
            case measure => simp [intOf]; omega
      · obtain rfl : k = N := by omega
        go_wp2
        go_ret
        exact ⟨by rw [HALL.out]; rfl, hb⟩
  · have HV := Lib.hid (show sameV p1 p2 n1 n2 = false from by unfold sameV; rw [decide_eq_false hnn, Bool.false_and])
    rw [HV.out]
    have hne : ¬ 2^n1 = 2^n2 := fun e => by
      rcases Nat.lt_or_gt_of_ne hnn with l | l
      · have := Nat.pow_lt_pow_right (a := 2) (by omega) l; omega
      · have := Nat.pow_lt_pow_right (a := 2) (by omega) l; omega
    obtain ⟨N1, hN1⟩ : ∃ N, N = 2^n1 := ⟨_, rfl⟩
    obtain ⟨N2, hN2⟩ : ∃ N, N = 2^n2 := ⟨_, rfl⟩
    rw [← hN1] at H1 a512 hne ⊢
    rw [← hN2] at H2 b512 hne ⊢
    clear hN1 hN2
    have hne2 : ((N1 : Int) != (N2 : Int)) = true := by simp; omega
    go_enter Try.func36, Try.ntmps36
    go_wp2
    go_ret
    exact ⟨rfl, Below.refl _ _⟩

set_option maxRecDepth 20000 in
set_option maxHeartbeats 4000000 in
theorem sDoesFitGame_any (q : Int) (A : Option Addr) (n cap : Nat) (ws : List Int) (m : Int) (B : Option Addr) (k capb : Nat) (L : List (List Int)) (w : World) (hm : n ≤ 9223372036854775807) (hk : Known w A n ws) (hl : k ≤ 1048576) (hcap : k ≤ capb) (hkl : ListsR w B k L) :
    Calls Try.prog 16 #[.agg #[.int .i64 q, .slice A n cap], .agg #[.int .i64 m, .slice B k capb]] w fun e w' => e = .returned (.tuple #[.bool (fitV q ws n m L), .bool (fitOk q ws n m L)]) ∧ Below w.heap.size w w' := by
  have HK := Lib.hid hk
  have hb0 : Below w.heap.size w ((w.alloc (.cells #[.int .i64 q, .slice A n cap] 41)).alloc (.cells #[.int .i64 m, .slice B k capb] 29)) := (below1 w _).alloc (by simp) _
  have hx := (Box.new w (.int .i64 q) (.slice A n cap)).alloc (.cells #[.int .i64 m, .slice B k capb] 29)
  have hy := BoxT.new 29 (w.alloc (.cells #[.int .i64 q, .slice A n cap] 41)) (.int .i64 m) (.slice B k capb)
  simp only [World.size_alloc] at hy
  have HKL := Lib.hid (hkl.now hb0)
  clear hk hkl
  obtain ⟨c0, c1⟩ := hx.cells
  by_cases hgood : Vo.Good q ws n
  · obtain ⟨b, off, rfl, hsl⟩ := HK.out.get hgood.lo
    have HSL := Lib.hid hsl
    have HGB := Lib.hid (goodB_true hgood)
    have HOK := Lib.hid hgood.ok
    have hn10 : n < 10 := by have := hgood.hi; omega
    clear hgood hsl
    cases hg : goodG m L with
    | true =>
      obtain ⟨h1, h9, hne, hr, hself⟩ := goodG_parts hg
      clear hself hne
      obtain ⟨d, rfl⟩ : ∃ d : Nat, m = d := ⟨m.toNat, by omega⟩
      rw [Int.toNat_natCast] at hr
      have hq9 : d ≤ 9 := by omega
      have hq10 : d < 10 := by omega
      have HFO := Lib.hid (show fitOk q ws n d L = true from by unfold fitOk; rw [hg, HGB.out]; rfl)
      have HFV := Lib.hid (fitV_yes HFO.out)
      rw [Int.toNat_natCast] at HFV
      have HGG := Lib.hid hg
      have HGA := Lib.hid (fun W h => gmAll_any d B k capb L W hq9 hl hr h)
      clear hg hr
      go_enter Try.func16, Try.ntmps16
      go_wp2_with fail
      refine (voGood_any q _ n cap ws _ hm (HK.out.now hb0)).mono ?_
      rintro e w1 ⟨rfl, hb1⟩
      rw [HGB.out]
      have g1 := bfrom hb0 hb1
      have hx1 := hx.now hb1
      have hy1 := hy.now hb1
      clear c0 c1
      obtain ⟨c0, c1⟩ := hx1.cells
      obtain ⟨d0, d1⟩ := hy1.cells
      go_wp2_with fail
      refine (gmGood_any d B k capb L _ hl hcap (HKL.out.now hb1)).mono ?_
      rintro e w2 ⟨rfl, hb2⟩
      rw [HGG.out]
      have g2 := bfrom g1 hb2
      have HKL2 := Lib.hid ((HKL.out.now hb1).now hb2)
      have hx2 := hx1.now hb2
      have hy2 := hy1.now hb2
      clear c0 c1 d0 d1
      obtain ⟨c0, c1⟩ := hx2.cells
      obtain ⟨d0, d1⟩ := hy2.cells
      have HSL2 := Lib.hid (HSL.out.now g2)
      have K := Lib.hid (show ∀ W, Below w2.heap.size w2 W → (W.cell? ⟨w.heap.size, 0, none⟩ = some (.int .i64 q) ∧ W.cell? ⟨w.heap.size, 1, none⟩ = some (.slice (some ⟨b, off, none⟩) n cap) ∧ W.cell? ⟨w.heap.size + 1, 0, none⟩ = some (.int .i64 d) ∧ W.cell? ⟨w.heap.size + 1, 1, none⟩ = some (.slice B k capb)) from fun W hb => ⟨(hx2.now hb).cells.1, (hx2.now hb).cells.2, (hy2.now hb).cells.1, (hy2.now hb).cells.2⟩)
      go_wp2_with fail
      go_region_held3 (fun w' => w'.cell? ⟨w.heap.size, 0, none⟩ = some (.int .i64 q) ∧ w'.cell? ⟨w.heap.size, 1, none⟩ = some (.slice (some ⟨b, off, none⟩) n cap) ∧ w'.cell? ⟨w.heap.size + 1, 0, none⟩ = some (.int .i64 d) ∧ w'.cell? ⟨w.heap.size + 1, 1, none⟩ = some (.slice B k capb))
        (first | exact ⟨a0, a1, a2, a3⟩ | exact ⟨b0, b1, b2, b3⟩ | exact ⟨p0, p1, p2, p3⟩ | exact ⟨c0, c1, d0, d1⟩ | go_keep)
        (first
          | (go_at_call 37; refine (voWins_any q b off n cap ws _ hn10 HOK.out HSL2.out.drew).mono ?_; rintro e wA ⟨gw, cpw, rfl, hgew, how, hbA⟩; have HOW := Lib.hid how; clear how; have gA := bfrom (Below.refl _ _).drew hbA; obtain ⟨a0, a1, a2, a3⟩ := K.out _ gA)
          | (go_at_call 38; refine (HGA.out _ (HKL2.out.now gA).lists).mono ?_; rintro e wB ⟨rfl, hown, hbB⟩; have HOG := Lib.hid hown; clear hown; have gB := bfrom gA hbB; obtain ⟨b0, b1, b2, b3⟩ := K.out _ gB)
          | (go_at_call 36; refine (weSame_any (winB q ws n) (winS (setsN L)) n d gw _ cpw _ _ hn10 hq10 (Own.below HOW.out hbB HOW.out.lt) HOG.out).mono ?_; rw [← HFV.out]; rintro e wC ⟨rfl, hbC⟩; have gC := bfrom gB hbC; obtain ⟨p0, p1, p2, p3⟩ := K.out _ gC))
      all_goals
        clear c0 c1 d0 d1 a0 a1 a2 a3 b0 b1 b2 b3 p0 p1 p2 p3
        go_wp2
        go_ret2
        exact ⟨by rw [HFO.out]; rfl, bfrom g2 gC⟩
    | false =>
      have HFO := Lib.hid (show fitOk q ws n m L = false from by unfold fitOk; rw [hg, Bool.and_false])
      have HFV := Lib.hid (fitV_no HFO.out)
      have HGG := Lib.hid hg
      clear hg
      go_enter Try.func16, Try.ntmps16
      go_wp2_with fail
      refine (voGood_any q _ n cap ws _ hm (HK.out.now hb0)).mono ?_
      rintro e w1 ⟨rfl, hb1⟩
      rw [HGB.out]
      have g1 := bfrom hb0 hb1
      obtain ⟨d0, d1⟩ := (hy.now hb1).cells
      go_wp2_with fail
      refine (gmGood_any m B k capb L _ hl hcap (HKL.out.now hb1)).mono ?_
      rintro e w2 ⟨rfl, hb2⟩
      rw [HGG.out]
      go_wp2
      go_ret2
      exact ⟨by rw [HFV.out, HFO.out]; rfl, bfrom g1 hb2⟩
  · have HGB := Lib.hid (goodB_false hgood)
    have HFO := Lib.hid (show fitOk q ws n m L = false from by unfold fitOk; rw [HGB.out, Bool.false_and])
    have HFV := Lib.hid (fitV_no HFO.out)
    clear hgood
    go_enter Try.func16, Try.ntmps16
    go_wp2_with fail
    refine (voGood_any q _ n cap ws _ hm (HK.out.now hb0)).mono ?_
    rintro e w1 ⟨rfl, hb1⟩
    rw [HGB.out]
    go_wp2
    go_ret2
    exact ⟨by rw [HFV.out, HFO.out]; rfl, bfrom hb0 hb1⟩
end Go.Proofs.Ytipplbcjdcdapab
