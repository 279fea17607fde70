/- Contract of the model's AreSameVotes. -/
import Derived.Test.YtldpdjnedoflcabV1
namespace Go.Proofs.Ytldpdjnedoflcab
open Go.RowKit Vo

set_option maxHeartbeats 4000000 in
theorem sAreSameVotes_any (q : Int) (A : Option Addr) (n cap : Nat) (ws : List Int) (q2 : Int) (A2 : Option Addr) (n2 cap2 : Nat) (ws2 : List Int) (w : World) (hm : n ≤ 9223372036854775807) (hk : Known w A n ws) (hm2 : n2 ≤ 9223372036854775807) (hk2 : Known w A2 n2 ws2) :
    Calls Try.prog 39 #[.agg #[.int .i64 q, .slice A n cap], .agg #[.int .i64 q2, .slice A2 n2 cap2]] w fun e w' =>
      e = .returned (.tuple #[.bool (votesB q ws n q2 ws2 n2), .bool (bothB q ws n q2 ws2 n2)]) ∧ Below w.heap.size w w' := by
  have HK := Lib.hid hk
  have HK2 := Lib.hid hk2
  clear hk hk2
  have hx := (Box.new w (.int .i64 q) (.slice A n cap)).alloc (.cells #[.int .i64 q2, .slice A2 n2 cap2] 29)
  have hy := Box.new (w.alloc (.cells #[.int .i64 q, .slice A n cap] 29)) (.int .i64 q2) (.slice A2 n2 cap2)
  simp only [World.size_alloc] at hy
  have hb0 : Below w.heap.size w ((w.alloc (.cells #[.int .i64 q, .slice A n cap] 29)).alloc (.cells #[.int .i64 q2, .slice A2 n2 cap2] 29)) := (below1 w _).alloc (by simp) _
  by_cases hg : Vo.Good q ws n
  · have HGB := Lib.hid (goodB_true hg)
    by_cases hg2 : Vo.Good q2 ws2 n2
    · have HGB2 := Lib.hid (goodB_true hg2)
      have HF := Lib.hid (show bothB q ws n q2 ws2 n2 = true from by unfold bothB; rw [HGB.out, HGB2.out]; rfl)
      obtain ⟨b, off, rfl, hsl⟩ := HK.out.get hg.lo
      obtain ⟨b2, off2, rfl, hsl2⟩ := HK2.out.get hg2.lo
      have HSL := Lib.hid hsl
      have HSL2 := Lib.hid hsl2
      have HOK := Lib.hid hg.ok
      have HOK2 := Lib.hid hg2.ok
      have hn9 := hg.hi
      have hn10 : n < 10 := by omega
      have hn29 := hg2.hi
      have hn210 : n2 < 10 := by omega
      have h512 := pow_lt hn9
      have h5122 := pow_lt hn29
      clear hg hg2 hsl hsl2
      go_enter Try.func39, Try.ntmps39
      go_wp2_with fail
      refine (voGood_any q _ n cap ws _ hm (HK.out.now hb0)).mono ?_
      rintro e w1 ⟨rfl, hb1⟩
      rw [HGB.out]
      have hx1 := hx.now hb1
      have hy1 := hy.now hb1
      have g1 := bfrom hb0 hb1
      obtain ⟨c0, c1⟩ := hx1.cells
      obtain ⟨d0, d1⟩ := hy1.cells
      go_wp2_with fail
      refine (voGood_any q2 _ n2 cap2 ws2 _ hm2 (HK2.out.now g1)).mono ?_
      rintro e w2 ⟨rfl, hb2⟩
      rw [HGB2.out]
      have hx2 := hx1.now hb2
      have hy2 := hy1.now hb2
      have g2 := bfrom g1 hb2
      have hs2 := Lib.hid (HSL.out.now g2)
      have ht2 := Lib.hid (HSL2.out.now g2)
      clear c0 c1 d0 d1 hx hy hx1 hy1 hb0 hb1 hb2 g1
      have K := Lib.hid (show ∀ W, Below w2.heap.size w2 W → (W.cell? ⟨w.heap.size, 0, none⟩ = some (.int .i64 q) ∧ W.cell? ⟨w.heap.size, 1, none⟩ = some (.slice (some ⟨b, off, none⟩) n cap) ∧ W.cell? ⟨w.heap.size + 1, 0, none⟩ = some (.int .i64 q2) ∧ W.cell? ⟨w.heap.size + 1, 1, none⟩ = some (.slice (some ⟨b2, off2, none⟩) n2 cap2)) from fun W hb => ⟨(hx2.now hb).cells.1, (hx2.now hb).cells.2, (hy2.now hb).cells.1, (hy2.now hb).cells.2⟩)
      obtain ⟨c0, c1⟩ := hx2.cells
      obtain ⟨d0, d1⟩ := hy2.cells
      go_wp2_with fail
      go_region_held3 (fun w' => w'.cell? ⟨w.heap.size, 0, none⟩ = some (.int .i64 q) ∧ w'.cell? ⟨w.heap.size, 1, none⟩ = some (.slice (some ⟨b, off, none⟩) n cap) ∧ w'.cell? ⟨w.heap.size + 1, 0, none⟩ = some (.int .i64 q2) ∧ w'.cell? ⟨w.heap.size + 1, 1, none⟩ = some (.slice (some ⟨b2, off2, none⟩) n2 cap2))
        (first | go_keep | exact K.out _ gA | exact K.out _ gB)
        (first
          | (go_at_call 54; ((with_reducible refine (voWins_any q b off n cap ws _ hn10 HOK.out ?_).mono ?_)); (first | exact hs2.out.now gB | exact hs2.out.drew); rintro e wA ⟨xg, xc, rfl, hxg, hxo, hbA⟩; (first | have gA := bfrom gB hbA | have gA := bfrom (Below.refl _ _).drew hbA))
          | (go_at_call 54; ((with_reducible refine (voWins_any q2 b2 off2 n2 cap2 ws2 _ hn210 HOK2.out ?_).mono ?_)); (first | exact ht2.out.now gA | exact ht2.out.drew); rintro e wB ⟨yg, yc, rfl, hyg, hyo, hbB⟩; (first | have gB := bfrom gA hbB | have gB := bfrom (Below.refl _ _).drew hbB)))
      all_goals
        first
          | (have hxf := hxo.below hbB hxo.lt; have hyf := hyo; have gf := gB)
          | (have hyf := hyo.below hbA hyo.lt; have hxf := hxo; have gf := gA)
        have HX := Lib.hid hxf
        have HY := Lib.hid hyf
        have hxl := hxf.lt
        have hyl := hyf.lt
        have g2f := bfrom g2 gf
        clear hxf hyf hxo hyo c0 c1 d0 d1 hxg hyg
        by_cases hnn : n = n2
        · subst hnn
          have HV := Lib.hid (votesB_yes HF.out)
          obtain ⟨N, hN⟩ : ∃ N, 2^n = N := ⟨_, rfl⟩
          rw [hN] at HX HY HV h512 ⊢
          clear hN
          go_wp2_with fail
          go_loopw [8, 28] (fun _ i wr => ∃ k : Nat, k ≤ N ∧ i = .int .i64 k ∧ allK (sameP q ws q2 ws2 n) k = true ∧ Below w.heap.size w wr ∧ Own wr xg 4 N (fun j => .bool (winB q ws n j)) ∧ Own wr yg 4 N (fun j => .bool (winB q2 ws2 n j))) (fun _ i _ => N - (intOf i).toNat)
          case atStart => exact ⟨0, Nat.zero_le _, rfl, rfl, g2f, HX.out, HY.out⟩
          case round =>
            obtain ⟨k, hk, rfl, hall, hbr, hxr, hyr⟩ := hrel
            have HL := Lib.hid hall
            have HXR := Lib.hid hxr
            have HYR := Lib.hid hyr
            clear hall hxr hyr
            by_cases hlt : k < N
            · have hcx := HXR.out.cell hlt
              have hcy := HYR.out.cell hlt
              have hlti : (k : Int) < N := by omega
              have HPK := Lib.hid (show sameP q ws q2 ws2 n k = (winB q ws n k == winB q2 ws2 n k) from rfl)
              cases hwx : winB q ws n k <;> cases hwy : winB q2 ws2 n k
              all_goals
                rw [hwx] at hcx HPK
                rw [hwy] at hcy HPK
                clear hwx hwy
                go_wp2_with fail
                go_quiet (fail)
                go_wp2
                first
                  | (go_roundw
                     case rel => exact ⟨k + 1, by omega, by go_num, by simp only [allK]; rw [HL.out, HPK.out]; rfl, below_drewN hbr _, HXR.out, HYR.out⟩
                     case measure => simp [intOf]; omega)
                  | (go_ret2
                     exact ⟨by rw [HF.out, HV.out, allK_false k hlt (by rw [HPK.out]; rfl)]; rfl, below_drewN hbr _⟩)
            · obtain rfl : k = N := by omega
              go_wp2
              go_ret2
              exact ⟨by rw [HF.out, HV.out, HL.out]; rfl, hbr⟩
        · have hpn : 2^n ≠ 2^n2 := fun e => hnn ((Nat.pow_right_inj (by omega)).1 e)
          have HV := Lib.hid (votesB_no2 (q := q) (ws := ws) (q2 := q2) (ws2 := ws2) hnn)
          obtain ⟨N, hN⟩ : ∃ N, 2^n = N := ⟨_, rfl⟩
          obtain ⟨N2, hN2⟩ : ∃ N2, 2^n2 = N2 := ⟨_, rfl⟩
          rw [hN] at HX hpn h512 ⊢
          rw [hN2] at HY hpn h5122 ⊢
          have hne : ((N : Int) == N2) = false := by simp; omega
          have hne2 : ((N : Int) != N2) = true := by simp; omega
          clear hN hN2 hnn hpn
          go_wp2
          go_ret2
          exact ⟨by rw [HF.out, HV.out]; rfl, g2f⟩
    · have HGB2 := Lib.hid (goodB_false hg2)
      have HF := Lib.hid (show bothB q ws n q2 ws2 n2 = false from by unfold bothB; rw [HGB2.out]; simp)
      clear hg hg2
      go_enter Try.func39, Try.ntmps39
      go_wp2_with fail
      refine (voGood_any q _ n cap ws _ hm (HK.out.now hb0)).mono ?_
      rintro e w1 ⟨rfl, hb1⟩
      rw [HGB.out]
      have hy1 := hy.now hb1
      have g1 := bfrom hb0 hb1
      obtain ⟨d0, d1⟩ := hy1.cells
      go_wp2_with fail
      refine (voGood_any q2 _ n2 cap2 ws2 _ hm2 (HK2.out.now g1)).mono ?_
      rintro e w2 ⟨rfl, hb2⟩
      rw [HGB2.out]
      go_wp2
      go_ret2
      exact ⟨by rw [votesB_no1 HF.out, HF.out]; rfl, bfrom g1 hb2⟩
  · have HGB := Lib.hid (goodB_false hg)
    have HF := Lib.hid (show bothB q ws n q2 ws2 n2 = false from by unfold bothB; rw [HGB.out]; rfl)
    clear hg
    go_enter Try.func39, Try.ntmps39
    go_wp2_with fail
    refine (voGood_any q _ n cap ws _ hm (HK.out.now hb0)).mono ?_
    rintro e w1 ⟨rfl, hb1⟩
    rw [HGB.out]
    go_wp2
    go_ret2
    exact ⟨by rw [votesB_no1 HF.out, HF.out]; rfl, bfrom hb0 hb1⟩
end Go.Proofs.Ytldpdjnedoflcab
