/- Contract of the model's LowerWeights. -/
import Derived.Test.YtkeiojfnjgjliaaWo
import Derived.Test.YtkeiojfnjgjliaaWk
import Derived.Test.YtkeiojfnjgjliaaD2
import Derived.Test.YtkeiojfnjgjliaaG2
import Derived.Deep.RegionLaw
namespace Go.Proofs.Ytkeiojfnjgjliaa
open Go.RowKit Vo

set_option maxRecDepth 20000 in
set_option maxHeartbeats 4000000 in
theorem sLowerWeights_any (q : Int) (A : Option Addr) (n cap : Nat) (ws : List Int) (w : World) (hm : n ≤ 9223372036854775807) (hk : Known w A n ws) :
    Calls Try.prog 41 #[.agg #[.int .i64 q, .slice A n cap]] w fun e w' => ComAt (lowQ q ws n) (dualN q ws n) (lowW (winB q ws n) q ws n n) (goodB q ws n) w w' e := by
  have HK := Lib.hid hk
  clear hk
  have hb0 : Below w.heap.size w ((w.alloc (.cells #[.int .i64 q, .slice A n cap] 32)).alloc (.cells #[.int .i64 0, .slice none 0 0] 32)) := (below1 w _).alloc (by simp) _
  have hx := (Box.new w (.int .i64 q) (.slice A n cap)).alloc (.cells #[.int .i64 0, .slice none 0 0] 32)
  have hr := Box.new (w.alloc (.cells #[.int .i64 q, .slice A n cap] 32)) (.int .i64 0) (.slice none 0 0)
  simp only [World.size_alloc] at hr
  have KF := Lib.hid (show ∀ W, BoxT 32 W (w.heap.size + 1) (.int .i64 0) (.slice none 0 0) → (W.frozen? ⟨w.heap.size + 1, 0, none⟩ = false ∧ W.frozen? ⟨w.heap.size + 1, 1, none⟩ = false) from fun W h => by unfold BoxT at h; exact ⟨by simp [World.frozen?, h], by simp [World.frozen?, h]⟩)
  by_cases hg : Vo.Good q ws n
  · obtain ⟨b, off, rfl, hsl⟩ := HK.out.get hg.lo
    have HSL := Lib.hid hsl
    have HG := Lib.hid hg
    have HGB := Lib.hid (goodB_true hg)
    have hn9 := hg.hi
    have hn1 := hg.lo
    have hn10 : n < 10 := by omega
    clear hg hsl
    have HOK := Lib.hid HG.out.ok
    have HINV := Lib.hid (fun k hk => lowW_inv HG.out k hk)
    have hq1 := HG.out.q1
    have hq2' := HG.out.q2
    have htot := HG.out.tot
    have hq2 : q ≤ 9000 := by omega
    have h512 := pow_lt hn9
    have hpos := Nat.two_pow_pos n
    rw [lowQ_yes HGB.out, dualN_yes HGB.out, HGB.out]
    obtain ⟨N, hN⟩ : ∃ N, N = 2^n := ⟨_, rfl⟩
    have HN := Lib.hid hN
    rw [← hN] at h512 hpos
    have HSM := Lib.hid (fun (k : Nat) (hk : k < n) => (show smK (lowW (winB q ws n) q ws n k) q n k (winB q ws n) N = spK (lowW (winB q ws n) q ws n k) q n k (winL (winB q ws n) n) (winL (winB q ws n) n).length from by rw [hN]; exact spare_same hn9 (lowW_inv HG.out k (by omega)) hk))
    have HSB := Lib.hid (fun (k : Nat) (hk : k < n) (m : Nat) (hm : m ≤ N) => (show 0 ≤ smK (lowW (winB q ws n) q ws n k) q n k (winB q ws n) m ∧ smK (lowW (winB q ws n) q ws n k) q n k (winB q ws n) m ≤ 1000 from spare_bd (lowW_inv HG.out k (by omega)) hk m (by rw [← hN]; exact hm)))
    have HLS := Lib.hid (fun k => (show lowW (winB q ws n) q ws n (k+1) = (lowW (winB q ws n) q ws n k).set k ((lowW (winB q ws n) q ws n k).getD k 0 - spK (lowW (winB q ws n) q ws n k) q n k (winL (winB q ws n) n) (winL (winB q ws n) n).length) from rfl))
    clear hq2' htot hN
    go_enter Try.func41, Try.ntmps41
    go_wp2_with fail
    refine (voGood_any q _ n cap ws _ hm (HK.out.now hb0)).mono ?_
    rintro e w1 ⟨rfl, hb1⟩
    rw [HGB.out]
    have g1 := bfrom hb0 hb1
    have hr1 := hr.now hb1
    have hx1 := hx.now hb1
    obtain ⟨c0, c1⟩ := hx1.cells
    have hzr := hr1.lt
    clear hr hb0 hb1 hx
    go_wp2_with fail
    refine (voWins_any q b off n cap ws w1 hn10 HOK.out (HSL.out.now g1)).mono ?_
    rintro e w2 ⟨gw, cpw, rfl, hgew, how, hb2⟩
    rw [← HN.out] at how ⊢
    have g2 := bfrom g1 hb2
    have hr2 := hr1.now hb2
    have hx2 := hx1.now hb2
    have hs2 := Lib.hid (HSL.out.now g2)
    have hz2 := hb2.size
    have hgwl := how.lt
    have HOW := Lib.hid how
    clear c0 c1 hb2 hr1 hx1 how
    obtain ⟨c0, c1⟩ := hx2.cells
    have K := Lib.hid (show ∀ W, Below w2.heap.size w2 W → (W.cell? ⟨w.heap.size, 0, none⟩ = some (.int .i64 q) ∧ W.cell? ⟨w.heap.size, 1, none⟩ = some (.slice (some ⟨b, off, none⟩) n cap)) from fun W hb => ⟨(hx2.now hb).cells.1, (hx2.now hb).cells.2⟩)
    obtain ⟨m0, m1⟩ := K.out (w2.alloc (.cells #[.int .i64 0, .slice none 0 0] 32)) ((Below.refl _ _).alloc (Nat.le_refl _) _)
    go_wp2_with fail
    go_region_law (go_simp; go_at_call 75; refine (l1Own_any b off n cap ws _ hn1 hn9 ?_).mono ?_; (first | exact hs2.out.drew | exact hs2.out | exact (hs2.out.alloc _).drew | exact (hs2.out.alloc _)); rintro e wA ⟨g, cp, rfl, hge, hI, hbA⟩; have gA : Below w2.heap.size w2 wA := bfrom (by first | exact (Below.refl _ _).drew | exact ((Below.refl _ _).alloc (Nat.le_refl _) _).drew | exact Below.refl _ _) hbA; obtain ⟨a0, a1⟩ := K.out _ gA; (first | (have hB9 := BoxT.now (Box.new w2 (.int .i64 0) (.slice none 0 0)).drew hbA; obtain ⟨k0, k1⟩ := hB9.cells; obtain ⟨q0, q1⟩ := frozen_box2 hB9) | (have hB8 := Box.new wA (.int .i64 0) (.slice none 0 0); obtain ⟨k0, k1⟩ := hB8.cells; obtain ⟨q0, q1⟩ := frozen_box2 hB8; obtain ⟨p0, p1⟩ := K.out (wA.alloc (.cells #[.int .i64 0, .slice none 0 0] 32)) (gA.alloc gA.size _))))
    all_goals
      have hgl : g < wA.heap.size := hI.lt
      have hsA := gA.size
      have hge2 : w2.heap.size ≤ g := by first | exact hge | (have h := hge; simp at h; omega) | (have h : (w2.alloc _).heap.size ≤ g := hge; simp at h; omega)
      have hoA := Own.below HOW.out gA hgwl
      have hrA := hr2.now gA
      have gwA := bfrom g2 gA
      first
        | (have hb9 := Box.new wA (.int .i64 q) (.slice (some ⟨g, 0, none⟩) n cp)
           have hI9 := hI.alloc (.cells #[.int .i64 q, .slice (some ⟨g, 0, none⟩) n cp] 32)
           have hr9 := hrA.alloc (.cells #[.int .i64 q, .slice (some ⟨g, 0, none⟩) n cp] 32)
           have ho9 := hoA.alloc (.cells #[.int .i64 q, .slice (some ⟨g, 0, none⟩) n cp] 32)
           have g9 := gwA.alloc gwA.size (.cells #[.int .i64 q, .slice (some ⟨g, 0, none⟩) n cp] 32)
           obtain ⟨W9, hW9⟩ : ∃ W9, W9 = wA.alloc (.cells #[.int .i64 q, .slice (some ⟨g, 0, none⟩) n cp] 32) := ⟨_, rfl⟩
           rw [← hW9] at hb9 hI9 hr9 ho9 g9 ⊢
           clear hW9
           have hnb : g ≠ wA.heap.size ∧ w1.heap.size ≤ wA.heap.size := ⟨by omega, by omega⟩
           obtain ⟨nb, hnbe⟩ : ∃ nb, nb = wA.heap.size := ⟨_, rfl⟩
           rw [← hnbe] at hb9 hnb ⊢
           clear hnbe)
        | (have hb9 := box_put (show BoxT 32 wA w2.heap.size (.int .i64 0) (.slice none 0 0) from hB9) (.int .i64 q) (.slice (some ⟨g, 0, none⟩) n cp)
           have hgn : g ≠ w2.heap.size := by have h : (w2.alloc _).heap.size ≤ g := hge; simp at h; omega
           have hI9 := (hI.far (p := ⟨w2.heap.size, 0, none⟩) (show g ≠ w2.heap.size from hgn) (.int .i64 q)).far (p := ⟨w2.heap.size, 1, none⟩) (show g ≠ w2.heap.size from hgn) (.slice (some ⟨g, 0, none⟩) n cp)
           have hr9 := (hrA.far (p := ⟨w2.heap.size, 0, none⟩) (show w.heap.size + 1 ≠ w2.heap.size by omega) (.int .i64 q)).far (p := ⟨w2.heap.size, 1, none⟩) (show w.heap.size + 1 ≠ w2.heap.size by omega) (.slice (some ⟨g, 0, none⟩) n cp)
           have ho9 := (hoA.far (p := ⟨w2.heap.size, 0, none⟩) (show gw ≠ w2.heap.size by omega) (.int .i64 q)).far (p := ⟨w2.heap.size, 1, none⟩) (show gw ≠ w2.heap.size by omega) (.slice (some ⟨g, 0, none⟩) n cp)
           have g9 := (gwA.setCell (p := ⟨w2.heap.size, 0, none⟩) g2.size (.int .i64 q)).setCell (p := ⟨w2.heap.size, 1, none⟩) g2.size (.slice (some ⟨g, 0, none⟩) n cp)
           obtain ⟨W9, hW9⟩ : ∃ W9, W9 = (wA.setCell ⟨w2.heap.size, 0, none⟩ (.int .i64 q)).setCell ⟨w2.heap.size, 1, none⟩ (.slice (some ⟨g, 0, none⟩) n cp) := ⟨_, rfl⟩
           rw [← hW9] at hb9 hI9 hr9 ho9 g9 ⊢
           clear hW9
           have hnb : g ≠ w2.heap.size ∧ w1.heap.size ≤ w2.heap.size := ⟨hgn, hz2⟩
           obtain ⟨nb, hnbe⟩ : ∃ nb, nb = w2.heap.size := ⟨_, rfl⟩
           rw [← hnbe] at hb9 hnb ⊢
           clear hnbe)
      obtain ⟨hgn, hnb2⟩ := hnb
      have hgr : g ≠ w.heap.size + 1 := by omega
      have hgw' : w.heap.size ≤ g := by omega
      have hgg : gw ≠ g := by omega
      have hnw : nb ≠ w.heap.size + 1 := by omega
      have HI9 := Lib.hid hI9
      have HO9 := Lib.hid ho9
      have HB9' := Lib.hid hb9
      have HR9 := Lib.hid hr9
      obtain ⟨e0, e1⟩ := hb9.cells
      clear c0 c1 m0 m1 a0 a1 hI9 ho9 hb9 hr9 hrA hoA gwA hI hge hbA gA hr2 hx2 g2
      try clear k0 k1 q0 q1
      try clear p0 p1
      go_wp2_with fail
      clear e0 e1
      go_loopw [6, 25] (fun _ i wr => ∃ k : Nat, k ≤ n ∧ i = .int .i64 k ∧ Ints wr g n (lowW (winB q ws n) q ws n k) ∧ Own wr gw 4 N (fun j => .bool (winB q ws n j)) ∧ Box wr nb (.int .i64 q) (.slice (some ⟨g, 0, none⟩) n cp) ∧ BoxT 32 wr (w.heap.size + 1) (.int .i64 0) (.slice none 0 0) ∧ Below w.heap.size w wr) (fun _ i _ => n - (intOf i).toNat)
      case atStart => exact ⟨0, Nat.zero_le _, rfl, HI9.out.congr fun j hj => by simp only [lowW]; rw [range_getD hj], HO9.out, HB9'.out, HR9.out, g9⟩
      case round =>
        obtain ⟨k, hk, rfl, hown, hwin, hbx, hrr, hbr⟩ := hrel
        obtain ⟨e0, e1⟩ := hbx.cells
        have HI := Lib.hid hown
        have HWN := Lib.hid hwin
        have HBX := Lib.hid hbx
        clear hown hwin
        by_cases hlt : k < n
        · have hinv := HINV.out k hk
          have hcell := HI.out.cell hlt
          have hsm0 := Lib.hid (show smK (lowW (winB q ws n) q ws n k) q n k (winB q ws n) 0 = (lowW (winB q ws n) q ws n k).getD k 0 from rfl)
          have HSMK := Lib.hid (HSM.out k hlt)
          have HSBK := Lib.hid (HSB.out k hlt)
          have HVOK := Lib.hid hinv.ok
          have HLK := Lib.hid (HLS.out k)
          have hv := hinv.ok k hlt
          have hs0 := (spK_spec (lowW (winB q ws n) q ws n k) q n k (winL (winB q ws n) n) (winL (winB q ws n) n).length).1
          have HSET := Lib.hid (fun (W : World) (y : Int) (hW : Ints W g n (lowW (winB q ws n) q ws n k)) => (show Ints (W.setCell ⟨g, k, none⟩ (.int .i64 y)) g n ((lowW (winB q ws n) q ws n k).set k y) from (hW.set k (.int .i64 y)).congr fun j hj => by
            rw [getD_set (by rw [hinv.len]; omega)]
            by_cases e : j = k
            · rw [if_pos e, if_pos e]
            · rw [if_neg e, if_neg e]))
          obtain ⟨V, hV⟩ : ∃ V, V = lowW (winB q ws n) q ws n k := ⟨_, rfl⟩
          rw [← hV] at HI hcell hsm0 HSMK HSBK HVOK HLK hv hs0 HSET
          obtain ⟨sp, hsp⟩ : ∃ sp, sp = spK V q n k (winL (winB q ws n) n) (winL (winB q ws n) n).length := ⟨_, rfl⟩
          rw [← hsp] at HSMK HLK hs0
          rw [← hsm0.out] at hcell
          clear hinv hV hsp
          go_wp2_with fail
          go_loopw [7, 35] (fun s i wr2 => ∃ j : Nat, j ≤ N ∧ i = .int .i64 j ∧ s = .int .i64 (smK V q n k (winB q ws n) j) ∧ Below wr.heap.size wr wr2) (fun _ i _ => N - (intOf i).toNat)
          case atStart => exact ⟨0, Nat.zero_le _, rfl, rfl, Below.refl _ _⟩
          case round =>
            obtain ⟨j, hj, rfl, rfl, hb2⟩ := hrel
            have hx2 := HBX.out.now hb2
            obtain ⟨f0, f1⟩ := hx2.cells
            by_cases hlt2 : j < N
            · have hcell2 := (Own.below HWN.out hb2 HWN.out.lt).cell hlt2
              have hbm := bit_mod j k
              have hnn := div_nn j k
              have HS := Lib.hid (show smK V q n k (winB q ws n) (j+1) = if winB q ws n j = true ∧ j.testBit k = true then min (smK V q n k (winB q ws n) j) (wtK V j n - q) else smK V q n k (winB q ws n) j from rfl)
              have hbd := HSBK.out j hj
              obtain ⟨t, ht⟩ : ∃ t, t = smK V q n k (winB q ws n) j := ⟨_, rfl⟩
              rw [← ht] at HS hbd ⊢
              clear ht
              cases hp : winB q ws n j with
              | false =>
                rw [hp] at hcell2 HS
                have HP := Lib.hid hp
                clear hp hbm
                go_wp2
                go_roundw
                case rel => exact ⟨j + 1, by omega, by go_num, by rw [HS.out]; simp, hb2⟩
                case measure => simp [intOf]; omega
              | true =>
                rw [hp] at hcell2 HS
                have HP := Lib.hid hp
                clear hp
                cases hb : j.testBit k with
                | false =>
                  rw [hb] at HS hbm
                  clear hb
                  go_wp2
                  go_roundw
                  case rel => exact ⟨j + 1, by omega, by go_num, by rw [HS.out]; simp, hb2⟩
                  case measure => simp [intOf]; omega
                | true =>
                  rw [hb] at HS hbm
                  have hwt := wtK_bd (s := j) HVOK.out
                  have hst := sumK_bd HVOK.out
                  have HW1 := Lib.hid (show IntKind.i64.wrap (wtK V j n - q) = wtK V j n - q from IntWalk.i64_in _ (by omega))
                  obtain ⟨x, hx⟩ : ∃ x, x = wtK V j n := ⟨_, rfl⟩
                  have HX3 := Lib.hid hx
                  rw [← hx] at HS HW1
                  have K3 := Lib.hid (show ∀ W, Below _ _ W → (W.cell? ⟨nb, 0, none⟩ = some (.int .i64 q) ∧ W.cell? ⟨nb, 1, none⟩ = some (.slice (some ⟨g, 0, none⟩) n cp)) from fun W hW => (hx2.now hW).cells)
                  clear hb hwt hst hx hx2
                  go_wp2_with fail
                  go_region_held3 (fun w' => w'.cell? ⟨nb, 0, none⟩ = some (.int .i64 q) ∧ w'.cell? ⟨nb, 1, none⟩ = some (.slice (some ⟨g, 0, none⟩) n cp))
                    (first | exact ⟨f0, f1⟩ | exact ⟨r0, r1⟩ | go_keep)
                    (first
                      | (go_at_call 83; refine (voWeight_any _ g 0 n cp V j _ hn10 (by omega) HVOK.out ?_).mono ?_; (first | exact (Ints.sl (Own.below HI.out hb2 HI.out.lt)).drew | exact (Ints.sl (Own.below HI.out hb2 HI.out.lt))); rw [← HX3.out]; rintro e wB ⟨rfl, hbB⟩; have gB := bfrom hb2.drew hbB; obtain ⟨r0, r1⟩ := K3.out _ (bfrom (Below.refl _ _).drew hbB))
                      | (go_at_call 82; refine (l1Least_int _ _ _).mono ?_; rintro e w' ⟨rfl, rfl⟩; rw [HW1.out]))
                  all_goals
                    clear f0 f1 r0 r1
                    go_wp2
                    go_roundw
                    case rel => exact ⟨j + 1, by omega, by go_num, by rw [HS.out]; simp, gB⟩
                    case measure => simp [intOf]; omega
            · obtain rfl : j = N := by omega
              have hc3 := (Own.below HI.out hb2 HI.out.lt).cell hlt
              have hf3 := (Own.below HI.out hb2 HI.out.lt).frozen k
              rw [← hsm0.out] at hc3
              have hbd := HSBK.out j (Nat.le_refl _)
              have HSM2 := Lib.hid (show smK V q n k (winB q ws n) j = sp from HSMK.out)
              rw [HSM2.out] at hbd ⊢
              have hwr : IntKind.i64.wrap (smK V q n k (winB q ws n) 0 - sp) = smK V q n k (winB q ws n) 0 - sp := IntWalk.i64_in _ (by rw [hsm0.out]; omega)
              have HE9 := Lib.hid (show V.set k (smK V q n k (winB q ws n) 0 - sp) = lowW (winB q ws n) q ws n (k+1) from by rw [HLK.out, hsm0.out])
              have hB9 := (bfrom hbr hb2).setCell (p := ⟨g, k, none⟩) (by simpa using hgw') (.int .i64 (smK V q n k (winB q ws n) 0 - sp))
              have hI9 := HSET.out _ (smK V q n k (winB q ws n) 0 - sp) (Own.below HI.out hb2 HI.out.lt)
              rw [HE9.out] at hI9
              have hO9 := (Own.below HWN.out hb2 HWN.out.lt).far (p := ⟨g, k, none⟩) (show gw ≠ g from hgg) (.int .i64 (smK V q n k (winB q ws n) 0 - sp))
              have hX9 := hx2.far (p := ⟨g, k, none⟩) (show nb ≠ g from fun e => hgn e.symm) (.int .i64 (smK V q n k (winB q ws n) 0 - sp))
              have hR9 := (hrr.now hb2).far (p := ⟨g, k, none⟩) (show w.heap.size + 1 ≠ g from fun e => hgr e.symm) (.int .i64 (smK V q n k (winB q ws n) 0 - sp))
              obtain ⟨y, hy⟩ : ∃ y, y = smK V q n k (winB q ws n) 0 := ⟨_, rfl⟩
              rw [← hy] at hc3 hwr hB9 hI9 hO9 hX9 hR9
              have hyb : 0 ≤ y ∧ y ≤ 1000 := by rw [hy, hsm0.out]; exact hv
              clear hy
              go_wp2
              go_roundw
              case rel => exact ⟨k + 1, by omega, by go_num, hI9, hO9, hX9, hR9, hB9⟩
              case measure => simp [intOf]; omega
        · obtain rfl : k = n := by omega
          obtain ⟨d0, d1⟩ := hrr.cells
          obtain ⟨f0, f1⟩ := KF.out _ hrr
          go_wp2
          refine bodyPost_ret (v := .tuple #[.agg #[.int .i64 q, .slice (some ⟨g, 0, none⟩) k cp], .bool true]) (by simp [results, Try.results41, go_sem, d0, d1]) rfl ?_
          exact ⟨_, _, rfl, Or.inr ⟨g, rfl, hgw', (HI.out.far (by simpa using hgr) _).far (by simpa using hgr) _⟩, (hbr.setCell (by simp) _).setCell (by simp) _⟩
  · have HGB := Lib.hid (goodB_false hg)
    clear hg
    go_enter Try.func41, Try.ntmps41
    go_wp2_with fail
    refine (voGood_any q A n cap ws _ hm (HK.out.now hb0)).mono ?_
    rintro e w1 ⟨rfl, hb1⟩
    rw [HGB.out]
    have g1 := bfrom hb0 hb1
    have hr1 := hr.now hb1
    obtain ⟨c0, c1⟩ := hr1.cells
    obtain ⟨f0, f1⟩ := KF.out _ hr1
    clear hr hb0 hb1 hx
    go_wp2
    refine bodyPost_ret (v := .tuple #[.agg #[.int .i64 0, .slice none 0 0], .bool false]) (by simp [results, Try.results41, go_sem, c0, c1]) rfl ?_
    rw [lowQ_no HGB.out, dualN_no HGB.out, HGB.out]
    exact ⟨_, _, rfl, Or.inl ⟨rfl, rfl⟩, (g1.setCell (by simp) _).setCell (by simp) _⟩
end Go.Proofs.Ytkeiojfnjgjliaa
