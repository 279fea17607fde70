/- Contract of the program's LowerWeights. -/
import Derived.Test.YtkeiojfnjgjliaaWn
import Derived.Test.YtkeiojfnjgjliaaWc
import Derived.Test.YtkeiojfnjgjliaaA1
import Derived.Deep.RegionLaw
namespace Go.Proofs.Ytkeiojfnjgjliaa
open Go.RowKit Vo

set_option maxRecDepth 20000 in
set_option maxHeartbeats 2000000 in
theorem spare_any (q : Int) (b n cap k : Nat) (V : List Int) (A : Option Addr) (c2 : Nat) (L : List Nat) (w : World) (hn : n < 10) (hk : k < n) (hq : 1 ≤ q ∧ q ≤ 9000) (hok : InK 0 1000 V n) (hsl : Sl w b 0 n V) (hL : L.length ≤ 512) (h512 : ∀ j, j < L.length → L.getD j 0 < 512) (hA : SetsIn w A L)
    (hbd : ∀ m, m ≤ L.length → 0 ≤ spK V q n k L m ∧ spK V q n k L m ≤ 1000) :
    Calls Try.prog 85 #[.agg #[.int .i64 q, .slice (some ⟨b, 0, none⟩) n cap], .int .i64 k, .slice A L.length c2] w fun e w' => e = .returned (.int .i64 (spK V q n k L L.length)) ∧ Below w.heap.size w w' := by
  obtain ⟨g, hA1, hA3, hA2⟩ := hA
  have HOK := Lib.hid hok
  have HSL := Lib.hid hsl
  have HA1 := Lib.hid hA1
  have HA2 := Lib.hid hA2
  have HA3 := Lib.hid hA3
  have H5 := Lib.hid h512
  have HBD := Lib.hid hbd
  have hcell := hsl.cell k hk
  have hbl := hsl.lt
  obtain ⟨hq1, hq2⟩ := hq
  have HS0 := Lib.hid (show spK V q n k L 0 = V.getD k 0 from rfl)
  rw [← HS0.out, Nat.zero_add] at hcell
  clear hok hsl hA1 hA2 hA3 h512 hbd
  obtain ⟨m, hm⟩ : ∃ m, m = L.length := ⟨_, rfl⟩
  have HM := Lib.hid hm
  rw [← hm] at hL ⊢
  clear hm
  have hb0 := below1 w (.cells #[.int .i64 q, .slice (some ⟨b, 0, none⟩) n cap] 32)
  have hx := Box.new w (.int .i64 q) (.slice (some ⟨b, 0, none⟩) n cap)
  go_enter Try.func85, Try.ntmps85
  go_wp2
  go_loopw [7, 17] (fun t i wr => ∃ j : Nat, j ≤ m ∧ i = .int .i64 j ∧ t = .int .i64 (spK V q n k L j) ∧ Box wr w.heap.size (.int .i64 q) (.slice (some ⟨b, 0, none⟩) n cap) ∧ Below w.heap.size w wr) (fun _ i _ => m - (intOf i).toNat)
  case atStart => exact ⟨0, Nat.zero_le _, rfl, rfl, hx, hb0⟩
  case round =>
    obtain ⟨j, hj, rfl, rfl, hx2, hb2⟩ := hrel
    have hbd := HBD.out j (by rw [← HM.out]; exact hj)
    by_cases hlt : j < m
    · obtain rfl := HA1.out (by rw [← HM.out]; omega)
      have hgl := HA3.out (by rw [← HM.out]; omega)
      have hcell2 := (hb2.cell (p := ⟨g, j, none⟩) hgl).trans (HA2.out j (by rw [← HM.out]; exact hlt))
      have hs := H5.out j (by rw [← HM.out]; exact hlt)
      have HS := Lib.hid (show spK V q n k L (j+1) = if (L.getD j 0).testBit k then min (spK V q n k L j) (wtK V (L.getD j 0) n - q) else spK V q n k L j from rfl)
      obtain ⟨s, hs'⟩ : ∃ s, s = L.getD j 0 := ⟨_, rfl⟩
      rw [← hs'] at hcell2 hs HS
      clear hs'
      obtain ⟨t, ht⟩ : ∃ t, t = spK V q n k L j := ⟨_, rfl⟩
      rw [← ht] at hbd HS
      rw [← ht]
      clear ht
      have hwt := wtK_bd (s := s) HOK.out
      have hst := sumK_bd HOK.out
      have HWW := Lib.hid (show IntKind.i64.wrap (wtK V s n - q) = wtK V s n - q from IntWalk.i64_in _ (by omega))
      cases hb : s.testBit k with
      | false =>
        have HB := Lib.hid hb
        rw [hb] at HS
        clear hb hwt hst
        go_wp2_with (go_at_call 113; refine (has_any _ _ _ (by omega) (by omega)).mono ?_; rintro e w' ⟨rfl, rfl⟩; rw [HB.out])
        go_roundw
        case rel => exact ⟨j + 1, by omega, by go_num, by rw [HS.out]; simp, hx2, hb2⟩
        case measure => simp [intOf]; omega
      | true =>
        have HB := Lib.hid hb
        rw [hb] at HS
        obtain ⟨c0, c1⟩ := hx2.cells
        obtain ⟨v, hv⟩ : ∃ v, v = wtK V s n := ⟨_, rfl⟩
        have HV := Lib.hid hv
        rw [← hv] at HS HWW hwt
        clear hb hv
        go_wp2_with (go_at_call 113; refine (has_any _ _ _ (by omega) (by omega)).mono ?_; rintro e w' ⟨rfl, rfl⟩; rw [HB.out])
        go_region_held3 (fun w' => w'.cell? ⟨w.heap.size, 0, none⟩ = some (.int .i64 q) ∧ w'.cell? ⟨w.heap.size, 1, none⟩ = some (.slice (some ⟨b, 0, none⟩) n cap))
          (first | exact ⟨c0, c1⟩ | exact ⟨a0, a1⟩ | go_keep)
          (first | (go_at_call 111; refine (weightOf_any _ b 0 n cap V s _ hn hs HOK.out ?_).mono ?_; (first | exact (HSL.out.now hb2).drew | exact (HSL.out.now hb2)); rw [← HV.out]; rintro e wA ⟨rfl, hbA⟩; have gA := bfrom hb2.drew hbA; have hx3 := hx2.drew.now hbA; obtain ⟨a0, a1⟩ := hx3.cells))
        all_goals
          rw [HWW.out, ite_min]
          clear c0 c1 a0 a1
          go_wp2
          go_roundw
          case rel => exact ⟨j + 1, by omega, by go_num, by rw [HS.out]; simp, hx3, gA⟩
          case measure => simp [intOf]; omega
    · obtain rfl : j = m := by omega
      go_wp2
      go_ret
      exact ⟨rfl, hb2⟩

def lowQ (q : Int) (ws : List Int) (n : Nat) : Int := if goodB q ws n then q else 0
theorem lowQ_yes {q ws n} (h : goodB q ws n = true) : lowQ q ws n = q := if_pos h
theorem lowQ_no {q ws n} (h : goodB q ws n = false) : lowQ q ws n = 0 := if_neg (by rw [h]; simp)

set_option maxRecDepth 20000 in
set_option maxHeartbeats 4000000 in
theorem lowerWeights_any (q : Int) (A : Option Addr) (n cap : Nat) (ws : List Int) (w : World) (hm : n ≤ 9223372036854775807) (hk : Known w A n ws) :
    Calls Try.prog 42 #[.agg #[.int .i64 q, .slice A n cap]] w fun e w' => ComAt (lowQ q ws n) (dualN q ws n) (lowW (winB q ws n) q ws n n) (goodB q ws n) w w' e := by
  have HK := Lib.hid hk
  clear hk
  have hb0 : Below w.heap.size w ((w.alloc (.cells #[.int .i64 q, .slice A n cap] 32)).alloc (.cells #[.int .i64 0, .slice none 0 0] 32)) := (below1 w _).alloc (by simp) _
  have hx := (Box.new w (.int .i64 q) (.slice A n cap)).alloc (.cells #[.int .i64 0, .slice none 0 0] 32)
  have hr := Box.new (w.alloc (.cells #[.int .i64 q, .slice A n cap] 32)) (.int .i64 0) (.slice none 0 0)
  simp only [World.size_alloc] at hr
  have KF := Lib.hid (show ∀ W, BoxT 32 W (w.heap.size + 1) (.int .i64 0) (.slice none 0 0) → (W.frozen? ⟨w.heap.size + 1, 0, none⟩ = false ∧ W.frozen? ⟨w.heap.size + 1, 1, none⟩ = false) from fun W h => by unfold BoxT at h; exact ⟨by simp [World.frozen?, h], by simp [World.frozen?, h]⟩)
  by_cases hg : Vo.Good q ws n
  · obtain ⟨b, off, rfl, hsl⟩ := HK.out.get hg.lo
    have HSL := Lib.hid hsl
    have HG := Lib.hid hg
    have HGB := Lib.hid (goodB_true hg)
    have hn9 := hg.hi
    have hn1 := hg.lo
    have hn10 : n < 10 := by omega
    clear hg hsl
    have HOK := Lib.hid HG.out.ok
    have HINV := Lib.hid (fun k hk => lowW_inv HG.out k hk)
    have hq1 := HG.out.q1
    have hq2' := HG.out.q2
    have htot := HG.out.tot
    have hq2 : q ≤ 9000 := by omega
    rw [lowQ_yes HGB.out, dualN_yes HGB.out, HGB.out]
    obtain ⟨p, hp⟩ : ∃ p, p = winB q ws n := ⟨_, rfl⟩
    have HP := Lib.hid hp
    rw [← hp] at HINV ⊢
    have hw5 := winL_512 p n hn9
    have HLS := Lib.hid (fun k => (show lowW p q ws n (k+1) = (lowW p q ws n k).set k ((lowW p q ws n k).getD k 0 - spK (lowW p q ws n k) q n k (winL p n) (winL p n).length) from rfl))
    clear hp hq2' htot
    go_enter Try.func42, Try.ntmps42
    go_wp2_with fail
    refine (isCommittee_any q _ n cap ws _ hm (HK.out.now hb0)).mono ?_
    rintro e w1 ⟨rfl, hb1⟩
    rw [HGB.out]
    have g1 := bfrom hb0 hb1
    have hr1 := hr.now hb1
    have hx1 := hx.now hb1
    obtain ⟨c0, c1⟩ := hx1.cells
    have hzr := hr1.lt
    clear hr hb0 hb1 hx
    go_wp2_with fail
    refine (withQuota_row q q b off n cap ws w1 hn1 hn9 (HSL.out.now g1)).mono ?_
    rintro e w2 ⟨rfl, ho2, hb2⟩
    obtain ⟨g, hg⟩ : ∃ g, g = w1.heap.size + 2 := ⟨_, rfl⟩
    rw [← hg] at ho2 ⊢
    have hI2 := ints_of_row ho2
    have hgl : g < w2.heap.size := hI2.lt
    have hge : w.heap.size + 2 ≤ g := by omega
    have g2 := bfrom g1 hb2
    have b3 := below1 w2 (.cells #[.int .i64 q, .slice (some ⟨g, 0, none⟩) n n] 32)
    have g3 := bfrom g2 b3
    have hI3 := Own.below hI2 b3 hgl
    have hn3 := Box.new w2 (.int .i64 q) (.slice (some ⟨g, 0, none⟩) n n)
    have hr3 := (hr1.now hb2).now b3
    have hx3 := (hx1.now hb2).now b3
    have hs3 := Lib.hid (HSL.out.now g3)
    obtain ⟨w3, hw3⟩ : ∃ w3, w3 = w2.alloc (.cells #[.int .i64 q, .slice (some ⟨g, 0, none⟩) n n] 32) := ⟨_, rfl⟩
    obtain ⟨nb, hnb⟩ : ∃ nb, nb = w2.heap.size := ⟨_, rfl⟩
    clear c0 c1 hg
    obtain ⟨c0, c1⟩ := hx3.cells
    go_wp2_with fail
    rw [← hw3] at g3 hI3 hn3 hr3 hx3 hs3 c0 c1 ⊢
    rw [← hnb] at hn3 hgl ⊢
    have hnl := hn3.lt
    refine (leastWinning_any q b off n cap ws w3 hn10 HOK.out hs3.out).mono ?_
    rintro e w4 ⟨A4, c4, rfl, hA4, hb4⟩
    have hA5 : w4.ownsRow w3.heap.size 102 1 (.slice A4 (winL p n).length c4) (winL p n).length (setsV (winL p n)) := by rw [HP.out]; exact hA4
    rw [show (lwL q ws n).length = (winL p n).length from by rw [HP.out]; rfl]
    have g4 := bfrom g3 hb4
    have hI4 := Own.below hI3 hb4 (by omega)
    have hn4 := hn3.now hb4
    have hr4 := hr3.now hb4
    have hz4 := hb4.size
    have hgn : g ≠ nb := by omega
    have hgr : g ≠ w.heap.size + 1 := by omega
    have hgw : w.heap.size ≤ g := by omega
    clear c0 c1 hb2 b3 hw3 hnb g2 hI2 ho2 hr1 hA4 hI3 hn3 hr3 hx3 hb4
    obtain ⟨e0, e1⟩ := hn4.cells
    go_wp2_with fail
    clear e0 e1
    go_loopw [6, 20] (fun _ i wr => ∃ k : Nat, k ≤ n ∧ i = .int .i64 k ∧ Ints wr g n (lowW p q ws n k) ∧ wr.ownsRow w3.heap.size 102 1 (.slice A4 (winL p n).length c4) (winL p n).length (setsV (winL p n)) ∧ Box wr nb (.int .i64 q) (.slice (some ⟨g, 0, none⟩) n n) ∧ BoxT 32 wr (w.heap.size + 1) (.int .i64 0) (.slice none 0 0) ∧ Below w.heap.size w wr) (fun _ i _ => n - (intOf i).toNat)
    case atStart => exact ⟨0, Nat.zero_le _, rfl, hI4.congr fun j hj => by simp only [lowW]; rw [range_getD hj], hA5, hn4, hr4, g4⟩
    case round =>
      obtain ⟨k, hk, rfl, hown, hset, hbx, hrr, hbr⟩ := hrel
      obtain ⟨e0, e1⟩ := hbx.cells
      have HSET := Lib.hid hset
      have HI := Lib.hid hown
      clear hset hown
      by_cases hlt : k < n
      · have hinv := HINV.out k hk
        have hcell := HI.out.cell hlt
        have hfz := HI.out.frozen k
        obtain ⟨s0, _, _⟩ := spK_spec (lowW p q ws n k) q n k (winL p n) (winL p n).length
        have hb := spareP_bd hinv hlt (winL p n).length (Nat.le_refl _)
        have hv := hinv.ok k hlt
        have HST := Lib.hid (fun (W : World) (hW : Below wr.heap.size wr W) => (show Ints (W.setCell ⟨g, k, none⟩ (.int .i64 ((lowW p q ws n k).getD k 0 - spK (lowW p q ws n k) q n k (winL p n) (winL p n).length))) g n (lowW p q ws n (k+1)) from ((Own.below HI.out hW HI.out.lt).set k (.int .i64 ((lowW p q ws n k).getD k 0 - spK (lowW p q ws n k) q n k (winL p n) (winL p n).length))).congr fun j hj => by
          rw [HLS.out, getD_set (by rw [hinv.len]; omega)]
          by_cases e : j = k
          · rw [if_pos e, if_pos e]
          · rw [if_neg e, if_neg e]))
        have HSP := Lib.hid (fun (W : World) (hW : Below wr.heap.size wr W) => spare_any q g n n k (lowW p q ws n k) A4 c4 (winL p n) W hn10 hlt ⟨hq1, hq2⟩ hinv.ok (Ints.sl (Own.below HI.out hW HI.out.lt)) hw5.1 hw5.2 ((setsIn_row HSET.out).now hW) fun m hm => spareP_bd hinv hlt m hm)
        obtain ⟨sp, hsp⟩ : ∃ sp, sp = spK (lowW p q ws n k) q n k (winL p n) (winL p n).length := ⟨_, rfl⟩
        obtain ⟨v, hve⟩ : ∃ v, v = (lowW p q ws n k).getD k 0 := ⟨_, rfl⟩
        rw [← hsp] at HST HSP s0 hb
        rw [← hve] at HST hcell hv s0
        have HW := Lib.hid (show IntKind.i64.wrap (v - sp) = v - sp from IntWalk.i64_in _ (by omega))
        have HCE := Lib.hid hcell
        have HFZ := Lib.hid hfz
        have KK := Lib.hid (show ∀ W, Below wr.heap.size wr W → (W.cell? ⟨nb, 0, none⟩ = some (.int .i64 q) ∧ W.cell? ⟨nb, 1, none⟩ = some (.slice (some ⟨g, 0, none⟩) n n) ∧ W.cell? ⟨g, k, none⟩ = some (.int .i64 v) ∧ W.frozen? ⟨g, k, none⟩ = false) from fun W hW => ⟨(hbx.now hW).cells.1, (hbx.now hW).cells.2, ((Own.below HI.out hW HI.out.lt).cell hlt).trans (by rw [hve]), (Own.below HI.out hW HI.out.lt).frozen k⟩)
        clear hinv hsp hve hv s0 hb e0 e1 hcell hfz
        obtain ⟨e0, e1, e2, e3⟩ := KK.out _ (Below.refl _ _)
        go_wp2_with fail
        go_region_law (go_simp; go_at_call 85; refine (HSP.out _ ?_).mono ?_; (first | exact (Below.refl _ _).drew | exact Below.refl _ _); rintro e wA ⟨rfl, hbA⟩; have gA := bfrom (Below.refl _ _).drew hbA; obtain ⟨a0, a1, a2, a3⟩ := KK.out _ gA)
        all_goals
          have hB9 := (bfrom hbr gA).setCell (p := ⟨g, k, none⟩) (by simpa using hgw) (.int .i64 (v - sp))
          have hI9 := HST.out _ gA
          have hS9 := owns_far (owns_now HSET.out gA) (p := ⟨g, k, none⟩) (show g < w3.heap.size by omega) (.int .i64 (v - sp))
          have hX9 := (hbx.now gA).far (p := ⟨g, k, none⟩) (show nb ≠ g by omega) (.int .i64 (v - sp))
          have hR9 := (hrr.now gA).far (p := ⟨g, k, none⟩) (show w.heap.size + 1 ≠ g by omega) (.int .i64 (v - sp))
          try rw [HW.out]
          clear e0 e1 e2 e3 a0 a1 a2 a3
          go_wp2
          go_roundw
          case rel => exact ⟨k + 1, by omega, by go_num, hI9, hS9, hX9, hR9, (by first | exact hB9 | exact hB9.drew)⟩
          case measure => simp [intOf]; omega
      · obtain rfl : k = n := by omega
        obtain ⟨d0, d1⟩ := hrr.cells
        obtain ⟨f0, f1⟩ := KF.out _ hrr
        go_wp2
        refine bodyPost_ret (v := .tuple #[.agg #[.int .i64 q, .slice (some ⟨g, 0, none⟩) k k], .bool true]) (by simp [results, Try.results42, go_sem, d0, d1]) rfl ?_
        exact ⟨_, _, rfl, Or.inr ⟨g, rfl, hgw, (HI.out.far (by simpa using hgr) _).far (by simpa using hgr) _⟩, (hbr.setCell (by simp) _).setCell (by simp) _⟩
  · have HGB := Lib.hid (goodB_false hg)
    clear hg
    go_enter Try.func42, Try.ntmps42
    go_wp2_with fail
    refine (isCommittee_any q A n cap ws _ hm (HK.out.now hb0)).mono ?_
    rintro e w1 ⟨rfl, hb1⟩
    rw [HGB.out]
    have g1 := bfrom hb0 hb1
    have hr1 := hr.now hb1
    obtain ⟨c0, c1⟩ := hr1.cells
    obtain ⟨f0, f1⟩ := KF.out _ hr1
    clear hr hb0 hb1 hx
    go_wp2
    refine bodyPost_ret (v := .tuple #[.agg #[.int .i64 0, .slice none 0 0], .bool false]) (by simp [results, Try.results42, go_sem, c0, c1]) rfl ?_
    rw [lowQ_no HGB.out, dualN_no HGB.out, HGB.out]
    exact ⟨_, _, rfl, Or.inl ⟨rfl, rfl⟩, (g1.setCell (by simp) _).setCell (by simp) _⟩
end Go.Proofs.Ytkeiojfnjgjliaa
