/- Contract of the model's TimesCommittee. -/
import Derived.Test.YtkeiojfnjgjliaaWl
import Derived.Test.YtkeiojfnjgjliaaS2
namespace Go.Proofs.Ytkeiojfnjgjliaa
open Go.RowKit Vo

theorem row_known {w : World} {base m cap : Nat} {B : Option Addr} {L : List Int} (h1 : 1 ≤ m) (hL : L.length = m) (h : w.ownsRow base 3 1 (.slice B m cap) m (L.map (Value.int .i64))) : Known w B m L ∧ Held base w B m L := by
  obtain ⟨g, cp', hv, hg, _, _⟩ := owns_head h (by omega)
  obtain ⟨rfl, rfl⟩ : B = some ⟨g, 0, none⟩ ∧ cap = cp' := by simpa using hv
  have hi : Ints w g m L := Own.of_own h fun i hi => by
    have : i < L.length := by omega
    simp [List.getD_eq_getElem?_getD, this]
  exact ⟨Known.of hi.sl, Or.inr ⟨g, rfl, hg, hi⟩⟩

set_option maxRecDepth 20000 in
set_option maxHeartbeats 4000000 in
theorem sTimesCommittee_any (q : Int) (A : Option Addr) (n cap : Nat) (ws : List Int) (x : Int) (w : World) (hm : n ≤ 9223372036854775807) (hk : Known w A n ws) (_hx : (Lit.int .i64 x).wf = true) :
    Calls Try.prog 27 #[.agg #[.int .i64 q, .slice A n cap], .int .i64 x] w fun e w' => ComAt (timesQ q ws n x) (timesN q ws n x) (timesL ws n x) (timesOk q ws n x) w w' e := by
  have HK := Lib.hid hk
  clear hk
  have hb0 : Below w.heap.size w ((w.alloc (.cells #[.int .i64 q, .slice A n cap] 32)).alloc (.cells #[.int .i64 0, .slice none 0 0] 32)) := (below1 w _).alloc (by simp) _
  have hx := (Box.new w (.int .i64 q) (.slice A n cap)).alloc (.cells #[.int .i64 0, .slice none 0 0] 32)
  have hr := Box.new (w.alloc (.cells #[.int .i64 q, .slice A n cap] 32)) (.int .i64 0) (.slice none 0 0)
  simp only [World.size_alloc] at hr
  have KF := Lib.hid (show ∀ W, BoxT 32 W (w.heap.size + 1) (.int .i64 0) (.slice none 0 0) → (W.frozen? ⟨w.heap.size + 1, 0, none⟩ = false ∧ W.frozen? ⟨w.heap.size + 1, 1, none⟩ = false) from fun W h => by unfold BoxT at h; exact ⟨by simp [World.frozen?, h], by simp [World.frozen?, h]⟩)
  by_cases hg : Vo.Good q ws n
  · obtain ⟨b, off, rfl, hsl⟩ := HK.out.get hg.lo
    have HSL := Lib.hid hsl
    have HG := Lib.hid hg
    have HGB := Lib.hid (goodB_true hg)
    have hn9 := hg.hi
    have hn1 := hg.lo
    have hn10 : n < 10 := by omega
    clear hg hsl
    by_cases hxx : 1 ≤ x ∧ x ≤ 1000
    · obtain ⟨hx1', hx2'⟩ := hxx
      have HIN := Lib.hid (inB_yes (x := x) (lo := 1) (hi := 1000) hx1' hx2')
      have HDO := Lib.hid (timesOk_good HGB.out HIN.out)
      have hq := HG.out.q1
      have hq2 := HG.out.q2
      have htot := HG.out.tot
      have HOK := Lib.hid HG.out.ok
      have hqx := mul_bd (y := q - 1) (a := 9000) (by omega) (by omega) hx1' hx2'
      obtain ⟨i0, hi0, hz0, hz1, hz2⟩ := infoIntParts
      obtain ⟨Q, hQ⟩ : ∃ Q, Q = q * x - (x - 1) := ⟨_, rfl⟩
      have HQQ := Lib.hid hQ
      have HQ2 := Lib.hid (show (q - 1) * x + 1 = Q from by rw [hQ, Int.sub_mul]; omega)
      rw [← hQ] at HDO
      have hq0 : 0 ≤ q - 1 := by omega
      have hq9 : q - 1 ≤ 9000 := by omega
      clear hq hq2 htot hQ
      go_enter Try.func27, Try.ntmps27
      go_wp2_with fail
      refine (voGood_any q _ n cap ws _ hm (HK.out.now hb0)).mono ?_
      rintro e w1 ⟨rfl, hb1⟩
      rw [HGB.out]
      have g1 := bfrom hb0 hb1
      have hr1 := hr.now hb1
      obtain ⟨c0, c1⟩ := (hx.now hb1).cells
      have hx1 := hx.now hb1
      have hs1 := Lib.hid (HSL.out.now g1)
      have hzr := hr1.lt
      clear hr hb0 hb1 hx
      obtain ⟨a0, a1⟩ := (hx1.alloc (.cells #[.int .i64 ((q - 1) * x + 1), .slice none 0 0] 32)).cells
      go_wp2_with (go_at_call 67; refine (l1In_any x 1 1000 _).mono ?_; rintro e w3 ⟨rfl, rfl⟩; rw [HIN.out])
      rw [HQ2.out]
      clear a0 a1
      have b5 := below1 w1 (.cells #[.int .i64 Q, .slice none 0 0] 32)
      have g5 := bfrom g1 b5
      have hr5 := hr1.now b5
      have hn5 := Box.new w1 (.int .i64 Q) (.slice none 0 0)
      have hs5 := Lib.hid (hs1.out.now b5)
      have hsz5 : (w1.alloc (.cells #[.int .i64 Q, .slice none 0 0] 32)).heap.size = w1.heap.size + 1 := by simp
      obtain ⟨w5, hw5⟩ : ∃ w5, w5 = w1.alloc (.cells #[.int .i64 Q, .slice none 0 0] 32) := ⟨_, rfl⟩
      rw [← hw5] at g5 hr5 hn5 hs5 hsz5 ⊢
      obtain ⟨nb, hnbe⟩ : ∃ nb, nb = w1.heap.size := ⟨_, rfl⟩
      rw [← hnbe] at hn5 hsz5 hzr ⊢
      have hg5 := g5.size
      have hnbr : w.heap.size + 1 ≠ nb := by omega
      have hnbw : w.heap.size ≤ nb := by omega
      clear c0 c1 hw5 b5 hr1 g1 hnbe hx1 hs1 hqx
      go_loopw [8, 28] (fun _ i wr => ∃ (j : Nat) (B : Option Addr) (cp : Nat), j ≤ n ∧ i = .int .i64 j ∧ wr.ownsRow w5.heap.size 3 1 (.slice B j cp) j ((timesL ws j x).map (Value.int .i64)) ∧ Box wr nb (.int .i64 Q) (.slice B j cp) ∧ BoxT 32 wr (w.heap.size + 1) (.int .i64 0) (.slice none 0 0) ∧ w5.heap.size ≤ wr.heap.size ∧ Below w.heap.size w wr) (fun _ i _ => n - (intOf i).toNat)
      case atStart => exact ⟨0, none, 0, Nat.zero_le _, rfl, World.ownsRow_nil _ _ _ _, hn5, hr5, Nat.le_refl _, g5⟩
      case round =>
        obtain ⟨j, B, cp, hj, rfl, hown, hnr, hrr, hszr, hbr⟩ := hrel
        have HO := Lib.hid hown
        clear hown
        by_cases hlt : j < n
        · have hcell := (HSL.out.now hbr).cell j hlt
          have hy := HOK.out j hlt
          have hyx := mul_bd (y := ws.getD j 0) (a := 1000) hy.1 hy.2 hx1' hx2'
          have HST := Lib.hid (timesL_succ ws j x)
          obtain ⟨y, hye⟩ : ∃ y, y = ws.getD j 0 := ⟨_, rfl⟩
          rw [← hye] at hcell hyx HST
          obtain ⟨z, hz⟩ : ∃ z, z = y * x := ⟨_, rfl⟩
          rw [← hz] at hyx HST
          have hyz : y * x = z := hz.symm
          clear hy hye hz
          obtain ⟨M, hM⟩ : ∃ M, timesL ws j x = M := ⟨_, rfl⟩
          rw [hM] at HO HST
          clear hM
          obtain ⟨e0, e1⟩ := hnr.cells
          go_wp2_with (at_builtin; refine wpList_append_lies _ rfl _ _ _ rfl w5.heap.size 3 i0 _ 1 8 Try.underlying22 hi0 hz0 hz1 hz2 rfl (by decide) (.slice B j cp) j (M.map (Value.int .i64)) rfl (HO.out.alloc _) ⟨wr.heap.size, 0, none⟩ 1 1 [.int .i64 z] rfl rfl (World.news_of_block (cs := #[.int .i64 z]) (t := 3) (fr := (0, 0)) (heap_alloc_new wr _)) (by simp [Value.oneCell']) (by omega) (by unfold maxLen; omega) (by omega) (by simp; omega) (wr.heap.size + 1) (by simp) ?_; intro gg cap4 w7 hown7 hgrow7 hat7 hlt7; have hn7 := ((hnr.alloc (.cells #[.int .i64 z] 3)).grown hgrow7 (owns_ne HO.out (by omega))); obtain ⟨k0, k1⟩ := hn7.cells; have k2 := box_fr hn7)
          have hz7 := hgrow7.size
          have hz7' : wr.heap.size + 1 ≤ w7.heap.size := by simpa using hz7
          have b7 : Below w.heap.size w w7 := (hbr.alloc hbr.size (.cells #[.int .i64 z] 3)).grown hgrow7 (by have := hbr.size; simp; omega) fun i hi => by have := owns_le HO.out hi; omega
          have hr7 := (hrr.alloc (.cells #[.int .i64 z] 3)).grown hgrow7 (owns_ne HO.out (by omega))
          have hnbl : nb < w5.heap.size := by omega
          have HN7 := Lib.hid (hn7.set1 (.slice (some ⟨gg, 0, none⟩) (j + 1) cap4))
          have HO7 := Lib.hid (owns_far hown7 (p := ⟨nb, 1, none⟩) hnbl (.slice (some ⟨gg, 0, none⟩) (j + 1) cap4))
          have HR7 := Lib.hid (hr7.far (p := ⟨nb, 1, none⟩) hnbr (.slice (some ⟨gg, 0, none⟩) (j + 1) cap4))
          have b8 := b7.setCell (p := ⟨nb, 1, none⟩) hnbw (.slice (some ⟨gg, 0, none⟩) (j + 1) cap4)
          go_roundw
          case rel => exact ⟨j + 1, some ⟨gg, 0, none⟩, cap4, by omega, by go_num, by rw [HST.out, List.map_append]; exact HO7.out, HN7.out, HR7.out, by simp; omega, b8⟩
          case measure => simp [intOf]; omega
        · obtain rfl : j = n := by omega
          obtain ⟨hkn', hhe⟩ := row_known hn1 (timesL_len ws j x) HO.out
          have HKN := Lib.hid hkn'
          have HHE := Lib.hid hhe
          obtain ⟨e0, e1⟩ := hnr.cells
          clear hkn' hhe
          cases hgd : goodB Q (timesL ws j x) j with
          | true =>
            have HGD := Lib.hid hgd
            rw [HGD.out] at HDO
            clear hgd
            go_wp2_with (go_at_call 51; refine (voGood_any Q B j cp (timesL ws j x) _ hm HKN.out).mono ?_; rintro e w8 ⟨rfl, hb8⟩; rw [HGD.out]; obtain ⟨q0, q1⟩ := (hnr.now hb8).cells; obtain ⟨d0, d1⟩ := (hrr.now hb8).cells; obtain ⟨f0, f1⟩ := KF.out _ (hrr.now hb8))
            have b8 := bfromB hbr hb8 hbr.size
            refine bodyPost_ret (v := .tuple #[.agg #[.int .i64 Q, .slice B j cp], .bool true]) (by simp [results, Try.results27, go_sem, d0, d1]) rfl ?_
            rw [HDO.out, timesQ_yes HDO.out, timesN_yes HDO.out, ← HQQ.out]
            exact ⟨_, _, rfl, held_far (HHE.out.now hb8) (by omega) (by simp; omega) (by simp; omega), (b8.setCell (by simp) _).setCell (by simp) _⟩
          | false =>
            have HGD := Lib.hid hgd
            rw [HGD.out] at HDO
            clear hgd
            go_wp2_with (go_at_call 51; refine (voGood_any Q B j cp (timesL ws j x) _ hm HKN.out).mono ?_; rintro e w8 ⟨rfl, hb8⟩; rw [HGD.out]; obtain ⟨d0, d1⟩ := (hrr.now hb8).cells; obtain ⟨f0, f1⟩ := KF.out _ (hrr.now hb8))
            have b8 := bfromB hbr hb8 hbr.size
            refine bodyPost_ret (v := .tuple #[.agg #[.int .i64 0, .slice none 0 0], .bool false]) (by simp [results, Try.results27, go_sem, d0, d1]) rfl ?_
            rw [HDO.out, timesQ_no HDO.out, timesN_no HDO.out]
            exact ⟨_, _, rfl, Or.inl ⟨rfl, rfl⟩, (b8.setCell (by simp) _).setCell (by simp) _⟩
    · have HE := Lib.hid (timesOk_out (x := x) HGB.out (inB_no hxx))
      have HIN := Lib.hid (inB_no hxx)
      clear hxx
      go_enter Try.func27, Try.ntmps27
      go_wp2_with fail
      refine (voGood_any q _ n cap ws _ hm (HK.out.now hb0)).mono ?_
      rintro e w1 ⟨rfl, hb1⟩
      rw [HGB.out]
      have g1 := bfrom hb0 hb1
      have hr1 := hr.now hb1
      obtain ⟨c0, c1⟩ := hr1.cells
      obtain ⟨f0, f1⟩ := KF.out _ hr1
      clear hr hb0 hb1 hx
      go_wp2_with (go_at_call 67; refine (l1In_any x 1 1000 _).mono ?_; rintro e w3 ⟨rfl, rfl⟩; rw [HIN.out])
      refine bodyPost_ret (v := .tuple #[.agg #[.int .i64 0, .slice none 0 0], .bool false]) (by simp [results, Try.results27, go_sem, c0, c1]) rfl ?_
      rw [HE.out, timesQ_no HE.out, timesN_no HE.out]
      exact ⟨_, _, rfl, Or.inl ⟨rfl, rfl⟩, (g1.setCell (by simp) _).setCell (by simp) _⟩
  · have HE := Lib.hid (timesOk_bad (x := x) (goodB_false hg))
    have HGB := Lib.hid (goodB_false hg)
    clear hg
    go_enter Try.func27, Try.ntmps27
    go_wp2_with fail
    refine (voGood_any q A n cap ws _ hm (HK.out.now hb0)).mono ?_
    rintro e w1 ⟨rfl, hb1⟩
    rw [HGB.out]
    have g1 := bfrom hb0 hb1
    have hr1 := hr.now hb1
    obtain ⟨c0, c1⟩ := hr1.cells
    obtain ⟨f0, f1⟩ := KF.out _ hr1
    clear hr hb0 hb1 hx
    go_wp2
    refine bodyPost_ret (v := .tuple #[.agg #[.int .i64 0, .slice none 0 0], .bool false]) (by simp [results, Try.results27, go_sem, c0, c1]) rfl ?_
    rw [HE.out, timesQ_no HE.out, timesN_no HE.out]
    exact ⟨_, _, rfl, Or.inl ⟨rfl, rfl⟩, (g1.setCell (by simp) _).setCell (by simp) _⟩
end Go.Proofs.Ytkeiojfnjgjliaa
