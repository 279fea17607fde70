/- Contract of the model's PartCommittee. -/
import Derived.Test.YtkeiojfnjgjliaaWt
import Derived.Test.YtkeiojfnjgjliaaWq
import Derived.Test.YtkeiojfnjgjliaaS3
import Derived.Test.YtkeiojfnjgjliaaWm
import Derived.Deep.RegionLaw
import Derived.Deep.RegionHeld3
namespace Go.Proofs.Ytkeiojfnjgjliaa
open Go.RowKit Vo

theorem Held.far0 {base : Nat} {w : World} {A : Option Addr} {m : Nat} {L : List Int} (h : Held base w A m L) {p : Addr} (hp : p.block < base) (u : Value) : Held base (w.setCell p u) A m L := by
  rcases h with h | ⟨g, hA, hg, hi⟩
  · exact Or.inl h
  · exact Or.inr ⟨g, hA, hg, hi.far (by omega) _⟩

set_option maxRecDepth 20000 in
set_option maxHeartbeats 4000000 in
theorem sPartCommittee_any (q : Int) (A : Option Addr) (n cap : Nat) (ws : List Int) (w : World) (hm : n ≤ 9223372036854775807) (hk : Known w A n ws) :
    Calls Try.prog 31 #[.agg #[.int .i64 q, .slice A n cap]] w fun e w' => ComAt (partQ q ws n) (dualN q ws n) (partL ws n (gK ws n)) (goodB q ws n) w w' e := by
  have HK := Lib.hid hk
  clear hk
  have hb0 : Below w.heap.size w ((w.alloc (.cells #[.int .i64 q, .slice A n cap] 32)).alloc (.cells #[.int .i64 0, .slice none 0 0] 32)) := (below1 w _).alloc (by simp) _
  have hx := (Box.new w (.int .i64 q) (.slice A n cap)).alloc (.cells #[.int .i64 0, .slice none 0 0] 32)
  have hr := Box.new (w.alloc (.cells #[.int .i64 q, .slice A n cap] 32)) (.int .i64 0) (.slice none 0 0)
  simp only [World.size_alloc] at hr
  have KF := Lib.hid (show ∀ W, BoxT 32 W (w.heap.size + 1) (.int .i64 0) (.slice none 0 0) → (W.frozen? ⟨w.heap.size + 1, 0, none⟩ = false ∧ W.frozen? ⟨w.heap.size + 1, 1, none⟩ = false) from fun W h => by unfold BoxT at h; exact ⟨by simp [World.frozen?, h], by simp [World.frozen?, h]⟩)
  by_cases hg : Vo.Good q ws n
  · obtain ⟨b, off, rfl, hsl⟩ := HK.out.get hg.lo
    have HSL := Lib.hid hsl
    have HG := Lib.hid hg
    have HGB := Lib.hid (goodB_true hg)
    have hn9 := hg.hi
    have hn1 := hg.lo
    have hn10 : n < 10 := by omega
    clear hg hsl
    have HOK := Lib.hid HG.out.ok
    have HDP := Lib.hid (gK_pos HG.out.ok (by have := HG.out.q1; have := HG.out.q2; omega))
    have HGB9 := Lib.hid (fun k hk => gK_bd HG.out.ok (k := k) hk)
    have HMI := Lib.hid (fun (V : List Int) (hV : InK 0 1000 V n) => most_is (p := winB q ws n) hV (win_nil HG.out))
    rw [partQ_yes HGB.out, dualN_yes HGB.out, HGB.out]
    obtain ⟨i0, hi0, hz0, hz1, hz2⟩ := infoIntParts
    go_enter Try.func31, Try.ntmps31
    go_wp2_with fail
    refine (voGood_any q _ n cap ws _ hm (HK.out.now hb0)).mono ?_
    rintro e w1 ⟨rfl, hb1⟩
    rw [HGB.out]
    have g1 := bfrom hb0 hb1
    have hr1 := hr.now hb1
    have hx1 := hx.now hb1
    have hzr := hr1.lt
    have hs1 := Lib.hid (HSL.out.now g1)
    have HX1 := Lib.hid hx1
    have HR1 := Lib.hid hr1
    obtain ⟨c0, c1⟩ := hx1.cells
    clear hr hb0 hb1 hx hx1 hr1
    go_wp2_with fail
    clear c0 c1
    go_loopw [4, 6, 17] (fun d _ i wr => ∃ k : Nat, k ≤ n ∧ i = .int .i64 k ∧ d = .int .i64 (gK ws k : Nat) ∧ Below w1.heap.size w1 wr) (fun _ _ i _ => n - (intOf i).toNat)
    case atStart => exact ⟨0, Nat.zero_le _, rfl, rfl, Below.refl _ _⟩
    case round =>
      obtain ⟨k, hk, rfl, rfl, hbk⟩ := hrel
      by_cases hlt : k < n
      · have hcell := (hs1.out.now hbk).cell k hlt
        have hy := HOK.out k hlt
        have hgb := HGB9.out k hk
        have HST := Lib.hid (show gK ws (k+1) = Nat.gcd (ws.getD k 0).toNat (gK ws k) from Nat.gcd_comm _ _)
        obtain ⟨a, ha⟩ : ∃ a : Nat, ws.getD k 0 = a := ⟨(ws.getD k 0).toNat, by omega⟩
        rw [ha] at hcell hy HST
        rw [Int.toNat_natCast] at HST
        obtain ⟨d, hd⟩ : ∃ d, d = gK ws k := ⟨_, rfl⟩
        rw [← hd] at HST hgb ⊢
        clear ha hd
        go_wp2_with (go_at_call 72; refine (pwCommon_any a d _ (by omega) (by omega)).mono ?_; rintro e w' ⟨rfl, hb'⟩; rw [← HST.out])
        go_roundw
        case rel => exact ⟨k + 1, by omega, by go_num, rfl, bfrom hbk hb'⟩
        case measure => simp [intOf]; omega
      · obtain rfl : k = n := by omega
        obtain ⟨D, hD⟩ : ∃ D, D = gK ws k := ⟨_, rfl⟩
        have HDD := Lib.hid hD
        have hD9 := HGB9.out k (Nat.le_refl _)
        have hDp := HDP.out
        rw [← hD] at hD9 hDp ⊢
        have hDp' : 0 < D := hDp
        have hDne : ¬ D = 0 := by omega
        have g2 := bfrom g1 hbk
        have hx2 := HX1.out.now hbk
        have hr2 := HR1.out.now hbk
        have hs2 := Lib.hid (hs1.out.now hbk)
        have hzk := hbk.size
        have b5 := below1 wr (.cells #[.int .i64 0, .slice none 0 0] 32)
        have g5 := bfrom g2 b5
        have hx5 := hx2.now b5
        have hr5 := hr2.now b5
        have hn5 := Box.new wr (.int .i64 0) (.slice none 0 0)
        have hs5 := Lib.hid (hs2.out.now b5)
        obtain ⟨c0, c1⟩ := hx5.cells
        clear hbk hD
        go_wp2_with fail
        have hsz5 : (wr.alloc (.cells #[.int .i64 0, .slice none 0 0] 32)).heap.size = wr.heap.size + 1 := by simp
        obtain ⟨w5, hw5⟩ : ∃ w5, w5 = wr.alloc (.cells #[.int .i64 0, .slice none 0 0] 32) := ⟨_, rfl⟩
        obtain ⟨nb, hnb⟩ : ∃ nb, nb = wr.heap.size := ⟨_, rfl⟩
        rw [← hw5] at g5 hx5 hr5 hn5 hs5 hsz5 c0 c1 ⊢
        rw [← hnb] at hn5 hsz5 hzk ⊢
        have hnbr : w.heap.size + 1 ≠ nb := by omega
        have hnbx : w.heap.size ≠ nb := by omega
        have hnbw : w.heap.size ≤ nb := by omega
        have hg5 := g5.size
        clear b5 hw5 hnb g2 hx2 hr2 hs2 c0 c1
        go_loopw [9, 29] (fun _ i wr => ∃ (j : Nat) (B : Option Addr) (cp : Nat), j ≤ k ∧ i = .int .i64 j ∧ wr.ownsRow w5.heap.size 3 1 (.slice B j cp) j ((partL ws j D).map (Value.int .i64)) ∧ Box wr nb (.int .i64 0) (.slice B j cp) ∧ BoxT 32 wr (w.heap.size + 1) (.int .i64 0) (.slice none 0 0) ∧ Box wr w.heap.size (.int .i64 q) (.slice (some ⟨b, off, none⟩) k cap) ∧ w5.heap.size ≤ wr.heap.size ∧ Below w.heap.size w wr) (fun _ i _ => k - (intOf i).toNat)
        case atStart => exact ⟨0, none, 0, Nat.zero_le _, rfl, World.ownsRow_nil _ _ _ _, hn5, hr5, hx5, Nat.le_refl _, g5⟩
        case round =>
          obtain ⟨j, B, cp, hj, rfl, hown, hnr, hrr, hxx, hszr, hbr⟩ := hrel
          have HO := Lib.hid hown
          clear hown
          by_cases hlt2 : j < k
          · have hcell := (HSL.out.now hbr).cell j hlt2
            have hy := HOK.out j hlt2
            have hyx := div_bd hy.1 hy.2 hDp'
            have HST := Lib.hid (partL_succ ws j D)
            obtain ⟨a, ha⟩ : ∃ a : Nat, ws.getD j 0 = a := ⟨(ws.getD j 0).toNat, by omega⟩
            rw [ha] at hcell hyx HST
            obtain ⟨z, hz⟩ : ∃ z, (a : Int) / (D : Int) = z := ⟨_, rfl⟩
            rw [hz] at hyx HST
            have HWZ := Lib.hid (show IntKind.i64.wrap z = z from IntWalk.i64_in _ (by omega))
            obtain ⟨M, hM⟩ : ∃ M, partL ws j D = M := ⟨_, rfl⟩
            rw [hM] at HO HST
            clear hM ha hy
            obtain ⟨e0, e1⟩ := hnr.cells
            obtain ⟨x0, x1⟩ := frozen2 hnr
            obtain ⟨m0, m1⟩ := (hnr.alloc (.cells #[.int .i64 (IntKind.i64.wrap z)] 3)).cells
            go_wp2_with fail
            go_region_law (refine step_append_lies _ (by rfl) _ _ _ (by rfl) w5.heap.size 3 i0 _ 1 8 Try.underlying22 hi0 hz0 hz1 hz2 rfl (by omega) (.slice B j cp) j (M.map (Value.int .i64)) (by rfl) ((World.ownsRow.drew HO.out).alloc _) ⟨wr.heap.size, 0, none⟩ 1 1 [.int .i64 (IntKind.i64.wrap z)] (by rfl) (by rfl) (World.news_of_block (cs := #[.int .i64 (IntKind.i64.wrap z)]) (t := 3) (fr := (0, 0)) (heap_alloc_new wr.drew _)) (by simp [Value.oneCell']) (by omega) (by unfold maxLen; omega) (by omega) (by simp; omega) (wr.heap.size + 1) (by simp) ?_; intro gg cap4 w7 hown7 hgrow7 hat7 hlt7; have hn7 := ((hnr.drew.alloc (.cells #[.int .i64 (IntKind.i64.wrap z)] 3)).grown hgrow7 (owns_ne HO.out (by omega))); obtain ⟨k0, k1⟩ := hn7.cells; obtain ⟨k2, k3⟩ := frozen2 hn7)
            all_goals
              have hz7 := hgrow7.size
              have hz7' : wr.heap.size + 1 ≤ w7.heap.size := by simpa using hz7
              have b7 : Below w.heap.size w w7 := (hbr.drew.alloc hbr.size (.cells #[.int .i64 (IntKind.i64.wrap z)] 3)).grown hgrow7 (by have := hbr.size; simp; omega) fun i hi => by have := owns_le HO.out hi; omega
              have hr7 := (hrr.drew.alloc (.cells #[.int .i64 (IntKind.i64.wrap z)] 3)).grown hgrow7 (owns_ne HO.out (by omega))
              have hx7 := (hxx.drew.alloc (.cells #[.int .i64 (IntKind.i64.wrap z)] 3)).grown hgrow7 (owns_ne HO.out (by omega))
              rw [HWZ.out] at hown7
              have hnbl : nb < w5.heap.size := by omega
              have HN7 := Lib.hid (hn7.set1 (.slice (some ⟨gg, 0, none⟩) (j + 1) cap4))
              have HO7 := Lib.hid (owns_far hown7 (p := ⟨nb, 1, none⟩) hnbl (.slice (some ⟨gg, 0, none⟩) (j + 1) cap4))
              have HR7 := Lib.hid (hr7.far (p := ⟨nb, 1, none⟩) hnbr (.slice (some ⟨gg, 0, none⟩) (j + 1) cap4))
              have HX7 := Lib.hid (hx7.far (p := ⟨nb, 1, none⟩) hnbx (.slice (some ⟨gg, 0, none⟩) (j + 1) cap4))
              have b8 := b7.setCell (p := ⟨nb, 1, none⟩) hnbw (.slice (some ⟨gg, 0, none⟩) (j + 1) cap4)
              clear k0 k1 k2 k3 hn7 hown7 hgrow7 e0 e1 x0 x1 m0 m1 hr7 hx7
              go_wp2
              go_roundw
              case rel => exact ⟨j + 1, some ⟨gg, 0, none⟩, cap4, by omega, by go_num, by rw [HST.out, List.map_append]; exact HO7.out, HN7.out, HR7.out, HX7.out, (by show w5.heap.size ≤ (w7.setCell _ _).heap.size; simp; omega), (by first | exact b8 | exact b8.drew)⟩
              case measure => simp [intOf]; omega
          · obtain rfl : j = k := by omega
            obtain ⟨hkn', hhe⟩ := row_known hn1 (partL_len ws j D) HO.out
            have HKN := Lib.hid hkn'
            have HHE := Lib.hid hhe
            have HPI := Lib.hid (partL_in HOK.out hDp')
            obtain ⟨bp, offp, rfl, hslp⟩ := HKN.out.get hn1
            have HSP := Lib.hid hslp
            have HMQ := Lib.hid (HMI.out (partL ws j D) HPI.out)
            have hsx := Lib.hid (HSL.out.now hbr)
            obtain ⟨c0, c1⟩ := hxx.cells
            obtain ⟨e0, e1⟩ := hnr.cells
            obtain ⟨x0, x1⟩ := frozen2 hnr
            have K := Lib.hid (show ∀ W, Below wr.heap.size wr W → (W.cell? ⟨w.heap.size, 0, none⟩ = some (.int .i64 q) ∧ W.cell? ⟨w.heap.size, 1, none⟩ = some (.slice (some ⟨b, off, none⟩) j cap) ∧ W.cell? ⟨nb, 1, none⟩ = some (.slice (some ⟨bp, offp, none⟩) j cp) ∧ W.cell? ⟨nb, 0, none⟩ = some (.int .i64 0) ∧ W.frozen? ⟨nb, 0, none⟩ = false) from fun W hb => ⟨(hxx.now hb).cells.1, (hxx.now hb).cells.2, (hnr.now hb).cells.2, (hnr.now hb).cells.1, (frozen2 (hnr.now hb)).1⟩)
            clear hkn' hhe hslp
            go_wp2_with fail
            go_region_held3 (fun w' => w'.cell? ⟨w.heap.size, 0, none⟩ = some (.int .i64 q) ∧ w'.cell? ⟨w.heap.size, 1, none⟩ = some (.slice (some ⟨b, off, none⟩) j cap) ∧ w'.cell? ⟨nb, 1, none⟩ = some (.slice (some ⟨bp, offp, none⟩) j cp) ∧ (w'.cell? ⟨nb, 0, none⟩).isSome = true ∧ w'.frozen? ⟨nb, 0, none⟩ = false)
              (first | exact ⟨c0, c1, e1, by rw [e0]; rfl, x0⟩ | exact ⟨a0, a1, a2, by rw [a3]; rfl, a4⟩ | exact ⟨d0, d1, d2, by rw [d3]; rfl, d4⟩ | exact ⟨s0, s1, t1, by rw [t0]; rfl, y0⟩ | go_keep)
              (first
                | (go_at_call 54; refine (voWins_any q b off j cap ws _ hn10 HOK.out ?_).mono ?_; exact hsx.out.drew; rintro e wA ⟨gw, cpw, rfl, hgew, how, hbA⟩; have HOW := Lib.hid how; clear how; have gA := bfrom (Below.refl _ _).drew hbA; obtain ⟨a0, a1, a2, a3, a4⟩ := K.out _ gA)
                | (go_at_call 63; refine (weQuota_any (winB q ws j) gw (2^j) cpw bp offp j cp (partL ws j D) _ hn10 rfl HPI.out (HSP.out.now gA) HOW.out).mono ?_; rw [HMQ.out]; rintro e wD ⟨rfl, hbD⟩; have gD := bfrom gA hbD; obtain ⟨d0, d1, d2, d3, d4⟩ := K.out _ gD; have hX9 := (hxx.now gD).far (p := ⟨nb, 0, none⟩) hnbx (.int .i64 (highS (winB q ws j) (partL ws j D) j + 1)); have hN9 := box_set0 (hnr.now gD) (.int .i64 (highS (winB q ws j) (partL ws j D) j + 1)); obtain ⟨s0, s1⟩ := hX9.cells; obtain ⟨t0, t1⟩ := hN9.cells; obtain ⟨y0, y1⟩ := frozen2 hN9))
            all_goals
              have hRS := (hrr.now gD).far (p := ⟨nb, 0, none⟩) hnbr (.int .i64 (highS (winB q ws j) (partL ws j D) j + 1))
              have HHS := Lib.hid (Held.far0 (HHE.out.now gD) (p := ⟨nb, 0, none⟩) (show nb < w5.heap.size by omega) (.int .i64 (highS (winB q ws j) (partL ws j D) j + 1)))
              have gS := (bfrom hbr gD).setCell (p := ⟨nb, 0, none⟩) hnbw (.int .i64 (highS (winB q ws j) (partL ws j D) j + 1))
              obtain ⟨r0, r1⟩ := hRS.cells
              obtain ⟨f0, f1⟩ := KF.out _ hRS
              clear c0 c1 e0 e1 x0 x1 a0 a1 a2 a3 a4 d0 d1 d2 d3 d4 s0 s1 y0 y1 hRS
              go_wp2
              refine bodyPost_ret (v := .tuple #[.agg #[.int .i64 (highS (winB q ws j) (partL ws j D) j + 1), .slice (some ⟨bp, offp, none⟩) j cp], .bool true]) (by simp [results, Try.results31, go_sem, r0, r1]) rfl ?_
              rw [← HDD.out]
              exact ⟨_, _, rfl, held_far HHS.out (by omega) (by simp; omega) (by simp; omega), (gS.setCell (by simp) _).setCell (by simp) _⟩
  · have HGB := Lib.hid (goodB_false hg)
    clear hg
    go_enter Try.func31, Try.ntmps31
    go_wp2_with fail
    refine (voGood_any q A n cap ws _ hm (HK.out.now hb0)).mono ?_
    rintro e w1 ⟨rfl, hb1⟩
    rw [HGB.out]
    have g1 := bfrom hb0 hb1
    have hr1 := hr.now hb1
    obtain ⟨c0, c1⟩ := hr1.cells
    obtain ⟨f0, f1⟩ := KF.out _ hr1
    clear hr hb0 hb1 hx
    go_wp2
    refine bodyPost_ret (v := .tuple #[.agg #[.int .i64 0, .slice none 0 0], .bool false]) (by simp [results, Try.results31, go_sem, c0, c1]) rfl ?_
    rw [partQ_no HGB.out, dualN_no HGB.out, HGB.out]
    exact ⟨_, _, rfl, Or.inl ⟨rfl, rfl⟩, (g1.setCell (by simp) _).setCell (by simp) _⟩
end Go.Proofs.Ytkeiojfnjgjliaa
