/- Contract of the program's DropMember. -/
import Derived.Test.YtldpdjnedoflcabWc
import Derived.Test.YtldpdjnedoflcabMh
namespace Go.Proofs.Ytldpdjnedoflcab
open Go.RowKit Vo

set_option maxRecDepth 20000 in
set_option maxHeartbeats 4000000 in
theorem dropMember_any (q : Int) (A : Option Addr) (n cap : Nat) (ws : List Int) (x : Int) (w : World) (hm : n ≤ 9223372036854775807) (hk : Known w A n ws) (_hx : (Lit.int .i64 x).wf = true) :
    Calls Try.prog 38 #[.agg #[.int .i64 q, .slice A n cap], .int .i64 x] w fun e w' => ComAt (dropQ q ws n x) (dropN q ws n x) (dropL ws x.toNat n) (dropOk q ws n x) w w' e := by
  have HK := Lib.hid hk
  clear hk
  have hb0 : Below w.heap.size w ((w.alloc (.cells #[.int .i64 q, .slice A n cap] 29)).alloc (.cells #[.int .i64 0, .slice none 0 0] 29)) := (below1 w _).alloc (by simp) _
  have hx := (Box.new w (.int .i64 q) (.slice A n cap)).alloc (.cells #[.int .i64 0, .slice none 0 0] 29)
  have hr := Box.new (w.alloc (.cells #[.int .i64 q, .slice A n cap] 29)) (.int .i64 0) (.slice none 0 0)
  simp only [World.size_alloc] at hr
  have KF := Lib.hid (show ∀ W, BoxT 29 W (w.heap.size + 1) (.int .i64 0) (.slice none 0 0) → (W.frozen? ⟨w.heap.size + 1, 0, none⟩ = false ∧ W.frozen? ⟨w.heap.size + 1, 1, none⟩ = false) from fun W h => by unfold BoxT at h; exact ⟨by simp [World.frozen?, h], by simp [World.frozen?, h]⟩)
  cases hok : memOk q ws n x with
  | true =>
    obtain ⟨hg, hx0, hxn⟩ := memOk_parts hok
    have HGB := Lib.hid (goodB_true hg)
    obtain ⟨b, off, rfl, hsl⟩ := HK.out.get hg.lo
    have HW := Lib.hid hsl
    have hn9 := hg.hi
    have hn1 := hg.lo
    have hn10 : n < 10 := by omega
    have HIN := Lib.hid (inB_yes (x := x) (lo := 0) (hi := (n : Int) - 1) hx0 (by omega))
    obtain ⟨k, rfl⟩ : ∃ k : Nat, x = k := ⟨x.toNat, by omega⟩
    have hkn : k < n := by omega
    have HDO := Lib.hid (show dropOk q ws n k = goodB q (dropL ws k n) (n - 1) from by unfold dropOk; rw [hok, Int.toNat_natCast, Bool.true_and])
    have HLN := Lib.hid (dropL_len ws k n)
    rw [Int.toNat_natCast]
    obtain ⟨i0, hi0, hz0, hz1, hz2⟩ := infoIntParts
    have HMO := Lib.hid hok
    clear hg hsl hok
    go_enter Try.func38, Try.ntmps38
    go_wp2_with fail
    refine (hasMember_any q _ n cap ws _ _ hm (HK.out.now hb0)).mono ?_
    rintro e w1 ⟨rfl, hb⟩
    rw [HMO.out]
    have hx2 := hx.now hb
    have hr2 := hr.now hb
    have g2 := bfrom hb0 hb
    obtain ⟨hc0, hc1⟩ := hx2.cells
    obtain ⟨w2, hw2⟩ : ∃ w2, w2 = w1 := ⟨_, rfl⟩
    rw [← hw2] at hx2 hr2 g2 hc0 hc1 ⊢
    clear hw2
    obtain ⟨a0, a1⟩ := (hx2.alloc (.cells #[.int .i64 q, .slice none 0 0] 29)).cells
    go_wp2_with fail
    have hnb : w.heap.size + 1 < w2.heap.size := hr2.lt
    have b5 := below1 w2 (.cells #[.int .i64 q, .slice none 0 0] 29)
    have g5 := bfrom g2 b5
    have hx5 := hx2.now b5
    have hr5 := hr2.now b5
    have hn5 := Box.new w2 (.int .i64 q) (.slice none 0 0)
    have hsz5 : (w2.alloc (.cells #[.int .i64 q, .slice none 0 0] 29)).heap.size = w2.heap.size + 1 := by simp
    obtain ⟨w5, hw5⟩ : ∃ w5, w5 = w2.alloc (.cells #[.int .i64 q, .slice none 0 0] 29) := ⟨_, rfl⟩
    rw [← hw5] at g5 hx5 hr5 hn5 hsz5 ⊢
    obtain ⟨nb, hnbe⟩ : ∃ nb, nb = w2.heap.size := ⟨_, rfl⟩
    rw [← hnbe] at hn5 hsz5 hnb ⊢
    have hg5 := g5.size
    clear hc0 hc1 a0 a1 hw5 hb b5 hnbe hx2 hr2 g2
    go_loopw [7, 8, 20] (fun _ _ i wr => ∃ (j : Nat) (B : Option Addr) (cp : Nat), j ≤ n ∧ i = .int .i64 j ∧ wr.ownsRow w5.heap.size 3 1 (.slice B (dropL ws k j).length cp) (dropL ws k j).length ((dropL ws k j).map (Value.int .i64)) ∧ Box wr nb (.int .i64 q) (.slice B (dropL ws k j).length cp) ∧ (∀ k, k < w5.heap.size → k ≠ nb → wr.heap[k]? = w5.heap[k]?) ∧ w5.heap.size ≤ wr.heap.size ∧ Below w.heap.size w wr) (fun _ _ i _ => n - (intOf i).toNat)
    case atStart => exact ⟨0, none, 0, Nat.zero_le _, rfl, World.ownsRow_nil _ _ _ _, hn5, fun _ _ _ => rfl, Nat.le_refl _, g5⟩
    case round =>
      obtain ⟨j, B, cp, hj, rfl, hown, hnr, hsm, hszr, hbr⟩ := hrel
      have HO := Lib.hid hown
      have HSM := Lib.hid hsm
      have hrr : BoxT 29 _ (w.heap.size + 1) (.int .i64 0) (.slice none 0 0) := (hsm _ hr5.lt (by omega)).trans hr5
      clear hown hsm
      by_cases hlt : j < n
      · have hcell := (HW.out.now hbr).cell j hlt
        have hlen : (dropL ws k j).length ≤ 9 := by rw [dropL_len]; split <;> omega
        by_cases hjk : j = k
        · have HST := Lib.hid (dropL_no (ws := ws) hjk)
          have hne : ((j : Int) != (k : Int)) = false := by simp [hjk]
          have hne2 : ((j : Int) == (k : Int)) = true := by simp [hjk]
          clear hjk
          generalize ws.getD j 0 = y at *
          go_wp2
          go_roundw
          case rel => exact ⟨j + 1, B, cp, by omega, by go_num, by rw [HST.out]; exact HO.out, by rw [HST.out]; exact hnr, HSM.out, hszr, hbr⟩
          case measure => simp [intOf]; omega
        · have HST := Lib.hid (dropL_yes (ws := ws) hjk)
          have hne : ((j : Int) != (k : Int)) = true := by simp; omega
          have hne2 : ((j : Int) == (k : Int)) = false := by simp; omega
          clear hjk
          obtain ⟨y, hy⟩ : ∃ y, ws.getD j 0 = y := ⟨_, rfl⟩
          rw [hy] at hcell HST
          clear hy
          obtain ⟨M, hM⟩ : ∃ M, dropL ws k j = M := ⟨_, rfl⟩
          rw [hM] at HO HST hlen hnr
          clear hM
          obtain ⟨c, hc⟩ : ∃ c, c = M.length := ⟨_, rfl⟩
          rw [← hc] at HO hlen hnr
          have HC := Lib.hid hc
          clear hc
          obtain ⟨e0, e1⟩ := hnr.cells
          go_wp2_with (at_builtin; refine wpList_append_lies _ rfl _ _ _ rfl w5.heap.size 3 i0 _ 1 8 Try.underlying22 hi0 hz0 hz1 hz2 rfl (by decide) (.slice B c cp) c (M.map (Value.int .i64)) rfl (HO.out.alloc _) ⟨wr.heap.size, 0, none⟩ 1 1 [.int .i64 y] rfl rfl (World.news_of_block (cs := #[.int .i64 y]) (t := 3) (fr := (0, 0)) (heap_alloc_new wr _)) (by simp [Value.oneCell']) (by omega) (by unfold maxLen; omega) (by omega) (by simp; omega) (wr.heap.size + 1) (by simp) ?_; intro gg cap4 w7 hown7 hgrow7 hat7 hlt7; have hn7 := ((hnr.alloc (.cells #[.int .i64 y] 3)).grown hgrow7 (owns_ne HO.out (by omega))); obtain ⟨k0, k1⟩ := hn7.cells; have k2 := box_fr hn7)
          have hz7 := hgrow7.size
          have hz7' : wr.heap.size + 1 ≤ w7.heap.size := by simpa using hz7
          have b7 : Below w.heap.size w w7 := (hbr.alloc hbr.size (.cells #[.int .i64 y] 3)).grown hgrow7 (by have := hbr.size; simp; omega) fun i hi => by have := owns_le HO.out hi; omega
          have hnbl : nb < w5.heap.size := by omega
          have HN7 := Lib.hid (hn7.set1 (.slice (some ⟨gg, 0, none⟩) (c + 1) cap4))
          have HO7 := Lib.hid (owns_far hown7 (p := ⟨nb, 1, none⟩) hnbl (.slice (some ⟨gg, 0, none⟩) (c + 1) cap4))
          have HS7 := Lib.hid (show ∀ k, k < w5.heap.size → k ≠ nb → (w7.setCell ⟨nb, 1, none⟩ (.slice (some ⟨gg, 0, none⟩) (c + 1) cap4)).heap[k]? = w5.heap[k]? from fun k k1 k2 =>
            (Below.heap_setCell _ _ _ k k2).trans ((hgrow7.block k (by simp; omega) (owns_ne HO.out k1)).trans ((Below.heap_alloc wr _ k (by omega)).trans (HSM.out k k1 k2))))
          have b8 := b7.setCell (p := ⟨nb, 1, none⟩) (by show w.heap.size ≤ nb; omega) (.slice (some ⟨gg, 0, none⟩) (c + 1) cap4)
          go_roundw
          case rel =>
            refine ⟨j + 1, some ⟨gg, 0, none⟩, cap4, by omega, by go_num, ?_, ?_, HS7.out, ?_, b8⟩
            · have h := HO7.out
              rw [HST.out, List.map_append, List.length_append, ← HC.out]
              exact h
            · have h := HN7.out
              rw [HST.out, List.length_append, ← HC.out]
              exact h
            · simp
              omega
          case measure => simp [intOf]; omega
      · obtain rfl : n = j := by omega
        rw [if_pos hkn] at HLN
        rw [HLN.out] at HO hnr
        obtain ⟨e0, e1⟩ := hnr.cells
        have hkn' : Known wr B (n - 1) (dropL ws k n) := by
          by_cases h0 : n - 1 = 0
          · exact ⟨0, 0, fun h => absurd h (by omega), fun h => absurd h (by omega)⟩
          · obtain ⟨g, cp', hv, _, _, _⟩ := owns_head HO.out (by omega)
            obtain ⟨rfl, rfl⟩ : B = some ⟨g, 0, none⟩ ∧ cp = cp' := by simpa using hv
            exact Known.of (Ints.sl (Own.of_own HO.out fun i hi => by
              have : i < (dropL ws k n).length := by rw [HLN.out]; exact hi
              simp [List.getD_eq_getElem?_getD, this]))
        have HKN := Lib.hid hkn'
        clear hkn'
        cases hgd : goodB q (dropL ws k n) (n - 1) with
        | true =>
          have HGD := Lib.hid hgd
          have hn2 : 1 ≤ n - 1 := by unfold goodB at hgd; exact (of_decide_eq_true hgd).lo
          clear hgd
          rw [HGD.out] at HDO
          go_wp2_with (go_at_call 74; refine (checked_yes q B (n - 1) cp (dropL ws k n) _ (by omega) HKN.out HGD.out).mono ?_; rintro e w8 ⟨rfl, hb8⟩; obtain ⟨q0, q1⟩ := (hnr.now hb8).cells; obtain ⟨d0, d1⟩ := (hrr.now hb8).cells; obtain ⟨f0, f1⟩ := KF.out _ (hrr.now hb8))
          have b8 := bfromB hbr hb8 hbr.size
          refine bodyPost_ret (v := .tuple #[.agg #[.int .i64 q, .slice B (n - 1) cp], .bool true]) (by simp [results, Try.results38, go_sem, d0, d1]) rfl ?_
          rw [HDO.out, dropQ_yes HDO.out, dropN_yes HDO.out]
          refine ⟨_, _, rfl, ?_, (b8.setCell (by simp) _).setCell (by simp) _⟩
          obtain ⟨g, cp', hv, hg, _, _⟩ := owns_head HO.out (by omega)
          obtain ⟨rfl, rfl⟩ : B = some ⟨g, 0, none⟩ ∧ cp = cp' := by simpa using hv
          refine Or.inr ⟨g, rfl, by omega, ?_⟩
          have hI : Ints _ g (n - 1) (dropL ws k n) := Own.of_own (owns_now HO.out hb8) fun i hi => by
            have : i < (dropL ws k n).length := by rw [HLN.out]; exact hi
            simp [List.getD_eq_getElem?_getD, this]
          exact (hI.far (by simp; omega) _).far (by simp; omega) _
        | false =>
          have HGD := Lib.hid hgd
          clear hgd
          rw [HGD.out] at HDO
          go_wp2_with (go_at_call 74; refine (checked_no q B (n - 1) cp (dropL ws k n) _ (by omega) HKN.out HGD.out).mono ?_; rintro e w8 ⟨rfl, hb8⟩; obtain ⟨d0, d1⟩ := (hrr.now hb8).cells; obtain ⟨f0, f1⟩ := KF.out _ (hrr.now hb8))
          have b8 := bfromB hbr hb8 hbr.size
          refine bodyPost_ret (v := .tuple #[.agg #[.int .i64 0, .slice none 0 0], .bool false]) (by simp [results, Try.results38, go_sem, d0, d1]) rfl ?_
          rw [HDO.out, dropQ_no HDO.out, dropN_no HDO.out]
          exact ⟨_, _, rfl, Or.inl ⟨rfl, rfl⟩, (b8.setCell (by simp) _).setCell (by simp) _⟩
  | false =>
    have HE := Lib.hid (show dropOk q ws n x = false from by unfold dropOk; rw [hok]; rfl)
    have HMO := Lib.hid hok
    clear hok
    go_enter Try.func38, Try.ntmps38
    go_wp2_with fail
    refine (hasMember_any q _ n cap ws _ _ hm (HK.out.now hb0)).mono ?_
    rintro e w1 ⟨rfl, hb⟩
    rw [HMO.out]
    have g1 := bfrom hb0 hb
    have hr1 := hr.now hb
    obtain ⟨d0, d1⟩ := hr1.cells
    obtain ⟨f0, f1⟩ := KF.out _ hr1
    go_wp2
    refine bodyPost_ret (v := .tuple #[.agg #[.int .i64 0, .slice none 0 0], .bool false]) (by simp [results, Try.results38, go_sem, d0, d1]) rfl ?_
    rw [HE.out, dropQ_no HE.out, dropN_no HE.out]
    exact ⟨_, _, rfl, Or.inl ⟨rfl, rfl⟩, (g1.setCell (by simp) _).setCell (by simp) _⟩
end Go.Proofs.Ytldpdjnedoflcab
