/- Contract of the model's SortCommittee. -/
import Derived.Test.YtkeiojfnjgjliaaWz
import Derived.Test.YtkeiojfnjgjliaaG2
import Derived.Test.YtkeiojfnjgjliaaWm
import Derived.Test.YtkeiojfnjgjliaaWf
import Derived.Laws.AppendOwnNone
namespace Go.Proofs.Ytkeiojfnjgjliaa
open Go.RowKit Vo

theorem cut_take {L : List Int} {k : Nat} (h : k ≤ L.length) : cut L 0 k = (L.take k).map (Value.int .i64) := by
  refine List.ext_getElem (by simp [cut]; omega) fun i h1 h2 => ?_
  have hi : i < L.length := by simp [cut] at h1; omega
  simp [cut, List.getD_eq_getElem?_getD, hi]
theorem cut_drop {L : List Int} {k : Nat} (h : k ≤ L.length) : cut L k (L.length - k) = (L.drop k).map (Value.int .i64) := by
  refine List.ext_getElem (by simp [cut]) fun i h1 h2 => ?_
  have hi : k + i < L.length := by simp [cut] at h1; omega
  simp [cut, List.getD_eq_getElem?_getD, hi]
theorem insD_cells (x : Int) (L : List Int) : (cut L 0 (posD x L) ++ [Value.int .i64 x]) ++ cut L (posD x L) (L.length - posD x L) = (insD x L).map (Value.int .i64) := by
  rw [cut_take (posD_le x L), cut_drop (posD_le x L), insD_at]
  simp

theorem owns_sets1 {w : World} {base : Nat} {e : TypeId} {size : Nat} {v : Value} {n : Nat} {xs : List Value} (h : w.ownsRow base e size v n xs) {p : Addr} (hp : p.block < base) (u : Value) : (w.setCell p u).ownsRow base e size v n xs := owns_far h hp u
set_option maxHeartbeats 1000000 in
theorem l1Own_nil (w : World) : Calls Try.prog 75 #[.slice none 0 0] w fun e w' => ∃ v, e = .returned v ∧ w'.ownsRow w.heap.size 3 1 v 0 [] ∧ Below w.heap.size w w' := by
  obtain ⟨i0, hi0, hz0, hz1, hz2⟩ := infoIntParts
  go_enter Try.func75, Try.ntmps75
  go_wp2_with (at_builtin; refine wpList_append_own_none rfl _ _ _ rfl w.heap.size 3 i0 1 Try.underlying22 hi0 (.slice (some ⟨w.heap.size, 0, none⟩) 0 0) 0 [] rfl (World.ownsRow_lit w #[] 0 (Nat.le_refl _) (by unfold maxLen; omega) rfl) rfl ?_)
  go_ret
  exact ⟨_, rfl, World.ownsRow_lit w #[] 0 (Nat.le_refl _) (by unfold maxLen; omega) rfl, below1 _ _⟩

set_option maxRecDepth 20000 in
set_option maxHeartbeats 6000000 in
theorem sSortCommittee_any (q : Int) (A : Option Addr) (n cap : Nat) (ws : List Int) (w : World) (hm : n ≤ 9223372036854775807) (hk : Known w A n ws) :
    Calls Try.prog 33 #[.agg #[.int .i64 q, .slice A n cap]] w fun e w' => ComAt (srtQ q ws n) (dualN q ws n) (insAll ws n) (goodB q ws n) w w' e := by
  have HK := Lib.hid hk
  clear hk
  have hb0 : Below w.heap.size w ((w.alloc (.cells #[.int .i64 q, .slice A n cap] 32)).alloc (.cells #[.int .i64 0, .slice none 0 0] 32)) := (below1 w _).alloc (by simp) _
  have hx := (Box.new w (.int .i64 q) (.slice A n cap)).alloc (.cells #[.int .i64 0, .slice none 0 0] 32)
  have hr := Box.new (w.alloc (.cells #[.int .i64 q, .slice A n cap] 32)) (.int .i64 0) (.slice none 0 0)
  simp only [World.size_alloc] at hr
  have KF := Lib.hid (show ∀ W, BoxT 32 W (w.heap.size + 1) (.int .i64 0) (.slice none 0 0) → (W.frozen? ⟨w.heap.size + 1, 0, none⟩ = false ∧ W.frozen? ⟨w.heap.size + 1, 1, none⟩ = false) from fun W h => by unfold BoxT at h; exact ⟨by simp [World.frozen?, h], by simp [World.frozen?, h]⟩)
  by_cases hg : Vo.Good q ws n
  · obtain ⟨b, off, rfl, hsl⟩ := HK.out.get hg.lo
    have HSL := Lib.hid hsl
    have HG := Lib.hid hg
    have HGB := Lib.hid (goodB_true hg)
    have hn9 := hg.hi
    have hn1 := hg.lo
    have hn10 : n < 10 := by omega
    clear hg hsl
    have HOK := Lib.hid HG.out.ok
    rw [srtQ_yes HGB.out, dualN_yes HGB.out, HGB.out]
    obtain ⟨i0, hi0, hz0, hz1, hz2⟩ := infoIntParts
    go_enter Try.func33, Try.ntmps33
    go_wp2_with fail
    refine (voGood_any q _ n cap ws _ hm (HK.out.now hb0)).mono ?_
    rintro e w1 ⟨rfl, hb1⟩
    rw [HGB.out]
    have g1 := bfrom hb0 hb1
    have hr1 := hr.now hb1
    have hx1 := hx.now hb1
    have hs1 := Lib.hid (HSL.out.now g1)
    have hzr := hr1.lt
    have b5 := below1 w1 (.cells #[.int .i64 q, .slice none 0 0] 32)
    have g5 := bfrom g1 b5
    have hr5 := hr1.now b5
    have hx5 := hx1.now b5
    have hn5 := Box.new w1 (.int .i64 q) (.slice none 0 0)
    have hs5 := Lib.hid (hs1.out.now b5)
    obtain ⟨c0, c1⟩ := hx1.cells
    obtain ⟨m0, m1⟩ := hx5.cells
    clear hr hb0 hb1 hx
    go_wp2_with fail
    have hsz5 : (w1.alloc (.cells #[.int .i64 q, .slice none 0 0] 32)).heap.size = w1.heap.size + 1 := by simp
    obtain ⟨w5, hw5⟩ : ∃ w5, w5 = w1.alloc (.cells #[.int .i64 q, .slice none 0 0] 32) := ⟨_, rfl⟩
    obtain ⟨nb, hnb⟩ : ∃ nb, nb = w1.heap.size := ⟨_, rfl⟩
    rw [← hw5] at g5 hr5 hn5 hs5 hsz5 hx5 m0 m1 ⊢
    rw [← hnb] at hn5 hsz5 hzr ⊢
    have hg5 := g5.size
    have hnbr : w.heap.size + 1 ≠ nb := by omega
    have hnbw : w.heap.size ≤ nb := by omega
    clear c0 c1 m0 m1 hw5 b5 hr1 g1 hnb hx1 hx5 hs1
    go_loopw [19] (fun i wr => ∃ (j : Nat) (B : Option Addr) (cp : Nat), j ≤ n ∧ i = .int .i64 j ∧ (j = 0 → B = none ∧ cp = 0) ∧ wr.ownsRow w5.heap.size 3 1 (.slice B j cp) j ((insAll ws j).map (Value.int .i64)) ∧ Box wr nb (.int .i64 q) (.slice B j cp) ∧ BoxT 32 wr (w.heap.size + 1) (.int .i64 0) (.slice none 0 0) ∧ w5.heap.size ≤ wr.heap.size ∧ Below w.heap.size w wr) (fun i _ => n - (intOf i).toNat)
    case atStart => exact ⟨0, none, 0, Nat.zero_le _, rfl, fun _ => ⟨rfl, rfl⟩, World.ownsRow_nil _ _ _ _, hn5, hr5, Nat.le_refl _, g5⟩
    case round =>
      obtain ⟨j, B, cp, hj, rfl, hj0, hown, hnr, hrr, hszr, hbr⟩ := hrel
      have HO := Lib.hid hown
      clear hown
      obtain ⟨e0, e1⟩ := hnr.cells
      by_cases hlt : j < n
      · have hcell := (HSL.out.now hbr).cell j hlt
        have hy := HOK.out j hlt
        have HST := Lib.hid (show insAll ws (j+1) = insD (ws.getD j 0) (insAll ws j) from rfl)
        have HFA := Lib.hid (insAll_falls ws j)
        have HLE := Lib.hid (insAll_len ws j)
        obtain ⟨x, hx⟩ : ∃ x, x = ws.getD j 0 := ⟨_, rfl⟩
        rw [← hx] at hcell hy HST
        obtain ⟨L, hL⟩ : ∃ L, L = insAll ws j := ⟨_, rfl⟩
        rw [← hL] at HO HST HFA HLE
        clear hx hL
        have hpl := posD_le x L
        rw [HLE.out] at hpl
        by_cases h0 : j = 0
        · obtain rfl : j = 0 := h0
          obtain ⟨rfl, rfl⟩ := hj0 rfl
          obtain rfl : L = [] := List.eq_nil_of_length_eq_zero HLE.out
          have hnbl : nb < wr.heap.size := by omega
          rw [Nat.add_zero] at hcell
          go_wp2_with fail
          go_loop [7] (fun t => t = .int .i64 0) (fun t => 0)
          case atStart => exact rfl
          case round =>
            obtain rfl := hrel
            go_wp2_with (first
              | (go_at_call 75; refine (l1Own_nil wr).mono ?_; rintro e w6 ⟨v6, rfl, ho6, hb6⟩; have hs6 := hb6.size; have hn6 := hnr.now hb6; have hr6 := hrr.now hb6; have b6 := bfrom hbr hb6; clear e0 e1; obtain ⟨e0, e1⟩ := (hn6.alloc (.cells #[.int .i64 x] 3)).cells; obtain ⟨y0, y1⟩ := hn6.cells)
              | (at_builtin; refine wpList_append_own_at _ rfl _ _ _ rfl wr.heap.size 3 i0 _ 1 8 Try.underlying22 hi0 hz0 hz1 hz2 rfl (by decide) v6 0 [] rfl (ho6.alloc _) ⟨w6.heap.size, 0, none⟩ 1 1 [.int .i64 x] rfl rfl (lit_news (heap_alloc_new w6 (.cells #[.int .i64 x] 3))) (by simp [Value.oneCell']) (by unfold maxLen; omega) (by omega) (by simp; omega) ?_; intro v7 w7 ho7 hgrow7 hnil7 hat7; have hs7 := hgrow7.size; have hn7 := (hn6.alloc (.cells #[.int .i64 x] 3)).grown hgrow7 (owns_ne ho6 hnbl); have hr7 := (hr6.alloc (.cells #[.int .i64 x] 3)).grown hgrow7 (owns_ne ho6 (by omega)); have b7 := (b6.alloc b6.size (.cells #[.int .i64 x] 3)).grown hgrow7 (by have := b6.size; simp; omega) (fun i hi => by have := owns_le ho6 hi; have := hbr.size; omega); clear e0 e1 y0 y1; obtain ⟨e0, e1⟩ := hn7.cells; obtain ⟨B8, cp8, rfl⟩ := owns_slice ho7; have k2 := box_fr hn7)
              | (at_builtin; (refine wpList_append_own_none rfl _ _ _ rfl wr.heap.size 3 i0 1 Try.underlying22 hi0 (.slice B8 (0 + 1) cp8) (0 + 1) ([] ++ [Value.int .i64 x]) rfl ho7 rfl ?_)))
            have HN8 := Lib.hid (hn7.set1 (.slice B8 (0 + 1) cp8))
            have HO8 := Lib.hid (owns_sets1 (owns_less ho7 (show w5.heap.size ≤ wr.heap.size by omega)) (p := ⟨nb, 1, none⟩) (show nb < w5.heap.size by omega) (.slice B8 (0 + 1) cp8))
            have HR8 := Lib.hid (hr7.far (p := ⟨nb, 1, none⟩) hnbr (.slice B8 (0 + 1) cp8))
            have b9 := b7.setCell (p := ⟨nb, 1, none⟩) hnbw (.slice B8 (0 + 1) cp8)
            clear hn7 ho7 hr7 e0 e1 k2
            go_roundw
            case rel => exact ⟨0 + 1, B8, cp8, by omega, by go_num, fun h => by omega, by rw [HST.out]; exact HO8.out, HN8.out, HR8.out, (by show w5.heap.size ≤ (w7.setCell _ _).heap.size; simp at hs7 ⊢; omega), b9⟩
            case measure => simp [intOf]; omega
        · obtain ⟨g, cp', hv, hgg, hcp1, hcp2⟩ := owns_head HO.out (by omega)
          obtain ⟨rfl, rfl⟩ : B = some ⟨g, 0, none⟩ ∧ cp = cp' := by simpa using hv
          have hI : Ints wr g j L := Own.of_own HO.out fun i hi => by
            have : i < L.length := by rw [HLE.out]; exact hi
            simp [List.getD_eq_getElem?_getD, this]
          have HI := Lib.hid hI
          obtain ⟨k, hkp⟩ : ∃ k, k = posD x L := ⟨_, rfl⟩
          have HGE := Lib.hid (fun i (hi : i < k) => posD_ge (x := x) (L := L) (by rw [← hkp]; exact hi))
          have HEN := Lib.hid (fun (h : k < j) => (show L.getD k 0 < x from by rw [hkp]; exact posD_end HFA.out (by rw [← hkp, HLE.out]; exact h)))
          have HCE := Lib.hid (show (cut L 0 k ++ [Value.int .i64 x]) ++ cut L k (j - k) = (insD x L).map (Value.int .i64) from by rw [hkp, ← HLE.out]; exact insD_cells x L)
          rw [← hkp] at hpl
          clear hv hI hkp hj0
          go_wp2_with fail
          go_loop [7] (fun t => ∃ z : Nat, z ≤ k ∧ t = .int .i64 z) (fun t => k - (intOf t).toNat)
          case atStart => exact ⟨0, Nat.zero_le _, rfl⟩
          case round =>
            obtain ⟨z, hz, rfl⟩ := hrel
            by_cases hzk : z < k
            · have hzj : z < j := by omega
              have hc2 := HI.out.cell hzj
              have hge := HGE.out z hzk
              obtain ⟨y, hye⟩ : ∃ y, y = L.getD z 0 := ⟨_, rfl⟩
              rw [← hye] at hc2 hge
              clear hye
              go_wp2
              go_round
              case rel => exact ⟨z + 1, by omega, by go_num⟩
              case measure => simp [intOf]; omega
            · rw [show z = k from by omega]
              by_cases hkj : k < j
              · have hc2 := HI.out.cell hkj
                have hen := HEN.out hkj
                have hkc : k < cp := by omega
                obtain ⟨y, hye⟩ : ∃ y, y = L.getD k 0 := ⟨_, rfl⟩
                rw [← hye] at hc2 hen
                clear hye
                have hnbl : nb < wr.heap.size := by omega
                have hgl : g < wr.heap.size := HI.out.lt
                go_wp2_with (first
                  | (go_at_call 75; refine (l1Own_row g 0 j k cp L wr (by omega) (by omega) (Ints.sl HI.out)).mono ?_; rintro e w6 ⟨v6, rfl, ho6, hb6⟩; have hs6 := hb6.size; have hn6 := hnr.now hb6; have hr6 := hrr.now hb6; have hI6 := Own.below HI.out hb6 hgl; have b6 := bfrom hbr hb6; clear e0 e1; obtain ⟨e0, e1⟩ := (hn6.alloc (.cells #[.int .i64 x] 3)).cells; obtain ⟨y0, y1⟩ := hn6.cells)
                  | (at_builtin; refine wpList_append_own_at _ rfl _ _ _ rfl wr.heap.size 3 i0 _ 1 8 Try.underlying22 hi0 hz0 hz1 hz2 rfl (by decide) v6 k (cut L 0 k) rfl (ho6.alloc _) ⟨w6.heap.size, 0, none⟩ 1 1 [.int .i64 x] rfl rfl (lit_news (heap_alloc_new w6 (.cells #[.int .i64 x] 3))) (by simp [Value.oneCell']) (by unfold maxLen; omega) (by omega) (by simp; omega) ?_; intro v7 w7 ho7 hgrow7 hnil7 hat7; have hs7 := hgrow7.size; have hn7 := (hn6.alloc (.cells #[.int .i64 x] 3)).grown hgrow7 (owns_ne ho6 hnbl); have hr7 := (hr6.alloc (.cells #[.int .i64 x] 3)).grown hgrow7 (owns_ne ho6 (by omega)); have hI7 := (hI6.alloc (.cells #[.int .i64 x] 3)).grown hgrow7 (owns_ne ho6 hgl); have b7 := (b6.alloc b6.size (.cells #[.int .i64 x] 3)).grown hgrow7 (by have := b6.size; simp; omega) (fun i hi => by have := owns_le ho6 hi; have := hbr.size; omega); clear e0 e1 y0 y1; obtain ⟨e0, e1⟩ := hn7.cells)
                  | (at_builtin; refine wpList_append_own_at _ rfl _ _ _ rfl wr.heap.size 3 i0 _ 1 8 Try.underlying22 hi0 hz0 hz1 hz2 rfl (by decide) v7 (k + 1) (cut L 0 k ++ [Value.int .i64 x]) rfl ho7 ⟨g, k, none⟩ (j - k) (cp - k) (cut L k (j - k)) rfl (by rw [cut_len]; omega) (cut_cells (Ints.sl hI7) (by omega) _ (by omega)) (cut_one L _ _) (by unfold maxLen; omega) (by omega) (by simp at hs7; omega) ?_; intro v8 w8 ho8 hgrow8 hnil8 hat8; have hn8 := hn7.grown hgrow8 (owns_ne ho7 hnbl); have hr8 := hr7.grown hgrow8 (owns_ne ho7 (by omega)); have b8 := b7.grown hgrow8 b7.size (fun i hi => by have := owns_le ho7 hi; have := hbr.size; omega); have hs8 := hgrow8.size; obtain ⟨B8, cp8, rfl⟩ := owns_slice ho8; clear e0 e1; obtain ⟨e0, e1⟩ := hn8.cells; have k2 := box_fr hn8))
                rw [show k + 1 + (j - k) = j + 1 by omega] at ho8
                have HN8 := Lib.hid (hn8.set1 (.slice B8 (j + 1) cp8))
                have HO8 := Lib.hid (owns_sets1 (owns_less ho8 (show w5.heap.size ≤ wr.heap.size by omega)) (p := ⟨nb, 1, none⟩) (show nb < w5.heap.size by omega) (.slice B8 (j + 1) cp8))
                have HR8 := Lib.hid (hr8.far (p := ⟨nb, 1, none⟩) hnbr (.slice B8 (j + 1) cp8))
                have b9 := b8.setCell (p := ⟨nb, 1, none⟩) hnbw (.slice B8 (j + 1) cp8)
                clear hn8 ho8 hr8 e0 e1 k2
                simp only [show k + 1 + (j - k) = j + 1 by omega]
                go_roundw
                case rel => exact ⟨j + 1, B8, cp8, by omega, by go_num, fun h => by omega, by rw [HST.out, ← HCE.out]; exact HO8.out, HN8.out, HR8.out, (by show w5.heap.size ≤ (w8.setCell _ _).heap.size; simp at hs7 ⊢; omega), b9⟩
                case measure => simp [intOf]; omega
              · obtain rfl : k = j := by omega
                by_cases hkc : k < cp
                · have hkc2 : ¬ cp = k := by omega
                  have hnbl : nb < wr.heap.size := by omega
                  have hgl : g < wr.heap.size := HI.out.lt
                  have HCE2 := Lib.hid (show cut L 0 k ++ [Value.int .i64 x] = (insD x L).map (Value.int .i64) from by have h := HCE.out; rw [Nat.sub_self] at h; simpa [cut] using h)
                  go_wp2_with (first
                    | (go_at_call 75; refine (l1Own_row g 0 k k cp L wr (by omega) (by omega) (Ints.sl HI.out)).mono ?_; rintro e w6 ⟨v6, rfl, ho6, hb6⟩; have hs6 := hb6.size; have hn6 := hnr.now hb6; have hr6 := hrr.now hb6; have b6 := bfrom hbr hb6; clear e0 e1; obtain ⟨e0, e1⟩ := (hn6.alloc (.cells #[.int .i64 x] 3)).cells; obtain ⟨y0, y1⟩ := hn6.cells)
                    | (at_builtin; refine wpList_append_own_at _ rfl _ _ _ rfl wr.heap.size 3 i0 _ 1 8 Try.underlying22 hi0 hz0 hz1 hz2 rfl (by decide) v6 k (cut L 0 k) rfl (ho6.alloc _) ⟨w6.heap.size, 0, none⟩ 1 1 [.int .i64 x] rfl rfl (lit_news (heap_alloc_new w6 (.cells #[.int .i64 x] 3))) (by simp [Value.oneCell']) (by unfold maxLen; omega) (by omega) (by simp; omega) ?_; intro v7 w7 ho7 hgrow7 hnil7 hat7; have hs7 := hgrow7.size; have hn7 := (hn6.alloc (.cells #[.int .i64 x] 3)).grown hgrow7 (owns_ne ho6 hnbl); have hr7 := (hr6.alloc (.cells #[.int .i64 x] 3)).grown hgrow7 (owns_ne ho6 (by omega)); have b7 := (b6.alloc b6.size (.cells #[.int .i64 x] 3)).grown hgrow7 (by have := b6.size; simp; omega) (fun i hi => by have := owns_le ho6 hi; have := hbr.size; omega); clear e0 e1 y0 y1; obtain ⟨e0, e1⟩ := hn7.cells)
                    | (at_builtin; (refine wpList_append_own_at _ rfl _ _ _ rfl wr.heap.size 3 i0 _ 1 8 Try.underlying22 hi0 hz0 hz1 hz2 rfl (by decide) v7 (k + 1) (cut L 0 k ++ [Value.int .i64 x]) rfl ho7 ⟨g, k, none⟩ 0 (cp - k) [] rfl rfl (fun _ _ h => by simp at h) (fun _ h => by cases h) (by unfold maxLen; omega) (by omega) (by simp at hs7; omega) ?_; intro v8 w8 ho8 hgrow8 hnil8 hat8; have hn8 := hn7.grown hgrow8 (owns_ne ho7 hnbl); have hr8 := hr7.grown hgrow8 (owns_ne ho7 (by omega)); have b8 := b7.grown hgrow8 b7.size (fun i hi => by have := owns_le ho7 hi; have := hbr.size; omega); have hs8 := hgrow8.size; obtain ⟨B8, cp8, rfl⟩ := owns_slice ho8; clear e0 e1; obtain ⟨e0, e1⟩ := hn8.cells; have k2 := box_fr hn8)))
                  rw [List.append_nil] at ho8
                  have HN8 := Lib.hid (hn8.set1 (.slice B8 (k + 1) cp8))
                  have HO8 := Lib.hid (owns_sets1 (owns_less ho8 (show w5.heap.size ≤ wr.heap.size by omega)) (p := ⟨nb, 1, none⟩) (show nb < w5.heap.size by omega) (.slice B8 (k + 1) cp8))
                  have HR8 := Lib.hid (hr8.far (p := ⟨nb, 1, none⟩) hnbr (.slice B8 (k + 1) cp8))
                  have b9 := b8.setCell (p := ⟨nb, 1, none⟩) hnbw (.slice B8 (k + 1) cp8)
                  clear hn8 ho8 hr8 e0 e1 k2
                  go_roundw
                  case rel => exact ⟨k + 1, B8, cp8, by omega, by go_num, fun h => by omega, by rw [HST.out, ← HCE2.out]; exact HO8.out, HN8.out, HR8.out, (by show w5.heap.size ≤ (w8.setCell _ _).heap.size; simp at hs7 ⊢; omega), b9⟩
                  case measure => simp [intOf]; omega
                · obtain rfl : k = cp := by omega
                  have hnbl : nb < wr.heap.size := by omega
                  have hgl : g < wr.heap.size := HI.out.lt
                  have HCE2 := Lib.hid (show cut L 0 k ++ [Value.int .i64 x] = (insD x L).map (Value.int .i64) from by have h := HCE.out; rw [Nat.sub_self] at h; simpa [cut] using h)
                  go_wp2_with (first
                    | (go_at_call 75; refine (l1Own_row g 0 k k k L wr (by omega) (by omega) (Ints.sl HI.out)).mono ?_; rintro e w6 ⟨v6, rfl, ho6, hb6⟩; have hs6 := hb6.size; have hn6 := hnr.now hb6; have hr6 := hrr.now hb6; have b6 := bfrom hbr hb6; clear e0 e1; obtain ⟨e0, e1⟩ := (hn6.alloc (.cells #[.int .i64 x] 3)).cells; obtain ⟨y0, y1⟩ := hn6.cells)
                    | (at_builtin; refine wpList_append_own_at _ rfl _ _ _ rfl wr.heap.size 3 i0 _ 1 8 Try.underlying22 hi0 hz0 hz1 hz2 rfl (by decide) v6 k (cut L 0 k) rfl (ho6.alloc _) ⟨w6.heap.size, 0, none⟩ 1 1 [.int .i64 x] rfl rfl (lit_news (heap_alloc_new w6 (.cells #[.int .i64 x] 3))) (by simp [Value.oneCell']) (by unfold maxLen; omega) (by omega) (by simp; omega) ?_; intro v7 w7 ho7 hgrow7 hnil7 hat7; have hs7 := hgrow7.size; have hn7 := (hn6.alloc (.cells #[.int .i64 x] 3)).grown hgrow7 (owns_ne ho6 hnbl); have hr7 := (hr6.alloc (.cells #[.int .i64 x] 3)).grown hgrow7 (owns_ne ho6 (by omega)); have b7 := (b6.alloc b6.size (.cells #[.int .i64 x] 3)).grown hgrow7 (by have := b6.size; simp; omega) (fun i hi => by have := owns_le ho6 hi; have := hbr.size; omega); clear e0 e1 y0 y1; obtain ⟨e0, e1⟩ := hn7.cells)
                    | (at_builtin; (refine wpList_append_own_at _ rfl _ _ _ rfl wr.heap.size 3 i0 _ 1 8 Try.underlying22 hi0 hz0 hz1 hz2 rfl (by decide) v7 (k + 1) (cut L 0 k ++ [Value.int .i64 x]) rfl ho7 ⟨g, 0, none⟩ 0 0 [] rfl rfl (fun _ _ h => by simp at h) (fun _ h => by cases h) (by unfold maxLen; omega) (by omega) (by simp at hs7; omega) ?_; intro v8 w8 ho8 hgrow8 hnil8 hat8; have hn8 := hn7.grown hgrow8 (owns_ne ho7 hnbl); have hr8 := hr7.grown hgrow8 (owns_ne ho7 (by omega)); have b8 := b7.grown hgrow8 b7.size (fun i hi => by have := owns_le ho7 hi; have := hbr.size; omega); have hs8 := hgrow8.size; obtain ⟨B8, cp8, rfl⟩ := owns_slice ho8; clear e0 e1; obtain ⟨e0, e1⟩ := hn8.cells; have k2 := box_fr hn8)))
                  rw [List.append_nil] at ho8
                  have HN8 := Lib.hid (hn8.set1 (.slice B8 (k + 1) cp8))
                  have HO8 := Lib.hid (owns_sets1 (owns_less ho8 (show w5.heap.size ≤ wr.heap.size by omega)) (p := ⟨nb, 1, none⟩) (show nb < w5.heap.size by omega) (.slice B8 (k + 1) cp8))
                  have HR8 := Lib.hid (hr8.far (p := ⟨nb, 1, none⟩) hnbr (.slice B8 (k + 1) cp8))
                  have b9 := b8.setCell (p := ⟨nb, 1, none⟩) hnbw (.slice B8 (k + 1) cp8)
                  clear hn8 ho8 hr8 e0 e1 k2
                  go_roundw
                  case rel => exact ⟨k + 1, B8, cp8, by omega, by go_num, fun h => by omega, by rw [HST.out, ← HCE2.out]; exact HO8.out, HN8.out, HR8.out, (by show w5.heap.size ≤ (w8.setCell _ _).heap.size; simp at hs7 ⊢; omega), b9⟩
                  case measure => simp [intOf]; omega
      · obtain rfl : j = n := by omega
        obtain ⟨hkn', hhe⟩ := row_known hn1 (insAll_len ws j) HO.out
        have HHE := Lib.hid hhe
        obtain ⟨d0, d1⟩ := hrr.cells
        obtain ⟨f0, f1⟩ := KF.out _ hrr
        clear hkn' hhe
        go_wp2
        refine bodyPost_ret (v := .tuple #[.agg #[.int .i64 q, .slice B j cp], .bool true]) (by simp [results, Try.results33, go_sem, d0, d1]) rfl ?_
        exact ⟨_, _, rfl, held_far HHE.out (by omega) (by simp; omega) (by simp; omega), (hbr.setCell (by simp) _).setCell (by simp) _⟩
  · have HGB := Lib.hid (goodB_false hg)
    clear hg
    go_enter Try.func33, Try.ntmps33
    go_wp2_with fail
    refine (voGood_any q A n cap ws _ hm (HK.out.now hb0)).mono ?_
    rintro e w1 ⟨rfl, hb1⟩
    rw [HGB.out]
    have g1 := bfrom hb0 hb1
    have hr1 := hr.now hb1
    obtain ⟨c0, c1⟩ := hr1.cells
    obtain ⟨f0, f1⟩ := KF.out _ hr1
    clear hr hb0 hb1 hx
    go_wp2
    refine bodyPost_ret (v := .tuple #[.agg #[.int .i64 0, .slice none 0 0], .bool false]) (by simp [results, Try.results33, go_sem, c0, c1]) rfl ?_
    rw [srtQ_no HGB.out, dualN_no HGB.out, HGB.out]
    exact ⟨_, _, rfl, Or.inl ⟨rfl, rfl⟩, (g1.setCell (by simp) _).setCell (by simp) _⟩
end Go.Proofs.Ytkeiojfnjgjliaa
