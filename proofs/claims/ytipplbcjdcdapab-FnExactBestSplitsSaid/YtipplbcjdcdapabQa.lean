/- Contracts of the model's unPart, unSplit. -/
import Derived.Test.YtipplbcjdcdapabPs
import Derived.Test.YtipplbcjdcdapabPq
import Derived.Test.YtipplbcjdcdapabPo
import Derived.Outline
namespace Go.Proofs.Ytipplbcjdcdapab
open Go.RowKit Vo

theorem lit2_news (w : World) (x y : Int) : ∀ j u, [Value.int .i64 x, Value.int .i64 y][j]? = some u → (w.alloc (.cells #[.int .i64 x, .int .i64 y] 3)).cell? ((⟨w.heap.size, 0, none⟩ : Addr).add j) = some u := by
  intro j u hu
  have h := (BoxT.new 3 w (.int .i64 x) (.int .i64 y)).cells
  rcases j with _ | _ | j
  · simp at hu; subst hu; exact h.1
  · simp at hu; subst hu; exact h.2
  · simp at hu
set_option maxHeartbeats 1000000 in
theorem unPart_any (q : Int) (A : Option Addr) (n cap : Nat) (ws : List Int) (x y : Int) (w : World) (hm : n ≤ 9223372036854775807) (hk : Known w A n ws) :
    Calls Try.prog 42 #[.agg #[.int .i64 q, .slice A n cap], .int .i64 x, .int .i64 y] w fun e w' => e = .returned (.bool (splitOk q ws n x y)) ∧ Below w.heap.size w w' := by
  have HK := Lib.hid hk
  clear hk
  have hx := Box.new w (.int .i64 q) (.slice A n cap)
  have hb0 := below1 w (.cells #[.int .i64 q, .slice A n cap] 41)
  have HV := Lib.hid (show splitOk q ws n x y = (memOk q ws n x && inB y 0 (ws.getD x.toNat 0) && decide (n < 9)) from rfl)
  cases h1 : memOk q ws n x with
  | false =>
    have HM := Lib.hid h1
    clear h1
    go_enter Try.func42, Try.ntmps42
    go_wp2_with fail
    refine (pwMember_any q A n cap ws x _ hm (HK.out.now hb0)).mono ?_
    rintro e w1 ⟨rfl, hb⟩
    rw [HM.out]
    go_wp2
    go_ret
    exact ⟨by rw [HV.out, HM.out]; rfl, bfrom hb0 hb⟩
  | true =>
    have HM := Lib.hid h1
    obtain ⟨hg, hx0, hxn⟩ := memOk_parts h1
    obtain ⟨b, off, rfl, hsl⟩ := HK.out.get hg.lo
    have HSL := Lib.hid hsl
    obtain ⟨i, rfl⟩ : ∃ i : Nat, x = i := ⟨x.toNat, by omega⟩
    have hi : i < n := by omega
    rw [Int.toNat_natCast] at HV
    obtain ⟨v, hv⟩ : ∃ v, v = ws.getD i 0 := ⟨_, rfl⟩
    rw [← hv] at HV
    have HVV := Lib.hid hv
    clear h1 hg hsl hv
    cases h2 : inB y 0 v with
    | false =>
      have HI := Lib.hid h2
      clear h2
      go_enter Try.func42, Try.ntmps42
      go_wp2_with fail
      refine (pwMember_any q _ n cap ws i _ hm (HK.out.now hb0)).mono ?_
      rintro e w1 ⟨rfl, hb⟩
      rw [HM.out]
      obtain ⟨c0, c1⟩ := (hx.now hb).cells
      have hci : w1.cell? ⟨b, off + i, none⟩ = some (.int .i64 v) := by rw [HVV.out]; exact ((HSL.out.now hb0).now hb).cell i hi
      go_wp2_with (go_at_call 62; refine (l1In_any y 0 v _).mono ?_; rintro e w2 ⟨rfl, rfl⟩; rw [HI.out])
      go_ret
      exact ⟨by rw [HV.out, HM.out, HI.out]; rfl, bfrom hb0 hb⟩
    | true =>
      have HI := Lib.hid h2
      clear h2
      go_enter Try.func42, Try.ntmps42
      go_wp2_with fail
      refine (pwMember_any q _ n cap ws i _ hm (HK.out.now hb0)).mono ?_
      rintro e w1 ⟨rfl, hb⟩
      rw [HM.out]
      obtain ⟨c0, c1⟩ := (hx.now hb).cells
      have hci : w1.cell? ⟨b, off + i, none⟩ = some (.int .i64 v) := by rw [HVV.out]; exact ((HSL.out.now hb0).now hb).cell i hi
      go_wp2_with (go_at_call 62; refine (l1In_any y 0 v _).mono ?_; rintro e w2 ⟨rfl, rfl⟩; rw [HI.out])
      go_ret
      exact ⟨by rw [HV.out, HM.out, HI.out]; simp; omega, bfrom hb0 hb⟩

set_option maxRecDepth 20000 in
set_option maxHeartbeats 8000000 in
theorem unSplit_any (q : Int) (b off n k : Nat) (ws : List Int) (y : Int) (w : World) (hk : k < n) (hg : Vo.Good q ws n) (hy0 : 0 ≤ y) (hy1 : y ≤ ws.getD k 0) (hsl : Sl w b off n ws) :
    Calls Try.prog 44 #[.agg #[.int .i64 q, .slice (some ⟨b, off, none⟩) n n], .int .i64 k, .int .i64 y] w fun e w' => ComV q (n + 1) (splitL ws n k y) w w' e := by
  have HSL := Lib.hid hsl
  have hn9 := hg.hi
  have hn1 := hg.lo
  have hbk := hg.ok k hk
  have HCE := Lib.hid (splitL_cells ws n k y)
  have HLEN := Lib.hid (splitL_len (ws := ws) (x := y) hk)
  obtain ⟨v, hv⟩ : ∃ v, v = ws.getD k 0 := ⟨_, rfl⟩
  have HV := Lib.hid hv
  rw [← hv] at hy1 hbk HCE
  obtain ⟨i0, hi0, hz0, hz1, hz2⟩ := infoIntParts
  clear hsl hg hv
  have hb0 : Below w.heap.size w ((w.alloc (.cells #[.int .i64 q, .slice (some ⟨b, off, none⟩) n n] 41)).alloc (.cells #[.int .i64 0, .slice none 0 0] 41)) := (below1 w _).alloc (by simp) _
  have hx1 := (Box.new w (.int .i64 q) (.slice (some ⟨b, off, none⟩) n n)).alloc (.cells #[.int .i64 0, .slice none 0 0] 41)
  have hr1 := Box.new (w.alloc (.cells #[.int .i64 q, .slice (some ⟨b, off, none⟩) n n] 41)) (.int .i64 0) (.slice none 0 0)
  simp only [World.size_alloc] at hr1
  obtain ⟨w1, hw1⟩ : ∃ w1, w1 = ((w.alloc (.cells #[.int .i64 q, .slice (some ⟨b, off, none⟩) n n] 41)).alloc (.cells #[.int .i64 0, .slice none 0 0] 41)) := ⟨_, rfl⟩
  rw [← hw1] at hb0 hx1 hr1
  have HW1 := Lib.hid hw1
  clear hw1
  have hs1 := Lib.hid (HSL.out.now hb0)
  have hxl := hx1.lt
  have hrl := hr1.lt
  have KF := Lib.hid (show ∀ W, BoxT 41 W (w.heap.size + 1) (.int .i64 0) (.slice none 0 0) → (W.frozen? ⟨w.heap.size + 1, 0, none⟩ = false ∧ W.frozen? ⟨w.heap.size + 1, 1, none⟩ = false) from fun W h => frozen2 h)
  have HINT := Lib.hid (show ∀ (W : World) (base : Nat) (B : Option Addr) (cp : Nat), W.ownsRow base 3 1 (.slice B (n + 1) cp) (n + 1) ((splitL ws n k y).map (Value.int .i64)) → ∃ gg, B = some ⟨gg, 0, none⟩ ∧ base ≤ gg ∧ Ints W gg (n + 1) (splitL ws n k y) from fun W base B cp h => by
    obtain ⟨gg, c', hv, hgb, _, _⟩ := owns_head h (by omega)
    obtain ⟨rfl, rfl⟩ : B = some ⟨gg, 0, none⟩ ∧ cp = c' := by simpa using hv
    exact ⟨gg, rfl, hgb, Own.of_own h fun i hi => by
      have : i < (splitL ws n k y).length := by rw [HLEN.out]; exact hi
      simp [List.getD_eq_getElem?_getD, this]⟩)
  have hkn' : (k : Int) < n := by omega
  have hkn2 : (k : Int) ≤ n := by omega
  have hkn3 : (k : Int) + 1 ≤ n := by omega
  have hk0 : (0 : Int) ≤ (k : Int) + 1 := by omega
  have hwk : IntKind.i64.wrap ((k : Int) + 1) = (k : Int) + 1 := IntWalk.i64_in _ (by omega)
  have hwt : ((k : Int) + 1).toNat = k + 1 := by omega
  have hwv : IntKind.i64.wrap (v - y) = v - y := IntWalk.i64_in _ (by omega)
  go_enter Try.func44, Try.ntmps44
  go_wp2_with fail
  rw [← HW1.out]
  have HBE := Lib.hid (show w1.heap.size + 1 ≤ ((w1.alloc (.cells #[.int .i64 0, .slice none 0 0] 41)).drew).heap.size from by show w1.heap.size + 1 ≤ (w1.alloc (.cells #[.int .i64 0, .slice none 0 0] 41)).heap.size; simp)
  obtain ⟨c0, c1⟩ := hx1.cells
  go_region_held3 (fun w' => w'.cell? ⟨w.heap.size, 0, none⟩ = some (.int .i64 q) ∧ w'.cell? ⟨w.heap.size, 1, none⟩ = some (.slice (some ⟨b, off, none⟩) n n))
    (first | with_reducible exact ⟨c0, c1⟩ | with_reducible exact ⟨k0, k1⟩ | with_reducible exact (hx1.drew.alloc _).cells | with_reducible exact (hx1.alloc _).cells | with_reducible exact (hx4.alloc _).cells | with_reducible exact ((hx4.far (p := ⟨w1.heap.size, 0, none⟩) (show w.heap.size ≠ w1.heap.size by omega) _).far (p := ⟨w1.heap.size, 1, none⟩) (show w.heap.size ≠ w1.heap.size by omega) _).cells | go_keep)
    (first
      | (go_at_call 74; (with_reducible refine (l1Own_row b off n k n ws w1.drew hn9 (Nat.le_of_lt hk) hs1.out.drew).mono ?_); rintro e w4 ⟨v4, rfl, hown4, hb4⟩; obtain ⟨B, cp, rfl⟩ := owns_slice hown4; have hx4 := hx1.drew.now hb4; have hr4 := hr1.drew.now hb4; have g4 := bfrom hb0.drew hb4; have hz4 : w1.heap.size ≤ w4.heap.size := hb4.size; have hbe : w1.heap.size ≤ w1.drew.heap.size := Nat.le_refl _; have hn4 : True := trivial; obtain ⟨k0, k1⟩ := hx4.cells)
      | (go_at_call 74; (with_reducible refine (l1Own_row b off n k n ws (w1.alloc (.cells #[.int .i64 0, .slice none 0 0] 41)).drew hn9 (Nat.le_of_lt hk) (hs1.out.alloc _).drew).mono ?_); rintro e w4 ⟨v4, rfl, hown4, hb4⟩; obtain ⟨B, cp, rfl⟩ := owns_slice hown4; have hx4 := (hx1.alloc _).drew.now hb4; have hr4 := (hr1.alloc _).drew.now hb4; have g4 := bfrom (hb0.alloc hb0.size _).drew hb4; have hz4 : w1.heap.size ≤ w4.heap.size := Nat.le_trans (Nat.le_of_succ_le HBE.out) hb4.size; have hbe : w1.heap.size + 1 ≤ ((w1.alloc (.cells #[.int .i64 0, .slice none 0 0] 41)).drew).heap.size := HBE.out; have hn4 := (show BoxT 41 w4 w1.heap.size (.int .i64 0) (.slice none 0 0) from (Box.new w1 (.int .i64 0) (.slice none 0 0)).drew.now hb4); obtain ⟨p0, p1⟩ := hn4.cells; obtain ⟨q0, q1⟩ := frozen2 hn4; obtain ⟨k0, k1⟩ := hx4.cells)
      | fail)
  all_goals (first
    | (have hb9 := Box.new w4 (.int .i64 q) (.slice B k cp)
       have hr9 := hr4.alloc (.cells #[.int .i64 q, .slice B k cp] 41)
       have hx9 := hx4.alloc (.cells #[.int .i64 q, .slice B k cp] 41)
       have ho9 := (owns_less hown4 hbe).alloc (.cells #[.int .i64 q, .slice B k cp] 41)
       have g9 := g4.alloc g4.size (.cells #[.int .i64 q, .slice B k cp] 41)
       have hnon9 : ∀ j, Value.ownBlock (.slice B k cp) = some j → j ≠ w4.heap.size := fun j hj => Nat.ne_of_lt (owns_lt hown4 hj)
       have hrn : w.heap.size + 1 ≠ w4.heap.size := Nat.ne_of_lt hr4.lt
       have hwn : w.heap.size ≤ w4.heap.size := g4.size
       have hxn : w.heap.size ≠ w4.heap.size := Nat.ne_of_lt hx4.lt
       have hz9 : w1.heap.size ≤ (w4.alloc (.cells #[.int .i64 q, .slice B k cp] 41)).heap.size := by simp; omega
       obtain ⟨W9, hW9⟩ : ∃ W9, W9 = w4.alloc (.cells #[.int .i64 q, .slice B k cp] 41) := ⟨_, rfl⟩
       rw [← hW9] at hb9 hr9 hx9 ho9 g9 hz9 ⊢
       clear hW9
       obtain ⟨nb, hnb⟩ : ∃ nb, nb = w4.heap.size := ⟨_, rfl⟩
       rw [← hnb] at hb9 hrn hwn hxn hnon9 ⊢
       clear hnb)
    | (have hb9 := box_put2 (show BoxT 41 w4 w1.heap.size (.int .i64 0) (.slice none 0 0) from hn4) (.int .i64 q) (.slice B k cp)
       have hrn : w.heap.size + 1 ≠ w1.heap.size := Nat.ne_of_lt hrl
       have hr9 := (hr4.far (p := ⟨w1.heap.size, 0, none⟩) hrn (.int .i64 q)).far (p := ⟨w1.heap.size, 1, none⟩) hrn (.slice B k cp)
       have hx9 := (hx4.far (p := ⟨w1.heap.size, 0, none⟩) (Nat.ne_of_lt hxl) (.int .i64 q)).far (p := ⟨w1.heap.size, 1, none⟩) (Nat.ne_of_lt hxl) (.slice B k cp)
       have hnon9 : ∀ j, Value.ownBlock (.slice B k cp) = some j → j ≠ w1.heap.size := fun j hj => Nat.ne_of_gt (Nat.lt_of_lt_of_le (Nat.lt_succ_self _) (Nat.le_trans hbe (owns_le hown4 hj)))
       have ho9 := owns_less (owns_sets hown4 (nb := w1.heap.size) hnon9 (.int .i64 q) (.slice B k cp)) (Nat.le_trans (Nat.le_succ _) hbe)
       have hwn : w.heap.size ≤ w1.heap.size := hb0.size
       have hxn : w.heap.size ≠ w1.heap.size := Nat.ne_of_lt hxl
       have g9 := (g4.setCell (p := ⟨w1.heap.size, 0, none⟩) hwn (.int .i64 q)).setCell (p := ⟨w1.heap.size, 1, none⟩) hwn (.slice B k cp)
       have hz9 : w1.heap.size ≤ ((w4.setCell ⟨w1.heap.size, 0, none⟩ (.int .i64 q)).setCell ⟨w1.heap.size, 1, none⟩ (.slice B k cp)).heap.size := by simp; omega
       obtain ⟨W9, hW9⟩ : ∃ W9, W9 = (w4.setCell ⟨w1.heap.size, 0, none⟩ (.int .i64 q)).setCell ⟨w1.heap.size, 1, none⟩ (.slice B k cp) := ⟨_, rfl⟩
       rw [← hW9] at hb9 hr9 hx9 ho9 g9 hz9 ⊢
       clear hW9
       obtain ⟨nb, hnb⟩ : ∃ nb, nb = w1.heap.size := ⟨_, rfl⟩
       rw [← hnb] at hb9 hrn hwn hxn hnon9 ⊢
       clear hnb))
  all_goals
    have HO9 := Lib.hid ho9
    clear hx4 hr4 g4 hown4 hbe hn4 hb4 k0 k1 c0 c1 ho9 hz4
    obtain ⟨c0, c1⟩ := hx9.cells
    obtain ⟨n0, n1⟩ := hb9.cells
    have hfr9 := box_fr hb9
    have hci : W9.cell? ⟨b, off + k, none⟩ = some (.int .i64 v) := by rw [HV.out]; exact (HSL.out.now g9).cell k hk
    obtain ⟨l0, l1⟩ := (hb9.alloc (.cells #[.int .i64 y, .int .i64 (v - y)] 3)).cells
    obtain ⟨l2, l3⟩ := (hx9.alloc (.cells #[.int .i64 y, .int .i64 (v - y)] 3)).cells
    have hci2 : (W9.alloc (.cells #[.int .i64 y, .int .i64 (v - y)] 3)).cell? ⟨b, off + k, none⟩ = some (.int .i64 v) := by rw [HV.out]; exact ((HSL.out.now g9).alloc _).cell k hk
    have hfr2 := box_fr (hb9.alloc (.cells #[.int .i64 y, .int .i64 (v - y)] 3))
    have HNW := Lib.hid (lit2_news W9 y (v - y))
    have HNC := Lib.hid (show ∀ u ∈ [Value.int .i64 y, Value.int .i64 (v - y)], u.oneCell' = true from by intro u hu; simp at hu; rcases hu with rfl | rfl <;> rfl)
    have HSZ := Lib.hid (show w1.heap.size ≤ (W9.alloc (.cells #[.int .i64 y, .int .i64 (v - y)] 3)).heap.size from by rw [World.size_alloc]; omega)
    go_wp2_with fail
    go_region_law (first
      | (refine step_append_at _ (by rfl) _ _ _ (by rfl) _ 3 i0 (.int .i64 0) 1 8 Try.underlying26 hi0 hz0 hz1 hz2 rfl (by omega) (.slice B k cp) k (cut ws 0 k) (by rfl) (World.ownsRow.drew (HO9.out.alloc _)) ⟨W9.heap.size, 0, none⟩ 2 2 [.int .i64 y, .int .i64 (v - y)] (by rfl) (by rfl) HNW.out HNC.out (by unfold maxLen; omega) (by omega) HSZ.out ?_; intro B2 cp2 w7 hown7 hgrow7 hob7; have hn7 := ((hb9.alloc (.cells #[.int .i64 y, .int .i64 (v - y)] 3)).drew).grown hgrow7 (fun e => hnon9 _ e.symm rfl); obtain ⟨k0, k1⟩ := hn7.cells; have k2 := box_fr hn7)
      | fail)
    all_goals
      have hx7 := ((hx9.alloc (.cells #[.int .i64 y, .int .i64 (v - y)] 3)).drew).grown hgrow7 (owns_ne HO9.out hxl)
      have hr7 := ((hr9.alloc (.cells #[.int .i64 y, .int .i64 (v - y)] 3)).drew).grown hgrow7 (owns_ne HO9.out hrl)
      have g7 := ((g9.alloc g9.size (.cells #[.int .i64 y, .int .i64 (v - y)] 3)).drew).grown hgrow7 (g9.alloc g9.size (.cells #[.int .i64 y, .int .i64 (v - y)] 3)).size (fun j hj => by have := owns_le HO9.out hj; omega)
      have hnon7 : ∀ j, Value.ownBlock (.slice B2 (k + 2) cp2) = some j → j ≠ nb := fun j hj => by
        rcases hob7 with ho | ho
        · exact hnon9 j (ho.symm.trans hj)
        · have h1 := hj.symm.trans ho
          have h2 : j = (W9.alloc (.cells #[.int .i64 y, .int .i64 (v - y)] 3)).heap.size := Option.some.inj h1
          have h3 := hb9.lt
          rw [World.size_alloc] at h2
          omega
      have hb10 := hn7.set1 (.slice B2 (k + 2) cp2)
      have hx10 := hx7.far (p := ⟨nb, 1, none⟩) hxn (.slice B2 (k + 2) cp2)
      have hr10 := hr7.far (p := ⟨nb, 1, none⟩) hrn (.slice B2 (k + 2) cp2)
      have ho10 := owns_set1 hown7 (p := ⟨nb, 1, none⟩) hnon7 (.slice B2 (k + 2) cp2)
      have g10 := g7.setCell (p := ⟨nb, 1, none⟩) hwn (.slice B2 (k + 2) cp2)
      have hz10 : w1.heap.size ≤ (w7.setCell ⟨nb, 1, none⟩ (.slice B2 (k + 2) cp2)).heap.size := by
        have h1 := hgrow7.size
        have h2 : (W9.alloc (.cells #[.int .i64 y, .int .i64 (v - y)] 3)).heap.size ≤ w7.heap.size := h1
        rw [World.size_alloc] at h2
        simp
        omega
      obtain ⟨W10, hW10⟩ : ∃ W10, W10 = w7.setCell ⟨nb, 1, none⟩ (.slice B2 (k + 2) cp2) := ⟨_, rfl⟩
      rw [← hW10] at hb10 hx10 hr10 ho10 g10 hz10 ⊢
      have HO10 := Lib.hid ho10
      have HNON := Lib.hid hnon7
      have HSL10 := Lib.hid (HSL.out.now g10)
      clear hW10 hx7 hr7 g7 hnon7 hown7 hgrow7 hob7 hn7 k0 k1 k2 l0 l1 l2 l3 hci hci2 hfr2 hfr9 HNW HNC HSZ n0 n1 c0 c1 ho10
      obtain ⟨c0, c1⟩ := hx10.cells
      obtain ⟨n0, n1⟩ := hb10.cells
      have hfr10 := box_fr hb10
      rcases Nat.lt_or_ge (k + 1) n with hkl | hkl
      · have hkl' : (k : Int) + 1 < n := by omega
        have hnk : ¬ (n = k + 1) := by omega
        have HCE2 := Lib.hid (show cut ws 0 k ++ [Value.int .i64 y, Value.int .i64 (v - y)] ++ cut ws (k+1) (n - (k+1)) = (splitL ws n k y).map (Value.int .i64) from HCE.out)
        have HTL := Lib.hid (show ∀ j u, (cut ws (k+1) (n - (k+1)))[j]? = some u → W10.drew.cell? ((⟨b, off + (k+1), none⟩ : Addr).add j) = some u from cut_cells HSL10.out (by omega) _ rfl)
        go_wp2_with fail
        go_region_law (first
          | (refine step_append_at _ (by rfl) _ _ _ (by rfl) _ 3 i0 (.int .i64 0) 1 8 Try.underlying26 hi0 hz0 hz1 hz2 rfl (by omega) (.slice B2 (k + 2) cp2) (k + 2) (cut ws 0 k ++ [Value.int .i64 y, Value.int .i64 (v - y)]) (by rfl) (World.ownsRow.drew HO10.out) ⟨b, off + (k + 1), none⟩ (n - (k + 1)) (n - (k + 1)) (cut ws (k+1) (n - (k + 1))) (by rfl) (by simp [cut_len]) HTL.out (cut_one _ _ _) (by unfold maxLen; omega) (by omega) hz10 ?_; intro B3 cp3 w11 hown11 hgrow11 hob11; have hn11 := hb10.drew.grown hgrow11 (fun e => HNON.out _ e.symm rfl); obtain ⟨k0, k1⟩ := hn11.cells; have k2 := box_fr hn11)
          | fail)
        all_goals
          have hr11 := hr10.drew.grown hgrow11 (owns_ne HO10.out hrl)
          have g11 := g10.drew.grown hgrow11 g10.size (fun j hj => by have := owns_le HO10.out hj; omega)
          have hnon11 : ∀ j, Value.ownBlock (.slice B3 (k + 2 + (n - (k + 1))) cp3) = some j → j ≠ nb := fun j hj => by
            rcases hob11 with ho | ho
            · exact HNON.out j (ho.symm.trans hj)
            · have h1 := hj.symm.trans ho
              have h2 : j = W10.heap.size := Option.some.inj h1
              have h3 := hb10.lt
              omega
          have hr12 := hr11.far (p := ⟨nb, 1, none⟩) hrn (.slice B3 (k + 2 + (n - (k + 1))) cp3)
          have HB12 := hn11.set1 (.slice B3 (k + 2 + (n - (k + 1))) cp3)
          have ho12 := owns_set1 hown11 (p := ⟨nb, 1, none⟩) hnon11 (.slice B3 (k + 2 + (n - (k + 1))) cp3)
          have g12 := g11.setCell (p := ⟨nb, 1, none⟩) hwn (.slice B3 (k + 2 + (n - (k + 1))) cp3)
          have hmm : k + 2 + (n - (k + 1)) = n + 1 := by omega
          rw [hmm] at hr12 HB12 ho12 g12
          rw [HCE2.out] at ho12
          simp only [hmm]
          obtain ⟨gg, rfl, hgg, hI12⟩ := HINT.out _ _ _ _ ho12
          have HI12 := Lib.hid hI12
          obtain ⟨e0, e1⟩ := HB12.cells
          obtain ⟨d0, d1⟩ := hr12.cells
          obtain ⟨f0, f1⟩ := KF.out _ hr12
          clear k0 k1 k2 hn11 hgrow11 hr11 hown11 hob11 hnon11 ho12 hI12 n0 n1 c0 c1 g11
          go_wp2
          refine bodyPost_ret (v := .agg #[.int .i64 q, .slice (some ⟨gg, 0, none⟩) (n + 1) cp3]) (by simp [results, Try.results44, go_sem, d0, d1]) rfl ?_
          have hgr : gg ≠ w.heap.size + 1 := by omega
          exact ⟨gg, cp3, rfl, by omega, (HI12.out.far (by simpa using hgr) _).far (by simpa using hgr) _, (g12.setCell (by simp) _).setCell (by simp) _⟩
      · have HCE3 := HCE
        obtain rfl : n = k + 1 := by omega
        have hkA : (k : Int) ≤ (k : Int) + 1 := by omega
        have hkB : (k : Int) + 1 ≤ (k : Int) + 1 := by omega
        have hkC : (k : Int) < (k : Int) + 1 := by omega
        have HCE2 := Lib.hid (show cut ws 0 k ++ [Value.int .i64 y, Value.int .i64 (v - y)] ++ cut ws (k+1) 0 = (splitL ws (k+1) k y).map (Value.int .i64) from by have h := HCE.out; rwa [Nat.sub_self] at h)
        have HTL := Lib.hid (show ∀ j u, (cut ws (k+1) 0)[j]? = some u → W10.drew.cell? ((⟨b, off, none⟩ : Addr).add j) = some u from fun j u hu => by simp [cut] at hu)
        go_wp2_with fail
        go_region_law (first
          | (refine step_append_at _ (by rfl) _ _ _ (by rfl) _ 3 i0 (.int .i64 0) 1 8 Try.underlying26 hi0 hz0 hz1 hz2 rfl (by omega) (.slice B2 (k + 2) cp2) (k + 2) (cut ws 0 k ++ [Value.int .i64 y, Value.int .i64 (v - y)]) (by rfl) (World.ownsRow.drew HO10.out) ⟨b, off, none⟩ (0) (0) (cut ws (k+1) (0)) (by rfl) (by simp [cut_len]) HTL.out (cut_one _ _ _) (by unfold maxLen; omega) (by omega) hz10 ?_; intro B3 cp3 w11 hown11 hgrow11 hob11; have hn11 := hb10.drew.grown hgrow11 (fun e => HNON.out _ e.symm rfl); obtain ⟨k0, k1⟩ := hn11.cells; have k2 := box_fr hn11)
          | fail)
        all_goals
          have hr11 := hr10.drew.grown hgrow11 (owns_ne HO10.out hrl)
          have g11 := g10.drew.grown hgrow11 g10.size (fun j hj => by have := owns_le HO10.out hj; omega)
          have hnon11 : ∀ j, Value.ownBlock (.slice B3 (k + 2 + (0)) cp3) = some j → j ≠ nb := fun j hj => by
            rcases hob11 with ho | ho
            · exact HNON.out j (ho.symm.trans hj)
            · have h1 := hj.symm.trans ho
              have h2 : j = W10.heap.size := Option.some.inj h1
              have h3 := hb10.lt
              omega
          have hr12 := hr11.far (p := ⟨nb, 1, none⟩) hrn (.slice B3 (k + 2 + (0)) cp3)
          have HB12 := hn11.set1 (.slice B3 (k + 2 + (0)) cp3)
          have ho12 := owns_set1 hown11 (p := ⟨nb, 1, none⟩) hnon11 (.slice B3 (k + 2 + (0)) cp3)
          have g12 := g11.setCell (p := ⟨nb, 1, none⟩) hwn (.slice B3 (k + 2 + (0)) cp3)
          have hmm : k + 2 + (0) = k + 1 + 1 := by omega
          rw [hmm] at hr12 HB12 ho12 g12
          rw [HCE2.out] at ho12
          simp only [hmm]
          obtain ⟨gg, rfl, hgg, hI12⟩ := HINT.out _ _ _ _ ho12
          have HI12 := Lib.hid hI12
          obtain ⟨e0, e1⟩ := HB12.cells
          obtain ⟨d0, d1⟩ := hr12.cells
          obtain ⟨f0, f1⟩ := KF.out _ hr12
          clear k0 k1 k2 hn11 hgrow11 hr11 hown11 hob11 hnon11 ho12 hI12 n0 n1 c0 c1 g11
          go_wp2
          refine bodyPost_ret (v := .agg #[.int .i64 q, .slice (some ⟨gg, 0, none⟩) (k + 1 + 1) cp3]) (by simp [results, Try.results44, go_sem, d0, d1]) rfl ?_
          have hgr : gg ≠ w.heap.size + 1 := by omega
          exact ⟨gg, cp3, rfl, by omega, (HI12.out.far (by simpa using hgr) _).far (by simpa using hgr) _, (g12.setCell (by simp) _).setCell (by simp) _⟩
end Go.Proofs.Ytipplbcjdcdapab
