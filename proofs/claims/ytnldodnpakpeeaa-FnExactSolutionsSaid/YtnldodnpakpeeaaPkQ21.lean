/- Texts of E4, LF. -/
import Derived.BigQuiet
import Derived.Test.YtnldodnpakpeeaaPkQ20
import Derived.Shelf.SlLaysF
import Derived.Ground.SlsfProg
import Derived.Test.YtnldodnpakpeeaaProg
namespace Go.Proofs.Ytnldodnpakpeeaa
open Go.RowKit Vo

/-- The key of a set as a value. -/
def keyV (s : Nat) : Value := .agg #[.int .i64 (keyAt s 0), .int .i64 (keyAt s 1), .int .i64 (keyAt s 2), .int .i64 (keyAt s 3), .int .i64 (keyAt s 4), .int .i64 (keyAt s 5), .int .i64 (keyAt s 6), .int .i64 (keyAt s 7), .int .i64 (keyAt s 8)]
/-- It laid new blocks and drew, no more. -/
def Grew (w w' : World) : Prop := Below w.heap.size w w' ∧ w.drawn ≤ w'.drawn
theorem Grew.trans {w w1 w2 : World} (h : Grew w w1) (k : Grew w1 w2) : Grew w w2 := ⟨bfrom h.1 k.1, Nat.le_trans h.2 k.2⟩
theorem Grew.refl (w : World) : Grew w w := ⟨Below.refl _ _, Nat.le_refl _⟩
theorem Grew.alloc (w : World) (o : Obj) : Grew w (w.alloc o) := ⟨below1 w o, Nat.le_refl _⟩
theorem setCell_drawn (w : World) (p : Addr) (u : Value) : (w.setCell p u).drawn = w.drawn := rfl
theorem Grew.setCell {w w' : World} (h : Grew w w') {p : Addr} (hp : w.heap.size ≤ p.block) (u : Value) : Grew w (w'.setCell p u) := ⟨h.1.setCell hp u, by rw [setCell_drawn]; exact h.2⟩
theorem Grew.drewN (w : World) (k : Nat) : Grew w (w.drewN k) := ⟨below_drewN (Below.refl _ _) _, Nat.le_add_right _ _⟩

theorem Own.nine {w : World} {g : Nat} {t : TypeId} {f : Nat → Value} (h : Own w g t 9 f) (v0 v1 v2 v3 v4 v5 v6 v7 v8 : Value) :
    Own (((((((((w.setCell ⟨g, 0, none⟩ v0).setCell ⟨g, 1, none⟩ v1).setCell ⟨g, 2, none⟩ v2).setCell ⟨g, 3, none⟩ v3).setCell ⟨g, 4, none⟩ v4).setCell ⟨g, 5, none⟩ v5).setCell ⟨g, 6, none⟩ v6).setCell ⟨g, 7, none⟩ v7).setCell ⟨g, 8, none⟩ v8) g t 9
      (fun i => match i with | 0 => v0 | 1 => v1 | 2 => v2 | 3 => v3 | 4 => v4 | 5 => v5 | 6 => v6 | 7 => v7 | _ => v8) :=
  (((((((((h.set 0 v0).set 1 v1).set 2 v2).set 3 v3).set 4 v4).set 5 v5).set 6 v6).set 7 v7).set 8 v8).congr fun i hi => by
    rcases i with _ | _ | _ | _ | _ | _ | _ | _ | _ | i
    all_goals first | rfl | omega

set_option maxRecDepth 20000 in
set_option maxHeartbeats 2000000 in
theorem key_any (s : Nat) (w : World) (hs : s < 512) :
    Calls Try.prog 126 #[.int .u64 s] w fun e w' => e = .returned (keyV s) ∧ Grew w w' := by
  obtain ⟨z9, hz9⟩ : ∃ z, z = Obj.cells #[.int .i64 0, .int .i64 0, .int .i64 0, .int .i64 0, .int .i64 0, .int .i64 0, .int .i64 0, .int .i64 0, .int .i64 0] 161 := ⟨_, rfl⟩
  have hzown : ∀ W : World, Own (W.alloc z9) W.heap.size 161 9 (fun _ => .int .i64 0) := fun W => ⟨_, by rw [hz9]; exact heap_alloc_new W _, by simp, fun i hi => by
    rcases i with _ | _ | _ | _ | _ | _ | _ | _ | _ | i
    all_goals first | rfl | omega⟩
  have HR0 := Lib.hid ((hzown w).alloc z9)
  have HX0 := Lib.hid (hzown (w.alloc z9))
  have h0 : Grew w ((w.alloc z9).alloc z9) := (Grew.alloc w z9).trans (Grew.alloc _ _)
  rw [hz9] at HR0 HX0 h0
  simp only [World.size_alloc] at HX0
  have hm9 := mem_len s 9
  obtain ⟨m, hm⟩ : ∃ m, m = (mem s 9).length := ⟨_, rfl⟩
  rw [← hm] at hm9
  have HM := Lib.hid hm
  have HKA := Lib.hid (show ∀ j, j < m → keyAt s j = (mem s 9).getD j 0 + 1 from fun j hj => by unfold keyAt pad; rw [if_pos (by rw [← hm]; exact hj)])
  have HKZ := Lib.hid (show ∀ j, m ≤ j → keyAt s j = 0 from fun j hj => by unfold keyAt pad; rw [if_neg (by rw [← hm]; omega)])
  have HBD := Lib.hid (fun j => keyAt_bd s j)
  clear hzown hz9 hm
  go_enter Try.func126, Try.ntmps126
  go_wp2_with fail
  refine (list_d s _ hs).mono ?_
  rintro e w1 ⟨⟨A, cap, rfl, hown, hb1⟩, hd1⟩
  rw [← HM.out] at hown ⊢
  have h1 : Grew w w1 := h0.trans ⟨hb1, hd1⟩
  have HR1 := Lib.hid (Own.below HR0.out hb1 HR0.out.lt)
  have HX1 := Lib.hid (Own.below HX0.out hb1 HX0.out.lt)
  have hz1 := hb1.size
  simp only [World.size_alloc] at hz1 hown
  have HO1 := Lib.hid hown
  have H1 := Lib.hid h1
  clear hown h1 hb1 hd1 h0
  go_wp2_with fail
  go_loopw [4, 5, 9] (fun _ _ i wr => ∃ k : Nat, k ≤ m ∧ i = .int .i64 k ∧ Own wr (w.heap.size + 1) 161 9 (fun j => .int .i64 (if j < k then keyAt s j else 0)) ∧ (∀ b, b < w1.heap.size → b ≠ w.heap.size + 1 → wr.heap[b]? = w1.heap[b]?) ∧ Grew w wr) (fun _ _ i _ => m - (intOf i).toNat)
  case atStart => exact ⟨0, Nat.zero_le _, rfl, HX1.out.congr fun i _ => by simp, fun _ _ _ => rfl, H1.out⟩
  case round =>
    obtain ⟨k, hk, rfl, hown, hsame, hg⟩ := hrel
    have HO := Lib.hid hown
    have HS := Lib.hid hsame
    have HG := Lib.hid hg
    clear hown hsame hg
    by_cases hlt : k < m
    · obtain ⟨g, cap', hv, hgb, _, _⟩ := owns_head HO1.out (by omega)
      obtain ⟨rfl, rfl⟩ : A = some ⟨g, 0, none⟩ ∧ cap = cap' := by simpa using hv
      have hOw : Own w1 g 3 m (fun i => .int .i64 ((mem s 9).getD i 0)) := Own.of_own HO1.out (fun i hi => by
        have : i < (mem s 9).length := by have := HM.out; omega
        simp [List.getD_eq_getElem?_getD, this])
      have hcell : wr.cell? ⟨g, k, none⟩ = some (.int .i64 (keyAt s k - 1)) := by
        have h2 : Own wr g 3 m (fun i => .int .i64 ((mem s 9).getD i 0)) := hOw.of_block (HS.out g hOw.lt (by omega))
        rw [h2.cell hlt, HKA.out k hlt]; congr 2; omega
      have hold := HO.out.cell (i := k) (by omega)
      have hfr := HO.out.frozen k
      have hbd := HBD.out k
      have hk9 : k < 9 := by omega
      have HST := Lib.hid (HO.out.set k (.int .i64 (keyAt s k)))
      have HE := Lib.hid (show ∃ y, y = keyAt s k from ⟨_, rfl⟩)
      obtain ⟨y, hy⟩ := HE.out
      rw [← hy] at hcell HST hbd
      have HY := Lib.hid hy
      clear hv hOw hy HE
      have hy1 : IntKind.i64.wrap (y - 1 + 1) = y := by rw [IntWalk.i64_in _ (by omega)]; omega
      go_wp2
      go_roundw
      case rel =>
        refine ⟨k + 1, by omega, by go_num, HST.out.congr fun i hi => ?_, fun b hb hne => (Below.heap_setCell _ _ _ b hne).trans (HS.out b hb hne), HG.out.setCell (by simp) _⟩
        by_cases e : i = k
        · subst e; rw [if_pos rfl, if_pos (by omega), HY.out]
        · rw [if_neg e]
          by_cases h : i < k
          · rw [if_pos h, if_pos (by omega)]
          · rw [if_neg h, if_neg (by omega)]
      case measure => simp [intOf]; omega
    · obtain rfl : k = m := by omega
      have hX : Own wr (w.heap.size + 1) 161 9 (fun j => .int .i64 (keyAt s j)) := HO.out.congr fun i hi => by
        by_cases h : i < k
        · rw [if_pos h]
        · rw [if_neg h, HKZ.out i (by omega)]
      have hR : Own wr w.heap.size 161 9 (fun _ => .int .i64 0) := HR1.out.of_block (HS.out _ HR1.out.lt (by omega))
      have x0 := hX.cell (i := 0) (by omega)
      have x1 := hX.cell (i := 1) (by omega)
      have x2 := hX.cell (i := 2) (by omega)
      have x3 := hX.cell (i := 3) (by omega)
      have x4 := hX.cell (i := 4) (by omega)
      have x5 := hX.cell (i := 5) (by omega)
      have x6 := hX.cell (i := 6) (by omega)
      have x7 := hX.cell (i := 7) (by omega)
      have x8 := hX.cell (i := 8) (by omega)
      have r0 := hR.cell (i := 0) (by omega)
      have r1 := hR.cell (i := 1) (by omega)
      have r2 := hR.cell (i := 2) (by omega)
      have r3 := hR.cell (i := 3) (by omega)
      have r4 := hR.cell (i := 4) (by omega)
      have r5 := hR.cell (i := 5) (by omega)
      have r6 := hR.cell (i := 6) (by omega)
      have r7 := hR.cell (i := 7) (by omega)
      have r8 := hR.cell (i := 8) (by omega)
      have f0 := hR.frozen 0
      have f1 := hR.frozen 1
      have f2 := hR.frozen 2
      have f3 := hR.frozen 3
      have f4 := hR.frozen 4
      have f5 := hR.frozen 5
      have f6 := hR.frozen 6
      have f7 := hR.frozen 7
      have f8 := hR.frozen 8
      have h9 := hR.nine (.int .i64 (keyAt s 0)) (.int .i64 (keyAt s 1)) (.int .i64 (keyAt s 2)) (.int .i64 (keyAt s 3)) (.int .i64 (keyAt s 4)) (.int .i64 (keyAt s 5)) (.int .i64 (keyAt s 6)) (.int .i64 (keyAt s 7)) (.int .i64 (keyAt s 8))
      have g9 : Grew w (((((((((wr.setCell ⟨w.heap.size, 0, none⟩ (.int .i64 (keyAt s 0))).setCell ⟨w.heap.size, 1, none⟩ (.int .i64 (keyAt s 1))).setCell ⟨w.heap.size, 2, none⟩ (.int .i64 (keyAt s 2))).setCell ⟨w.heap.size, 3, none⟩ (.int .i64 (keyAt s 3))).setCell ⟨w.heap.size, 4, none⟩ (.int .i64 (keyAt s 4))).setCell ⟨w.heap.size, 5, none⟩ (.int .i64 (keyAt s 5))).setCell ⟨w.heap.size, 6, none⟩ (.int .i64 (keyAt s 6))).setCell ⟨w.heap.size, 7, none⟩ (.int .i64 (keyAt s 7))).setCell ⟨w.heap.size, 8, none⟩ (.int .i64 (keyAt s 8))) := (((((((((HG.out.setCell (p := ⟨w.heap.size, 0, none⟩) (Nat.le_refl _) (.int .i64 (keyAt s 0))).setCell (p := ⟨w.heap.size, 1, none⟩) (Nat.le_refl _) (.int .i64 (keyAt s 1))).setCell (p := ⟨w.heap.size, 2, none⟩) (Nat.le_refl _) (.int .i64 (keyAt s 2))).setCell (p := ⟨w.heap.size, 3, none⟩) (Nat.le_refl _) (.int .i64 (keyAt s 3))).setCell (p := ⟨w.heap.size, 4, none⟩) (Nat.le_refl _) (.int .i64 (keyAt s 4))).setCell (p := ⟨w.heap.size, 5, none⟩) (Nat.le_refl _) (.int .i64 (keyAt s 5))).setCell (p := ⟨w.heap.size, 6, none⟩) (Nat.le_refl _) (.int .i64 (keyAt s 6))).setCell (p := ⟨w.heap.size, 7, none⟩) (Nat.le_refl _) (.int .i64 (keyAt s 7))).setCell (p := ⟨w.heap.size, 8, none⟩) (Nat.le_refl _) (.int .i64 (keyAt s 8)))
      have H9 := Lib.hid h9
      have G9 := Lib.hid g9
      clear hX hR h9 g9
      go_wp2
      generalize (((((((((wr.setCell ⟨w.heap.size, 0, none⟩ (.int .i64 (keyAt s 0))).setCell ⟨w.heap.size, 1, none⟩ (.int .i64 (keyAt s 1))).setCell ⟨w.heap.size, 2, none⟩ (.int .i64 (keyAt s 2))).setCell ⟨w.heap.size, 3, none⟩ (.int .i64 (keyAt s 3))).setCell ⟨w.heap.size, 4, none⟩ (.int .i64 (keyAt s 4))).setCell ⟨w.heap.size, 5, none⟩ (.int .i64 (keyAt s 5))).setCell ⟨w.heap.size, 6, none⟩ (.int .i64 (keyAt s 6))).setCell ⟨w.heap.size, 7, none⟩ (.int .i64 (keyAt s 7))).setCell ⟨w.heap.size, 8, none⟩ (.int .i64 (keyAt s 8))) = wf at H9 G9 ⊢
      have e0 := H9.out.cell (i := 0) (by omega)
      have e1 := H9.out.cell (i := 1) (by omega)
      have e2 := H9.out.cell (i := 2) (by omega)
      have e3 := H9.out.cell (i := 3) (by omega)
      have e4 := H9.out.cell (i := 4) (by omega)
      have e5 := H9.out.cell (i := 5) (by omega)
      have e6 := H9.out.cell (i := 6) (by omega)
      have e7 := H9.out.cell (i := 7) (by omega)
      have e8 := H9.out.cell (i := 8) (by omega)
      clear x0 x1 x2 x3 x4 x5 x6 x7 x8 r0 r1 r2 r3 r4 r5 r6 r7 r8 f0 f1 f2 f3 f4 f5 f6 f7 f8
      refine bodyPost_ret (v := keyV s) (by unfold keyV; simp [results, Try.results126, go_sem, e0, e1, e2, e3, e4, e5, e6, e7, e8]) rfl ⟨rfl, G9.out⟩
end Go.Proofs.Ytnldodnpakpeeaa

namespace Go.Proofs.Ytnldodnpakpeeaa
open Go.RowKit Vo

def cmpZ (x y : Int) : Int := if x < y then -1 else if y < x then 1 else 0
theorem cmpZ_lt {x y : Int} (h : x < y) : cmpZ x y = -1 := if_pos h
theorem cmpZ_gt {x y : Int} (h : y < x) : cmpZ x y = 1 := by unfold cmpZ; rw [if_neg (by omega), if_pos h]
theorem cmpZ_eq (x : Int) : cmpZ x x = 0 := by unfold cmpZ; rw [if_neg (by omega), if_neg (by omega)]

set_option maxHeartbeats 1000000 in
theorem isNaN_any (x : Int) (w : World) : Calls Try.prog 195 #[.int .i64 x] w fun e w' => e = .returned (.bool false) ∧ w = w' := by
  go_enter Try.func195, Try.ntmps195
  go_wp2
  go_ret
  exact ⟨by simp, rfl⟩
set_option maxHeartbeats 1000000 in
theorem cmpCompare_any (x y : Int) (w : World) : Calls Try.prog 166 #[.int .i64 x, .int .i64 y] w fun e w' => e = .returned (.int .i64 (cmpZ x y)) ∧ w = w' := by
  rcases Int.lt_trichotomy x y with h | h | h
  · have HC := Lib.hid (cmpZ_lt h)
    go_enter Try.func166, Try.ntmps166
    go_wp2_with (go_at_call 195; refine (isNaN_any _ _).mono ?_; rintro e w' ⟨rfl, rfl⟩)
    go_ret
    exact ⟨by rw [HC.out]; rfl, rfl⟩
  · subst h
    have HC := Lib.hid (cmpZ_eq x)
    go_enter Try.func166, Try.ntmps166
    go_wp2_with (go_at_call 195; refine (isNaN_any _ _).mono ?_; rintro e w' ⟨rfl, rfl⟩)
    go_ret
    exact ⟨by rw [HC.out]; rfl, rfl⟩
  · have HC := Lib.hid (cmpZ_gt h)
    have h2 : ¬ x < y := by omega
    go_enter Try.func166, Try.ntmps166
    go_wp2_with (go_at_call 195; refine (isNaN_any _ _).mono ?_; rintro e w' ⟨rfl, rfl⟩)
    go_ret
    exact ⟨by rw [HC.out]; rfl, rfl⟩

set_option maxRecDepth 20000 in
set_option maxHeartbeats 2000000 in
theorem slicesCompare_any (s t g g2 : Nat) (ty ty2 : TypeId) (w : World) (hs : Own w g ty 9 (fun j => .int .i64 (keyAt s j))) (ht : Own w g2 ty2 9 (fun j => .int .i64 (keyAt t j))) :
    Calls Try.prog 127 #[.slice (some ⟨g, 0, none⟩) 9 9, .slice (some ⟨g2, 0, none⟩) 9 9] w fun e w' => e = .returned (.int .i64 (ordC s t)) ∧ w = w' := by
  have HS := Lib.hid hs
  have HT := Lib.hid ht
  clear hs ht
  go_enter Try.func127, Try.ntmps127
  go_wp2_with fail
  go_loop [5, 6, 7, 8, 11] (fun _ _ _ _ i => ∃ k : Nat, k ≤ 9 ∧ i = .int .i64 k ∧ ∀ j, j < k → keyAt s j = keyAt t j) (fun _ _ _ _ i => 9 - (intOf i).toNat)
  case atStart => exact ⟨0, by omega, rfl, fun j hj => by omega⟩
  case round =>
    obtain ⟨k, hk, rfl, hp⟩ := hrel
    have HP := Lib.hid hp
    clear hp
    by_cases hlt : k < 9
    · have h1 := HS.out.cell hlt
      have h2 := HT.out.cell hlt
      have hlt' : (k : Int) < 9 := by omega
      have hnge : ¬ (9 : Int) ≤ k := by omega
      rcases Int.lt_trichotomy (keyAt s k) (keyAt t k) with h | h | h
      · have HC := Lib.hid (cmpZ_lt h)
        have HO := Lib.hid (ordC_lt HP.out h)
        clear h
        generalize keyAt s k = x at *
        generalize keyAt t k = y at *
        go_wp2_with (go_at_call 166; refine (cmpCompare_any _ _ _).mono ?_; rintro e w' ⟨rfl, rfl⟩; rw [HC.out])
        go_ret
        exact ⟨by rw [HO.out]; rfl, rfl⟩
      · have HP2 := Lib.hid (show ∀ j, j < k + 1 → keyAt s j = keyAt t j from fun j hj => by
          by_cases e : j = k
          · subst e; exact h
          · exact HP.out j (by omega))
        rw [h] at h1
        have HC := Lib.hid (cmpZ_eq (keyAt t k))
        clear h
        generalize keyAt t k = y at *
        go_wp2_with (go_at_call 166; refine (cmpCompare_any _ _ _).mono ?_; rintro e w' ⟨rfl, rfl⟩; rw [HC.out])
        go_round
        case rel => exact ⟨k + 1, by omega, by go_num, HP2.out⟩
        case measure => simp [intOf]; omega
      · have HC := Lib.hid (cmpZ_gt h)
        have HO := Lib.hid (ordC_gt HP.out h)
        clear h
        generalize keyAt s k = x at *
        generalize keyAt t k = y at *
        go_wp2_with (go_at_call 166; refine (cmpCompare_any _ _ _).mono ?_; rintro e w' ⟨rfl, rfl⟩; rw [HC.out])
        go_ret
        exact ⟨by rw [HO.out]; rfl, rfl⟩
    · obtain rfl : k = 9 := by omega
      have HO := Lib.hid (ordC_eq HP.out)
      go_wp2
      go_ret
      exact ⟨by rw [HO.out]; rfl, rfl⟩

theorem sliceAll (g : Nat) (W : World) : (Instr.sliceAt 161 (.pointer (some ⟨g, 0, none⟩)) none none none).run Try.prog W = .ok (.slice (some ⟨g, 0, none⟩) 9 9) W := by
  kernel_rfl

set_option maxRecDepth 20000 in
set_option maxHeartbeats 2000000 in
theorem compareSets_any (s t : Nat) (w : World) (hs : s < 512) (ht : t < 512) :
    Calls Try.prog 77 #[.int .u64 s, .int .u64 t] w fun e w' => e = .returned (.int .i64 (ordC s t)) ∧ Grew w w' := by
  go_enter Try.func77, Try.ntmps77
  go_wp2_with fail
  refine (key_any s _ hs).mono ?_
  rintro e w1 ⟨rfl, h1⟩
  have H1 := Lib.hid h1
  clear h1
  go_wp2_with fail
  refine (key_any t _ ht).mono ?_
  rintro e w2 ⟨rfl, h2⟩
  have H2 := Lib.hid (H1.out.trans h2)
  clear h2
  unfold keyV
  go_wp2_with fail
  have hS : Own ((w2.alloc (Obj.cells #[.int .i64 (keyAt s 0), .int .i64 (keyAt s 1), .int .i64 (keyAt s 2), .int .i64 (keyAt s 3), .int .i64 (keyAt s 4), .int .i64 (keyAt s 5), .int .i64 (keyAt s 6), .int .i64 (keyAt s 7), .int .i64 (keyAt s 8)] 161)).alloc (Obj.cells #[.int .i64 (keyAt t 0), .int .i64 (keyAt t 1), .int .i64 (keyAt t 2), .int .i64 (keyAt t 3), .int .i64 (keyAt t 4), .int .i64 (keyAt t 5), .int .i64 (keyAt t 6), .int .i64 (keyAt t 7), .int .i64 (keyAt t 8)] 161)) w2.heap.size 161 9 (fun j => .int .i64 (keyAt s j)) := Own.alloc ⟨_, heap_alloc_new w2 _, by simp, fun i hi => by
    rcases i with _ | _ | _ | _ | _ | _ | _ | _ | _ | i
    all_goals first | rfl | omega⟩ _
  have hT : Own ((w2.alloc (Obj.cells #[.int .i64 (keyAt s 0), .int .i64 (keyAt s 1), .int .i64 (keyAt s 2), .int .i64 (keyAt s 3), .int .i64 (keyAt s 4), .int .i64 (keyAt s 5), .int .i64 (keyAt s 6), .int .i64 (keyAt s 7), .int .i64 (keyAt s 8)] 161)).alloc (Obj.cells #[.int .i64 (keyAt t 0), .int .i64 (keyAt t 1), .int .i64 (keyAt t 2), .int .i64 (keyAt t 3), .int .i64 (keyAt t 4), .int .i64 (keyAt t 5), .int .i64 (keyAt t 6), .int .i64 (keyAt t 7), .int .i64 (keyAt t 8)] 161)) (w2.heap.size + 1) 161 9 (fun j => .int .i64 (keyAt t j)) := by
    have h := heap_alloc_new (w2.alloc (Obj.cells #[.int .i64 (keyAt s 0), .int .i64 (keyAt s 1), .int .i64 (keyAt s 2), .int .i64 (keyAt s 3), .int .i64 (keyAt s 4), .int .i64 (keyAt s 5), .int .i64 (keyAt s 6), .int .i64 (keyAt s 7), .int .i64 (keyAt s 8)] 161)) (Obj.cells #[.int .i64 (keyAt t 0), .int .i64 (keyAt t 1), .int .i64 (keyAt t 2), .int .i64 (keyAt t 3), .int .i64 (keyAt t 4), .int .i64 (keyAt t 5), .int .i64 (keyAt t 6), .int .i64 (keyAt t 7), .int .i64 (keyAt t 8)] 161)
    simp only [World.size_alloc] at h
    exact ⟨_, h, by simp, fun i hi => by
      rcases i with _ | _ | _ | _ | _ | _ | _ | _ | _ | i
      all_goals first | rfl | omega⟩
  have hG : Grew w ((w2.alloc (Obj.cells #[.int .i64 (keyAt s 0), .int .i64 (keyAt s 1), .int .i64 (keyAt s 2), .int .i64 (keyAt s 3), .int .i64 (keyAt s 4), .int .i64 (keyAt s 5), .int .i64 (keyAt s 6), .int .i64 (keyAt s 7), .int .i64 (keyAt s 8)] 161)).alloc (Obj.cells #[.int .i64 (keyAt t 0), .int .i64 (keyAt t 1), .int .i64 (keyAt t 2), .int .i64 (keyAt t 3), .int .i64 (keyAt t 4), .int .i64 (keyAt t 5), .int .i64 (keyAt t 6), .int .i64 (keyAt t 7), .int .i64 (keyAt t 8)] 161)) := H2.out.trans ((Grew.alloc _ _).trans (Grew.alloc _ _))
  have HS := Lib.hid hS
  have HT := Lib.hid hT
  have HG := Lib.hid hG
  clear hS hT hG
  generalize ((w2.alloc (Obj.cells #[.int .i64 (keyAt s 0), .int .i64 (keyAt s 1), .int .i64 (keyAt s 2), .int .i64 (keyAt s 3), .int .i64 (keyAt s 4), .int .i64 (keyAt s 5), .int .i64 (keyAt s 6), .int .i64 (keyAt s 7), .int .i64 (keyAt s 8)] 161)).alloc (Obj.cells #[.int .i64 (keyAt t 0), .int .i64 (keyAt t 1), .int .i64 (keyAt t 2), .int .i64 (keyAt t 3), .int .i64 (keyAt t 4), .int .i64 (keyAt t 5), .int .i64 (keyAt t 6), .int .i64 (keyAt t 7), .int .i64 (keyAt t 8)] 161)) = w3 at HS HT HG ⊢
  obtain ⟨g, hg⟩ : ∃ g, g = w2.heap.size := ⟨_, rfl⟩
  rw [← hg] at HS HT ⊢
  have h0 := HS.out.cell (i := 0) (by omega)
  have h1 := HT.out.cell (i := 0) (by omega)
  clear hg
  have hsl := sliceAll g
  have HSn := Lib.hid (show ∀ n, Own (w3.drewN n) g 161 9 (fun j => .int .i64 (keyAt s j)) from fun n => HS.out)
  have HTn := Lib.hid (show ∀ n, Own (w3.drewN n) (g + 1) 161 9 (fun j => .int .i64 (keyAt t j)) from fun n => HT.out)
  have hsl2 := sliceAll (g + 1)
  go_quiet ((go_at_call 127; exact Calls.quiet_of_same ((slicesCompare_any s t g (g + 1) _ _ _ (HSn.out _) (HTn.out _)).mono fun _ _ h => ⟨h.1, h.2.symm⟩)))
  go_wp2
  go_ret
  exact ⟨rfl, HG.out.trans (Grew.drewN _ _)⟩
end Go.Proofs.Ytnldodnpakpeeaa

namespace Go.Proofs.Ytnldodnpakpeeaa
open Go.Shelf
def Try.sortL_ren : Go.Shelf.Ren := ⟨fun | 6 => 193 | 15 => 212 | 14 => 211 | 28 => 233 | 29 => 234 | 20 => 225 | 21 => 226 | 22 => 227 | 23 => 228 | 24 => 229 | 25 => 230 | 26 => 231 | 27 => 232 | 46 => 240 | 47 => 241 | 48 => 242 | 49 => 243 | 50 => 244 | 57 => 248 | n => n, fun | 22 => 93 | 24 => 107 | 25 => 108 | 3 => 3 | 39 => 106 | 0 => 0 | 53 => 241 | 55 => 243 | 4 => 4 | 46 => 246 | 45 => 245 | 50 => 250 | 5 => 5 | 9 => 9 | 66 => 254 | 70 => 258 | 76 => 260 | 77 => 261 | n => n, fun | n => n⟩
theorem Try.sortL : Go.Proofs.SlLaysF.n6 Try.prog Try.sortL_ren := {
  mixed := by kernel_rfl
  f6 := ⟨Try.f193.name, by decide, Try.func193.trans (congrArg some (by kernel_rfl))⟩
  f14 := ⟨Try.f211.name, by decide, Try.func211.trans (congrArg some (by kernel_rfl))⟩
  f15 := Try.func212.trans (congrArg some (by kernel_rfl))
  f20 := ⟨Try.f225.name, by decide, Try.func225.trans (congrArg some (by kernel_rfl))⟩
  f21 := ⟨Try.f226.name, by decide, Try.func226.trans (congrArg some (by kernel_rfl))⟩
  f22 := ⟨Try.f227.name, by decide, Try.func227.trans (congrArg some (by kernel_rfl))⟩
  f23 := ⟨Try.f228.name, by decide, Try.func228.trans (congrArg some (by kernel_rfl))⟩
  f24 := ⟨Try.f229.name, by decide, Try.func229.trans (congrArg some (by kernel_rfl))⟩
  f25 := ⟨Try.f230.name, by decide, Try.func230.trans (congrArg some (by kernel_rfl))⟩
  f26 := ⟨Try.f231.name, by decide, Try.func231.trans (congrArg some (by kernel_rfl))⟩
  f27 := ⟨Try.f232.name, by decide, Try.func232.trans (congrArg some (by kernel_rfl))⟩
  f28 := Try.func233.trans (congrArg some (by kernel_rfl))
  f29 := Try.func234.trans (congrArg some (by kernel_rfl))
  f46 := ⟨Try.f240.name, by decide, Try.func240.trans (congrArg some (by kernel_rfl))⟩
  f47 := Try.func241.trans (congrArg some (by kernel_rfl))
  f48 := Try.func242.trans (congrArg some (by kernel_rfl))
  f49 := ⟨Try.f243.name, by decide, Try.func243.trans (congrArg some (by kernel_rfl))⟩
  f50 := ⟨Try.f244.name, by decide, Try.func244.trans (congrArg some (by kernel_rfl))⟩
  f57 := ⟨Try.f248.name, by decide, Try.func248.trans (congrArg some (by kernel_rfl))⟩
  t0 := Try.underlying0
  a0 := Try.isAgg0
  z0 := Try.sizeOf0
  v0 := Try.zeroValue0
  t3 := Try.underlying3
  a3 := Try.isAgg3
  z3 := Try.sizeOf3
  v3 := Try.zeroValue3
  t4 := Try.underlying4
  a4 := Try.isAgg4
  z4 := Try.sizeOf4
  v4 := Try.zeroValue4
  t5 := Try.underlying5
  a5 := Try.isAgg5
  z5 := Try.sizeOf5
  v5 := Try.zeroValue5
  t9 := Try.underlying9
  a9 := Try.isAgg9
  z9 := Try.sizeOf9
  v9 := Try.zeroValue9
  t22 := Try.underlying93
  a22 := Try.isAgg93
  z22 := Try.sizeOf93
  v22 := Try.zeroValue93
  a24 := Try.isAgg107
  z24 := Try.sizeOf107
  t25 := Try.underlying108
  a25 := Try.isAgg108
  z25 := Try.sizeOf108
  v25 := Try.zeroValue108
  t39 := Try.underlying106
  a39 := Try.isAgg106
  z39 := Try.sizeOf106
  v39 := Try.zeroValue106
  t45 := Try.underlying245
  a45 := Try.isAgg245
  z45 := Try.sizeOf245
  v45 := Try.zeroValue245
  t46 := Try.underlying246
  a46 := Try.isAgg246
  z46 := Try.sizeOf246
  v46 := Try.zeroValue246
  t50 := Try.underlying250
  a50 := Try.isAgg250
  z50 := Try.sizeOf250
  v50 := Try.zeroValue250
  t53 := Try.underlying241
  a53 := Try.isAgg241
  z53 := Try.sizeOf241
  v53 := Try.zeroValue241
  t55 := Try.underlying243
  a55 := Try.isAgg243
  z55 := Try.sizeOf243
  v55 := Try.zeroValue243
  t66 := Try.underlying254
  a66 := Try.isAgg254
  z66 := Try.sizeOf254
  v66 := Try.zeroValue254
  t70 := Try.underlying258
  a70 := Try.isAgg258
  z70 := Try.sizeOf258
  v70 := Try.zeroValue258
  t76 := Try.underlying260
  a76 := Try.isAgg260
  z76 := Try.sizeOf260
  v76 := Try.zeroValue260
  t77 := Try.underlying261
  a77 := Try.isAgg261
  z77 := Try.sizeOf261
  v77 := Try.zeroValue261 }
end Go.Proofs.Ytnldodnpakpeeaa
