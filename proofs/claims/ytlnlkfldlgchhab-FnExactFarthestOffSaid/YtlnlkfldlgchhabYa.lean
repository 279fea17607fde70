/- The model's distance of two shares, and the greatest one. -/
import Derived.Test.YtlnlkfldlgchhabY3
import Derived.Test.YtlnlkfldlgchhabZ14
import Derived.Test.YtlnlkfldlgchhabD1
import Derived.Deep.RegionHeld3
import Derived.Outline
namespace Go.Proofs.Ytlnlkfldlgchhab
open Go.RowKit Vo

theorem far2Y {w : World} {a g : Nat} {v x y : Value} {i j : Nat} (h : w.cell? ⟨a, i, none⟩ = some v) (hn : a ≠ g) : ((w.setCell ⟨g, 0, none⟩ x).setCell ⟨g, j, none⟩ y).cell? ⟨a, i, none⟩ = some v := by
  rw [← h]
  exact (cell_same (Below.heap_setCell _ _ _ _ hn) _).trans (cell_same (Below.heap_setCell _ _ _ _ hn) _)
set_option maxHeartbeats 1000000 in
theorem l1MostZ_any (a b : Int) (w : World) : Calls Try.prog 186 #[.int .i64 a, .int .i64 b] w fun e w' => e = .returned (.int .i64 (max a b)) ∧ w = w' := by
  by_cases h : b < a
  · have HM := Lib.hid (show max a b = a from by omega)
    go_enter Try.func186, Try.ntmps186
    go_wp2
    go_ret
    exact ⟨by rw [HM.out]; rfl, rfl⟩
  · have HM := Lib.hid (show max a b = b from by omega)
    have h2 : a ≤ b := by omega
    go_enter Try.func186, Try.ntmps186
    go_wp2
    go_ret
    exact ⟨by rw [HM.out]; rfl, rfl⟩
set_option maxHeartbeats 1000000 in
theorem l1Abs_any (a : Int) (w : World) (h : -4000000000000000000 ≤ a ∧ a ≤ 4000000000000000000) : Calls Try.prog 163 #[.int .i64 a] w fun e w' => e = .returned (.int .i64 (a.natAbs : Nat)) ∧ w = w' := by
  have HW := Lib.hid (show wrap64 (-a) = -a from IntWalk.wrap64_in _ (by omega))
  have HA := Lib.hid (show max a (-a) = (a.natAbs : Nat) from by omega)
  go_enter Try.func163, Try.ntmps163
  go_wp2_with fail
  try rw [HW.out]
  refine (l1MostZ_any a (-a) _).mono ?_
  rintro e w1 ⟨rfl, rfl⟩
  go_wp2
  go_ret
  exact ⟨by rw [HA.out]; rfl, rfl⟩

set_option maxRecDepth 20000 in
set_option maxHeartbeats 4000000 in
theorem shOff_any (a b c d : Nat) (w : World) (h1 : a * d ≤ 2000000000000000000) (h2 : c * b ≤ 2000000000000000000) (h3 : b * d ≤ 4000000000000000000) (h0 : 0 < b * d) :
    Calls Try.prog 125 #[.agg #[.int .i64 a, .int .i64 b], .agg #[.int .i64 c, .int .i64 d]] w fun e w' => e = .returned (.agg #[.int .i64 (share1 ((a : Int) * d - c * b).natAbs (b * d)).1, .int .i64 (share1 ((a : Int) * d - c * b).natAbs (b * d)).2]) ∧ Below w.heap.size w w' := by
  have hb0 : Below w.heap.size w (((w.alloc (.cells #[.int .i64 a, .int .i64 b] 45)).alloc (.cells #[.int .i64 c, .int .i64 d] 45)).alloc (.cells #[.int .i64 0, .int .i64 0] 45)) := ((below1 w _).alloc (by simp) _).alloc (by simp; omega) _
  have hx := ((BoxT.new 45 w (.int .i64 a) (.int .i64 b)).alloc (.cells #[.int .i64 c, .int .i64 d] 45)).alloc (.cells #[.int .i64 0, .int .i64 0] 45)
  have hy := (BoxT.new 45 (w.alloc (.cells #[.int .i64 a, .int .i64 b] 45)) (.int .i64 c) (.int .i64 d)).alloc (.cells #[.int .i64 0, .int .i64 0] 45)
  have hr := BoxT.new 45 ((w.alloc (.cells #[.int .i64 a, .int .i64 b] 45)).alloc (.cells #[.int .i64 c, .int .i64 d] 45)) (.int .i64 0) (.int .i64 0)
  simp only [World.size_alloc] at hy hr
  have e1 : (a : Int) * d = ((a * d : Nat) : Int) := by simp
  have e2 : (c : Int) * b = ((c * b : Nat) : Int) := by simp
  have e3 : (b : Int) * d = ((b * d : Nat) : Int) := by simp
  obtain ⟨X, hX⟩ : ∃ X, X = a * d := ⟨_, rfl⟩
  obtain ⟨Y, hY⟩ : ∃ Y, Y = c * b := ⟨_, rfl⟩
  obtain ⟨D, hD⟩ : ∃ D, D = b * d := ⟨_, rfl⟩
  rw [← hX] at e1 h1
  rw [← hY] at e2 h2
  rw [← hD] at e3 h3 h0 ⊢
  rw [e1, e2]
  have HX := Lib.hid (show IntKind.i64.wrap (IntKind.i64.wrap ((a : Int) * d) - IntKind.i64.wrap ((c : Int) * b)) = (X : Int) - Y from by rw [e1, e2, IntWalk.i64_in (X : Int) (by omega), IntWalk.i64_in (Y : Int) (by omega), IntWalk.i64_in _ (by omega)])
  have HD := Lib.hid (show IntKind.i64.wrap ((b : Int) * d) = D from by rw [e3, IntWalk.i64_in _ (by omega)])
  have HAB := Lib.hid (fun W => l1Abs_any ((X : Int) - Y) W (by omega))
  obtain ⟨Z, hZ⟩ : ∃ Z, Z = ((X : Int) - Y).natAbs := ⟨_, rfl⟩
  have hZb : Z < 4611686018427387904 := by omega
  rw [← hZ] at HAB ⊢
  have HPW := Lib.hid (fun W => pwShare_any Z D W h0 hZb (by omega))
  have HSH := Lib.hid (show share1 Z D = (((Z / Nat.gcd Z D : Nat) : Int), ((D / Nat.gcd Z D : Nat) : Int)) from rfl)
  obtain ⟨z1, hz1⟩ : ∃ z, z = Z / Nat.gcd Z D := ⟨_, rfl⟩
  obtain ⟨z2, hz2⟩ : ∃ z, z = D / Nat.gcd Z D := ⟨_, rfl⟩
  rw [← hz1, ← hz2] at HPW HSH
  rw [HSH.out]
  obtain ⟨w0, hw0⟩ : ∃ w0, w0 = ((w.alloc (.cells #[.int .i64 a, .int .i64 b] 45)).alloc (.cells #[.int .i64 c, .int .i64 d] 45)).alloc (.cells #[.int .i64 0, .int .i64 0] 45) := ⟨_, rfl⟩
  have hsz0 : w.heap.size + 3 ≤ w0.heap.size := by rw [hw0]; simp
  have K := Lib.hid (show ∀ W, Below w0.heap.size w0 W → (W.cell? ⟨w.heap.size, 0, none⟩ = some (.int .i64 a) ∧ W.cell? ⟨w.heap.size, 1, none⟩ = some (.int .i64 b) ∧ W.cell? ⟨w.heap.size + 1, 0, none⟩ = some (.int .i64 c) ∧ W.cell? ⟨w.heap.size + 1, 1, none⟩ = some (.int .i64 d) ∧ W.cell? ⟨w.heap.size + 1 + 1, 0, none⟩ = some (.int .i64 0) ∧ W.cell? ⟨w.heap.size + 1 + 1, 1, none⟩ = some (.int .i64 0) ∧ W.frozen? ⟨w.heap.size + 1 + 1, 0, none⟩ = false ∧ W.frozen? ⟨w.heap.size + 1 + 1, 1, none⟩ = false) from fun W hb => by
    rw [hw0] at hb
    exact ⟨(hx.now hb).cells.1, (hx.now hb).cells.2, (hy.now hb).cells.1, (hy.now hb).cells.2, (hr.now hb).cells.1, (hr.now hb).cells.2, by have h := hr.now hb; unfold BoxT at h; simp [World.frozen?, h], by have h := hr.now hb; unfold BoxT at h; simp [World.frozen?, h]⟩)
  have g0 : Below w.heap.size w w0 := by rw [hw0]; exact hb0
  have HG0 := Lib.hid g0
  obtain ⟨c0, c1, c2, c3, c4, c5, c6, c7⟩ := K.out _ (Below.refl _ _)
  clear hx hy hr hb0 e1 e2 e3 hX hY hD h1 h2 h3 hZ hz1 hz2 h0 hZb
  go_enter Try.func125, Try.ntmps125
  go_wp2_with fail
  rw [← hw0]
  clear hw0 g0
  go_region_held3 (fun w' => w'.cell? ⟨w.heap.size, 0, none⟩ = some (.int .i64 a) ∧ w'.cell? ⟨w.heap.size, 1, none⟩ = some (.int .i64 b) ∧ w'.cell? ⟨w.heap.size + 1, 0, none⟩ = some (.int .i64 c) ∧ w'.cell? ⟨w.heap.size + 1, 1, none⟩ = some (.int .i64 d) ∧ (w'.cell? ⟨w.heap.size + 1 + 1, 0, none⟩).isSome = true ∧ (w'.cell? ⟨w.heap.size + 1 + 1, 1, none⟩).isSome = true ∧ w'.frozen? ⟨w.heap.size + 1 + 1, 0, none⟩ = false ∧ w'.frozen? ⟨w.heap.size + 1 + 1, 1, none⟩ = false)
    (first | exact ⟨c0, c1, c2, c3, by rw [c4]; rfl, by rw [c5]; rfl, c6, c7⟩ | exact ⟨a0, a1, a2, a3, by rw [a4]; rfl, by rw [a5]; rfl, a6, a7⟩ | ((try dsimp only); (repeat' apply And.intro); all_goals (first | exact far2Y a0 (by simp; omega) | exact far2Y a1 (by simp; omega) | exact far2Y a2 (by simp) | exact far2Y a3 (by simp) | exact isSome_set (isSome_set (Option.isSome_iff_exists.2 ⟨_, a4⟩)) | exact isSome_set (isSome_set (Option.isSome_iff_exists.2 ⟨_, a5⟩)) | go_keep)) | go_keep)
    (first
      | (go_at_call 163; rw [HX.out]; refine (HAB.out _).mono ?_; rintro e w' ⟨rfl, rfl⟩)
      | (go_at_call 52; rw [HD.out]; refine (HPW.out _).mono ?_; rintro e wA ⟨rfl, hbA⟩; have gA := bfrom (Below.refl _ w0).drew hbA; obtain ⟨a0, a1, a2, a3, a4, a5, a6, a7⟩ := K.out _ gA))
  clear a0 a1 a2 a3 a6 a7 c0 c1 c2 c3 c4 c5 c6 c7
  go_wp2
  exact bodyPost_ret (v := .agg #[.int .i64 z1, .int .i64 z2]) (by simp [results, Try.results125, go_sem, a4, a5]) rfl ⟨rfl, ((bfrom HG0.out gA).setCell (by simp; try omega) _).setCell (by simp; try omega) _⟩
end Go.Proofs.Ytlnlkfldlgchhab
