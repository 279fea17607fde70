/- Contract of the program's AddShares; the walk of its law. -/
import Derived.Test.YtgodohfhhedifabQ4
import Derived.Test.YtgodohfhhedifabK2
import Derived.Shelf.Abstract
import Derived.Outline
namespace Go.Proofs.Ytgodohfhhedifab
open Go.RowKit Vo

set_option maxHeartbeats 4000000 in
theorem addShares_any (x y u v : Int) (w : World) :
    Calls Try.prog 48 #[.agg #[.int .i64 x, .int .i64 y], .agg #[.int .i64 u, .int .i64 v]] w fun e w' => ShR (addRX x y u v) (addRY x y u v) (addOk x y u v) w w' e := by
  have eg : ∀ args W, (callFunc 84 args).run Try.prog W = .ok (.enter 84 args) W := enters_of Try.func84 (by kernel_rfl) rfl
  obtain ⟨W5, hW5⟩ : ∃ W5, W5 = ((((w.alloc (.cells #[.int .i64 x, .int .i64 y] 54)).alloc (.cells #[.int .i64 u, .int .i64 v] 54)).alloc (.cells #[.int .i64 0, .int .i64 0] 54)).alloc (.cells #[.int .i64 0, .int .i64 1] 54)).alloc (.cells #[.int .i64 x, .int .i64 y, .int .i64 u, .int .i64 v] 54) := ⟨_, rfl⟩
  have hc := ((BoxT.new 54 ((w.alloc (.cells #[.int .i64 x, .int .i64 y] 54)).alloc (.cells #[.int .i64 u, .int .i64 v] 54)) (.int .i64 0) (.int .i64 0)).alloc (.cells #[.int .i64 0, .int .i64 1] 54)).alloc (.cells #[.int .i64 x, .int .i64 y, .int .i64 u, .int .i64 v] 54)
  have hs := (BoxT.new 54 (((w.alloc (.cells #[.int .i64 x, .int .i64 y] 54)).alloc (.cells #[.int .i64 u, .int .i64 v] 54)).alloc (.cells #[.int .i64 0, .int .i64 0] 54)) (.int .i64 0) (.int .i64 1)).alloc (.cells #[.int .i64 x, .int .i64 y, .int .i64 u, .int .i64 v] 54)
  have hb0 : Below w.heap.size w (((((w.alloc (.cells #[.int .i64 x, .int .i64 y] 54)).alloc (.cells #[.int .i64 u, .int .i64 v] 54)).alloc (.cells #[.int .i64 0, .int .i64 0] 54)).alloc (.cells #[.int .i64 0, .int .i64 1] 54)).alloc (.cells #[.int .i64 x, .int .i64 y, .int .i64 u, .int .i64 v] 54)) :=
    ((((below1 w _).alloc (by simp) _).alloc (by simp; omega) _).alloc (by simp; omega) _).alloc (by simp; omega) _
  have hg : Own W5 (w.heap.size + 4) 54 4 (fun i => .int .i64 (if i % 2 = 0 then eX x u (i / 2) else eY y v (i / 2))) := by
    refine ⟨#[.int .i64 x, .int .i64 y, .int .i64 u, .int .i64 v], ?_, by simp, fun i hi => ?_⟩
    · rw [hW5]
      have := heap_alloc_new ((((w.alloc (.cells #[.int .i64 x, .int .i64 y] 54)).alloc (.cells #[.int .i64 u, .int .i64 v] 54)).alloc (.cells #[.int .i64 0, .int .i64 0] 54)).alloc (.cells #[.int .i64 0, .int .i64 1] 54)) (.cells #[.int .i64 x, .int .i64 y, .int .i64 u, .int .i64 v] 54)
      simpa using this
    · have : i = 0 ∨ i = 1 ∨ i = 2 ∨ i = 3 := by omega
      rcases this with rfl | rfl | rfl | rfl <;> rfl
  simp only [World.size_alloc] at hc hs
  rw [← hW5] at hc hs hb0
  have HW5 := Lib.hid hW5
  have HADD := Lib.hid (add1_any x y u v (w.heap.size + 4) (w.heap.size + 1 + 1 + 1) 2 W5 hg hs (by omega))
  clear hW5 hg
  cases hok : addOk x y u v
  · have HO := Lib.hid hok
    have HZ := Lib.hid (addR_no hok)
    clear hok
    go_enter Try.func48, Try.ntmps48
    go_wp2_with (go_at_fn 84; rw [← HW5.out]; refine HADD.out.mono ?_; rw [HO.out]; rintro e w1 ⟨rfl, hsum, hgr⟩; have hc1 := hc.grown hgr (by intro e; injection e with e; omega); obtain ⟨c0, c1⟩ := hc1.cells; obtain ⟨f0, f1⟩ := frozen2 hc1)
    have g1 := hb0.grown hgr hb0.size (fun k hk => by injection hk with hk; omega)
    refine bodyPost_ret (v := .tuple #[.agg #[.int .i64 0, .int .i64 0], .bool false]) (by simp [results, Try.results48, go_sem, c0, c1]) rfl ?_
    rw [HZ.out.1, HZ.out.2]
    exact ⟨rfl, (g1.setCell (by dsimp only; omega) _).setCell (by dsimp only; omega) _⟩
  · have HO := Lib.hid hok
    have HZ := Lib.hid (addR_yes hok)
    clear hok
    go_enter Try.func48, Try.ntmps48
    go_wp2_with (go_at_fn 84; rw [← HW5.out]; refine HADD.out.mono ?_; rw [HO.out]; rintro e w1 ⟨rfl, hsum, hgr⟩; have hc1 := hc.grown hgr (by intro e; injection e with e; omega); obtain ⟨c0, c1⟩ := hc1.cells; obtain ⟨f0, f1⟩ := frozen2 hc1; have hp1 := hsum rfl; obtain ⟨p0, p1⟩ := hp1.cells)
    have g1 := hb0.grown hgr hb0.size (fun k hk => by injection hk with hk; omega)
    refine bodyPost_ret (v := .tuple #[.agg #[.int .i64 (addX x y u v), .int .i64 (addY x y u v)], .bool true]) (by simp [results, Try.results48, go_sem, c0, c1]) rfl ?_
    rw [HZ.out.1, HZ.out.2]
    exact ⟨rfl, (g1.setCell (by dsimp only; omega) _).setCell (by dsimp only; omega) _⟩
theorem bfrom2 {B : Nat} {w w1 w2 : World} (h : Below B w w1) (k : Below w1.heap.size w1 w2) (hB : B ≤ w.heap.size := by first | exact Nat.le_refl _ | assumption) : Below B w w2 := h.trans (k.mono (Nat.le_trans hB h.size))

/-- The same world. -/
structure Q5eq (W1 W : World) : Prop where
  out : W1 = W
theorem pack_set {t : TypeId} {B g : Nat} {a w : World} (h : BoxT t w g (.int .i64 0) (.int .i64 0)) (hb : Below B a w) (hg : B ≤ g) (p r : Int) :
    ∃ W1, Q5eq W1 ((w.setCell ⟨g, 0, none⟩ (.int .i64 p)).setCell ⟨g, 1, none⟩ (.int .i64 r)) ∧ BoxT t W1 g (.int .i64 p) (.int .i64 r) ∧ Below B a W1 :=
  ⟨_, ⟨rfl⟩, h.set2 _ _, (hb.setCell (p := ⟨g, 0, none⟩) hg _).setCell (p := ⟨g, 1, none⟩) hg _⟩
theorem pack_new {B : Nat} {a w : World} (hb : Below B a w) (p r : Int) (hB : B ≤ a.heap.size := by exact Nat.le_refl _) :
    ∃ W1, Q5eq W1 (w.alloc (.cells #[.int .i64 p, .int .i64 r] 54)) ∧ BoxT 54 W1 w.heap.size (.int .i64 p) (.int .i64 r) ∧ Below B a W1 :=
  ⟨_, ⟨rfl⟩, BoxT.new _ w _ _, hb.alloc (Nat.le_trans hB hb.size) _⟩

set_option maxHeartbeats 40000000 in
theorem lawAddShares (x y u v : Int) (w : World) :
    Calls Try.prog 13 #[.agg #[.int .i64 x, .int .i64 y], .agg #[.int .i64 u, .int .i64 v]] w fun e w' => e = .returned (.bool true) ∧ Below w.heap.size w w' := by
  have hb0 : Below w.heap.size w ((w.alloc (.cells #[.int .i64 x, .int .i64 y] 52)).alloc (.cells #[.int .i64 u, .int .i64 v] 52)) := (below1 w _).alloc (by simp) _
  have ha := (BoxT.new 52 w (.int .i64 x) (.int .i64 y)).alloc (.cells #[.int .i64 u, .int .i64 v] 52)
  have hb := BoxT.new 52 (w.alloc (.cells #[.int .i64 x, .int .i64 y] 52)) (.int .i64 u) (.int .i64 v)
  simp only [World.size_alloc] at hb
  obtain ⟨W0, hW0⟩ : ∃ W0, W0 = (w.alloc (.cells #[.int .i64 x, .int .i64 y] 52)).alloc (.cells #[.int .i64 u, .int .i64 v] 52) := ⟨_, rfl⟩
  rw [← hW0] at hb0 ha hb
  have HW0 := Lib.hid hW0
  clear hW0
  have K := Lib.hid (show ∀ W, Below W0.heap.size W0 W → (W.cell? ⟨w.heap.size, 0, none⟩ = some (.int .i64 x) ∧ W.cell? ⟨w.heap.size, 1, none⟩ = some (.int .i64 y) ∧ W.cell? ⟨w.heap.size + 1, 0, none⟩ = some (.int .i64 u) ∧ W.cell? ⟨w.heap.size + 1, 1, none⟩ = some (.int .i64 v)) from fun W h => ⟨(ha.now h).cells.1, (ha.now h).cells.2, (hb.now h).cells.1, (hb.now h).cells.2⟩)
  obtain ⟨p, hp⟩ : ∃ p, p = addRX x y u v := ⟨_, rfl⟩
  obtain ⟨r, hr⟩ : ∃ r, r = addRY x y u v := ⟨_, rfl⟩
  obtain ⟨ok, hok⟩ : ∃ ok, ok = addOk x y u v := ⟨_, rfl⟩
  have HP := Lib.hid hp
  have HR := Lib.hid hr
  have HO := Lib.hid hok
  clear ha hb hp hr hok
  go_enter Try.func13, Try.ntmps13
  go_wp2_with fail
  rw [← HW0.out]
  have cur : Below W0.heap.size W0 W0.drew := (Below.refl _ _).drew
  obtain ⟨c0, c1, c2, c3⟩ := K.out _ (Below.refl _ W0)
  go_region_held3 (fun w' => w'.cell? ⟨w.heap.size, 0, none⟩ = some (.int .i64 x) ∧ w'.cell? ⟨w.heap.size, 1, none⟩ = some (.int .i64 y) ∧ w'.cell? ⟨w.heap.size + 1, 0, none⟩ = some (.int .i64 u) ∧ w'.cell? ⟨w.heap.size + 1, 1, none⟩ = some (.int .i64 v))
    (first | exact K.out _ cur | exact K.out _ ((Below.refl _ W0).alloc (Nat.le_refl _) (.cells #[.int .i64 0, .int .i64 0] 54)).drew | exact K.out _ (cur.alloc cur.size _) | exact K.out _ ((cur.setCell bge _).setCell bge _) | go_keep)
    (first
      | (go_at_call 45; (with_reducible refine (toShare_any x y _).mono ?_); rintro e wA ⟨rfl, hb⟩; (first | (have cur := bfrom2 cur hb; (first | (have bx := bx.now hb; obtain ⟨q0, q1⟩ := bx.cells; obtain ⟨z0, z1⟩ := frozen2 bx) | skip)) | (have bge := cur.size; have bx := (BoxT.new 54 _ (.int .i64 0) (.int .i64 0)).now hb; have cur := bfrom2 (cur.alloc (Nat.le_trans (by first | exact Nat.le_refl _ | assumption) cur.size) _) hb; obtain ⟨q0, q1⟩ := bx.cells; obtain ⟨z0, z1⟩ := frozen2 bx) | (have bge := Nat.le_refl W0.heap.size; have bx := (BoxT.new 54 W0 (.int .i64 0) (.int .i64 0)).drew.now hb; have cur := bfrom2 ((Below.refl _ W0).alloc (Nat.le_refl _) (.cells #[.int .i64 0, .int .i64 0] 54)).drew hb; obtain ⟨q0, q1⟩ := bx.cells; obtain ⟨z0, z1⟩ := frozen2 bx)); clear hb)
      | (go_at_call 45; (with_reducible refine (toShare_any u v _).mono ?_); rintro e wB ⟨rfl, hb⟩; (first | (have cur := bfrom2 cur hb; (first | (have bx := bx.now hb; obtain ⟨q0, q1⟩ := bx.cells; obtain ⟨z0, z1⟩ := frozen2 bx) | skip)) | (have bge := cur.size; have bx := (BoxT.new 54 _ (.int .i64 0) (.int .i64 0)).now hb; have cur := bfrom2 (cur.alloc (Nat.le_trans (by first | exact Nat.le_refl _ | assumption) cur.size) _) hb; obtain ⟨q0, q1⟩ := bx.cells; obtain ⟨z0, z1⟩ := frozen2 bx) | (have bge := Nat.le_refl W0.heap.size; have bx := (BoxT.new 54 W0 (.int .i64 0) (.int .i64 0)).drew.now hb; have cur := bfrom2 ((Below.refl _ W0).alloc (Nat.le_refl _) (.cells #[.int .i64 0, .int .i64 0] 54)).drew hb; obtain ⟨q0, q1⟩ := bx.cells; obtain ⟨z0, z1⟩ := frozen2 bx)); clear hb)
      | (go_at_call 47; (with_reducible refine (sAddShares_any x y u v _).mono ?_); rw [← HP.out, ← HR.out, ← HO.out]; rintro e wC ⟨rfl, hb⟩; (first | (have cur := bfrom2 cur hb; (first | (have bx := bx.now hb; obtain ⟨q0, q1⟩ := bx.cells; obtain ⟨z0, z1⟩ := frozen2 bx) | skip)) | (have bge := cur.size; have bx := (BoxT.new 54 _ (.int .i64 0) (.int .i64 0)).now hb; have cur := bfrom2 (cur.alloc (Nat.le_trans (by first | exact Nat.le_refl _ | assumption) cur.size) _) hb; obtain ⟨q0, q1⟩ := bx.cells; obtain ⟨z0, z1⟩ := frozen2 bx) | (have bge := Nat.le_refl W0.heap.size; have bx := (BoxT.new 54 W0 (.int .i64 0) (.int .i64 0)).drew.now hb; have cur := bfrom2 ((Below.refl _ W0).alloc (Nat.le_refl _) (.cells #[.int .i64 0, .int .i64 0] 54)).drew hb; obtain ⟨q0, q1⟩ := bx.cells; obtain ⟨z0, z1⟩ := frozen2 bx)); clear hb))
  all_goals
    obtain ⟨W1, hWe, hw1, cur1⟩ : ∃ W1, Q5eq W1 _ ∧ BoxT 54 W1 _ (.int .i64 p) (.int .i64 r) ∧ Below W0.heap.size W0 W1 := by
      first
        | exact pack_set bx cur bge p r
        | exact pack_new cur p r
    rw [← hWe.out]
    have hWf := Lib.hid hWe
    have K1 := Lib.hid (show ∀ W, Below W1.heap.size W1 W → (W.cell? ⟨w.heap.size, 0, none⟩ = some (.int .i64 x) ∧ W.cell? ⟨w.heap.size, 1, none⟩ = some (.int .i64 y) ∧ W.cell? ⟨w.heap.size + 1, 0, none⟩ = some (.int .i64 u) ∧ W.cell? ⟨w.heap.size + 1, 1, none⟩ = some (.int .i64 v)) from fun W h => K.out W (bfrom2 cur1 h))
    clear hWe
    have cus : Below W1.heap.size W1 W1.drew := (Below.refl _ _).drew
    obtain ⟨e0, e1, e2, e3⟩ := K1.out _ (Below.refl _ W1)
    clear cur c0 c1 c2 c3
    go_wp2_with fail
    go_region_held3 (fun w' => w'.cell? ⟨w.heap.size, 0, none⟩ = some (.int .i64 x) ∧ w'.cell? ⟨w.heap.size, 1, none⟩ = some (.int .i64 y) ∧ w'.cell? ⟨w.heap.size + 1, 0, none⟩ = some (.int .i64 u) ∧ w'.cell? ⟨w.heap.size + 1, 1, none⟩ = some (.int .i64 v))
      (first | exact K1.out _ cus | exact K1.out _ ((Below.refl _ W1).alloc (Nat.le_refl _) (.cells #[.int .i64 0, .int .i64 0] 54)).drew | exact K1.out _ (cus.alloc cus.size _) | exact K1.out _ ((cus.setCell bgf _).setCell bgf _) | go_keep)
      (first
        | (go_at_call 45; (with_reducible refine (toShare_any x y _).mono ?_); rintro e wD ⟨rfl, hb⟩; (first | (have cus := bfrom2 cus hb; (first | (have hby := hby.now hb; obtain ⟨v0, v1⟩ := hby.cells; obtain ⟨y0, y1⟩ := frozen2 hby) | skip)) | (have bgf := cus.size; have hby := (BoxT.new 54 _ (.int .i64 0) (.int .i64 0)).now hb; have cus := bfrom2 (cus.alloc (Nat.le_trans (by first | exact Nat.le_refl _ | assumption) cus.size) _) hb; obtain ⟨v0, v1⟩ := hby.cells; obtain ⟨y0, y1⟩ := frozen2 hby) | (have bgf := Nat.le_refl W1.heap.size; have hby := (BoxT.new 54 W1 (.int .i64 0) (.int .i64 0)).drew.now hb; have cus := bfrom2 ((Below.refl _ W1).alloc (Nat.le_refl _) (.cells #[.int .i64 0, .int .i64 0] 54)).drew hb; obtain ⟨v0, v1⟩ := hby.cells; obtain ⟨y0, y1⟩ := frozen2 hby)); clear hb)
        | (go_at_call 45; (with_reducible refine (toShare_any u v _).mono ?_); rintro e wE ⟨rfl, hb⟩; (first | (have cus := bfrom2 cus hb; (first | (have hby := hby.now hb; obtain ⟨v0, v1⟩ := hby.cells; obtain ⟨y0, y1⟩ := frozen2 hby) | skip)) | (have bgf := cus.size; have hby := (BoxT.new 54 _ (.int .i64 0) (.int .i64 0)).now hb; have cus := bfrom2 (cus.alloc (Nat.le_trans (by first | exact Nat.le_refl _ | assumption) cus.size) _) hb; obtain ⟨v0, v1⟩ := hby.cells; obtain ⟨y0, y1⟩ := frozen2 hby) | (have bgf := Nat.le_refl W1.heap.size; have hby := (BoxT.new 54 W1 (.int .i64 0) (.int .i64 0)).drew.now hb; have cus := bfrom2 ((Below.refl _ W1).alloc (Nat.le_refl _) (.cells #[.int .i64 0, .int .i64 0] 54)).drew hb; obtain ⟨v0, v1⟩ := hby.cells; obtain ⟨y0, y1⟩ := frozen2 hby)); clear hb)
        | (go_at_call 48; (with_reducible refine (addShares_any x y u v _).mono ?_); rw [← HP.out, ← HR.out, ← HO.out]; rintro e wF ⟨rfl, hb⟩; (first | (have cus := bfrom2 cus hb; (first | (have hby := hby.now hb; obtain ⟨v0, v1⟩ := hby.cells; obtain ⟨y0, y1⟩ := frozen2 hby) | skip)) | (have bgf := cus.size; have hby := (BoxT.new 54 _ (.int .i64 0) (.int .i64 0)).now hb; have cus := bfrom2 (cus.alloc (Nat.le_trans (by first | exact Nat.le_refl _ | assumption) cus.size) _) hb; obtain ⟨v0, v1⟩ := hby.cells; obtain ⟨y0, y1⟩ := frozen2 hby) | (have bgf := Nat.le_refl W1.heap.size; have hby := (BoxT.new 54 W1 (.int .i64 0) (.int .i64 0)).drew.now hb; have cus := bfrom2 ((Below.refl _ W1).alloc (Nat.le_refl _) (.cells #[.int .i64 0, .int .i64 0] 54)).drew hb; obtain ⟨v0, v1⟩ := hby.cells; obtain ⟨y0, y1⟩ := frozen2 hby)); clear hb))
    all_goals
      obtain ⟨W2, hWg, hw2, cus1⟩ : ∃ W2, Q5eq W2 _ ∧ BoxT 54 W2 _ (.int .i64 p) (.int .i64 r) ∧ Below W1.heap.size W1 W2 := by
        first
          | exact pack_set hby cus bgf p r
          | exact pack_new cus p r
      rw [← hWg.out]
      obtain ⟨a0, a1⟩ := hw2.cells
      obtain ⟨b0, b1⟩ := (hw1.now cus1).cells
      clear hWg cus
      go_wp2_with fail
      refine (eqShare_same p r _).mono ?_
      rintro e wG ⟨rfl, hbG⟩
      go_wp2
      go_ret
      exact ⟨rfl, bfrom2 hb0 (bfrom2 (bfrom2 cur1 cus1) hbG)⟩
end Go.Proofs.Ytgodohfhhedifab
