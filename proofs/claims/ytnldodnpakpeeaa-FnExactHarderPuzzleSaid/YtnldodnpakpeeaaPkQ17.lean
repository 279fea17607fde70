/- Texts of Yi, Yk. -/
import Derived.Test.YtnldodnpakpeeaaPkQ16
import Derived.Outline
namespace Go.Proofs.Ytnldodnpakpeeaa
open Go.RowKit Vo

theorem owns_put {w : World} {base : Nat} {e : TypeId} {size : Nat} {v : Value} {n : Nat} {xs : List Value} (h : w.ownsRow base e size v n xs) {p : Addr} (hp : p.block < base) (u : Value) : (w.setCell p u).ownsRow base e size v n xs := by
  obtain ⟨h1, h2⟩ := h
  refine ⟨h1, ?_⟩
  rcases h2 with h2 | ⟨g, cap, cur, hv, hg, hh, r⟩
  · exact Or.inl h2
  · exact Or.inr ⟨g, cap, cur, hv, hg, (Below.heap_setCell w p u g (by omega)).trans hh, r⟩
def dropB (m : Int) (C : List Clu) (x : Int) : Bool := puzB m C && inB x 0 ((C.length : Int) - 1)

set_option maxRecDepth 20000 in
set_option maxHeartbeats 8000000 in
theorem sDropClue_any (m : Int) (b0 : Nat) (n cap : Nat) (C : List Clu) (x : Int) (w : World) (hl : n ≤ 1048576) (hcap : n ≤ cap) (hcm : cap ≤ 9223372036854775807) (hk : KCl w (some ⟨b0, 0, none⟩) n C) :
    Calls Try.prog 11 #[.agg #[.int .i64 m, .slice (some ⟨b0, 0, none⟩) n cap], .int .i64 x] w fun e w' => AnsP (if dropB m C x then m else 0) (if dropB m C x then dropC C x.toNat else []) (dropB m C x) w w' e := by
  obtain ⟨P, hP⟩ : ∃ P : World → Ending → Prop, P = fun w' e => AnsP (if dropB m C x then m else 0) (if dropB m C x then dropC C x.toNat else []) (dropB m C x) w w' e := ⟨_, rfl⟩
  suffices h : Calls Try.prog 11 #[.agg #[.int .i64 m, .slice (some ⟨b0, 0, none⟩) n cap], .int .i64 x] w fun e w' => P w' e by rw [hP] at h; exact h
  have HNO := Lib.hid (show dropB m C x = false → ∀ w' e, AnsP 0 [] false w w' e → P w' e from fun h w' e k => by rw [hP, h]; exact k)
  have HYES := Lib.hid (show dropB m C x = true → ∀ w' e, AnsP m (dropC C x.toNat) true w w' e → P w' e from fun h w' e k => by rw [hP, h]; exact k)
  clear hP
  have hlen := hk.1
  have hb0 : Below w.heap.size w ((w.alloc (.cells #[.int .i64 m, .slice (some ⟨b0, 0, none⟩) n cap] 28)).alloc (.cells #[.int .i64 0, .slice none 0 0] 28)) := (below1 w _).alloc (by simp) _
  have hx := (BoxT.new 28 w (.int .i64 m) (.slice (some ⟨b0, 0, none⟩) n cap)).alloc (.cells #[.int .i64 0, .slice none 0 0] 28)
  have hr := BoxT.new 28 (w.alloc (.cells #[.int .i64 m, .slice (some ⟨b0, 0, none⟩) n cap] 28)) (.int .i64 0) (.slice none 0 0)
  simp only [World.size_alloc] at hr
  have HK := Lib.hid (hk.now hb0)
  have HG := Lib.hid (pzGood_any m _ n cap C _ (by omega) HK.out)
  have HD := Lib.hid (show dropB m C x = (puzB m C && inB x 0 ((n : Int) - 1)) from by unfold dropB; rw [hlen])
  have HI := Lib.hid (fun W => l1In_any x 0 ((n : Int) - 1) W)
  have hnw : IntKind.i64.wrap ((n : Int) - 1) = (n : Int) - 1 := IntWalk.i64_in _ (by omega)
  obtain ⟨c0, c1⟩ := hx.cells
  cases hp : puzB m C with
  | false =>
    rw [hp] at HG HD
    clear hk hp
    go_enter Try.func11, Try.ntmps11
    go_wp2_with fail
    refine HG.out.mono ?_
    rintro e w1 ⟨rfl, hb1⟩
    have g1 := bfrom hb0 hb1
    have hr1 := hr.now hb1
    obtain ⟨r0, r1⟩ := hr1.cells
    obtain ⟨f0, f1⟩ := box_soft2 hr1
    clear c0 c1 hx hr hb1 hb0 hr1
    go_wp2
    refine bodyPost_ret (v := .tuple #[.agg #[.int .i64 0, .slice none 0 0], .bool false]) (by simp [results, Try.results11, go_sem, r0, r1]) rfl (HNO.out (by rw [HD.out]; rfl) _ _ (ansP_no ((g1.setCell (by first | (simp; done) | (simp; omega)) _).setCell (by first | (simp; done) | (simp; omega)) _)))
  | true =>
    have hn8 : n ≤ 8 := by have := puzB_le hp; omega
    rw [hp, Bool.true_and] at HD
    rw [hp] at HG
    clear hk hp
    cases hi : inB x 0 ((n : Int) - 1) with
    | false =>
      rw [hi] at HI HD
      clear hi
      go_enter Try.func11, Try.ntmps11
      go_wp2_with fail
      refine HG.out.mono ?_
      rintro e w1 ⟨rfl, hb1⟩
      have g1 := bfrom hb0 hb1
      have hr1 := hr.now hb1
      have hx1 := hx.now hb1
      obtain ⟨r0, r1⟩ := hr1.cells
      obtain ⟨x0, x1⟩ := hx1.cells
      obtain ⟨f0, f1⟩ := box_soft2 hr1
      clear c0 c1 hx hr hb1 hb0 hr1 hx1
      go_wp2_with (go_at_call 49; refine (HI.out _).mono ?_; rintro e w2 ⟨rfl, rfl⟩)
      refine bodyPost_ret (v := .tuple #[.agg #[.int .i64 0, .slice none 0 0], .bool false]) (by simp [results, Try.results11, go_sem, r0, r1]) rfl (HNO.out HD.out _ _ (ansP_no ((g1.setCell (by first | (simp; done) | (simp; omega)) _).setCell (by first | (simp; done) | (simp; omega)) _)))
    | true =>
      have hx9 : 0 ≤ x ∧ x ≤ (n : Int) - 1 := by simpa [inB] using hi
      obtain ⟨k, rfl⟩ : ∃ k : Nat, x = k := ⟨x.toNat, by omega⟩
      have hkn : k < n := by omega
      rw [hi] at HI HD
      have HDL := Lib.hid (show (dropC C k).length = n - 1 from by rw [dropC_len (by omega), hlen])
      rw [Int.toNat_natCast] at HYES
      clear hi hx9
      go_enter Try.func11, Try.ntmps11
      go_wp2_with fail
      refine HG.out.mono ?_
      rintro e w1 ⟨rfl, hb1⟩
      have g1 := bfrom hb0 hb1
      have hr1 := hr.now hb1
      have hx1 := hx.now hb1
      obtain ⟨x0, x1⟩ := hx1.cells
      have hzw := g1.size
      have hxl := hx1.lt
      have hrl := hr1.lt
      have HK1 := Lib.hid (HK.out.now hb1)
      have HW := Lib.hid (fun W (h : Below w1.heap.size w1 W) => pzWithout_any b0 n cap k C W hl hkn hcap hcm (HK1.out.now h))
      have KS := Lib.hid (show ∀ W, Below w1.heap.size w1 W → W.cell? ⟨w.heap.size, 0, none⟩ = some (.int .i64 m) ∧ W.cell? ⟨w.heap.size, 1, none⟩ = some (.slice (some ⟨b0, 0, none⟩) n cap) ∧ ((W.cell? ⟨w.heap.size + 1, 0, none⟩).isSome = true ∧ (W.cell? ⟨w.heap.size + 1, 1, none⟩).isSome = true) ∧ W.frozen? ⟨w.heap.size + 1, 0, none⟩ = false ∧ W.frozen? ⟨w.heap.size + 1, 1, none⟩ = false from fun W h => ⟨(hx1.now h).cells.1, (hx1.now h).cells.2, ⟨by rw [(hr1.now h).cells.1]; rfl, by rw [(hr1.now h).cells.2]; rfl⟩, (box_soft2 (hr1.now h))⟩)
      obtain ⟨k1, k2, ⟨k3, k4⟩, k5, k6⟩ := KS.out _ (Below.refl _ _)
      have HX1 := Lib.hid hx1
      have HR1 := Lib.hid hr1
      clear c0 c1 hx hr hb1 hb0 hr1 hx1
      go_wp2_with (go_at_call 49; refine (HI.out _).mono ?_; rintro e w2 ⟨rfl, rfl⟩)
      go_region_held3 (fun W => W.cell? ⟨w.heap.size, 0, none⟩ = some (.int .i64 m) ∧ W.cell? ⟨w.heap.size, 1, none⟩ = some (.slice (some ⟨b0, 0, none⟩) n cap) ∧ ((W.cell? ⟨w.heap.size + 1, 0, none⟩).isSome = true ∧ (W.cell? ⟨w.heap.size + 1, 1, none⟩).isSome = true) ∧ W.frozen? ⟨w.heap.size + 1, 0, none⟩ = false ∧ W.frozen? ⟨w.heap.size + 1, 1, none⟩ = false)
        (first | exact KS.out _ (Below.refl _ _).drew | exact ⟨k1, k2, ⟨k3, k4⟩, k5, k6⟩ | exact KS.out _ b7 | ((try dsimp only); (repeat' apply And.intro); all_goals (first | exact (box_far2 (box_far2 (HX1.out.now b7) (p := ⟨w.heap.size + 1, 0, none⟩) (by simp) _) (p := ⟨w.heap.size + 1, 1, none⟩) (by simp) _).cells.1 | exact (box_far2 (box_far2 (HX1.out.now b7) (p := ⟨w.heap.size + 1, 0, none⟩) (by simp) _) (p := ⟨w.heap.size + 1, 1, none⟩) (by simp) _).cells.2 | exact isSome_setN (isSome_setN d2) | exact isSome_setN (isSome_setN d3) | go_keep)) | go_keep)
        (first
          | (go_at_call 50; refine (HW.out _ (Below.refl _ _).drew).mono ?_; rintro e w7 ⟨B7, cp7, rfl, hown7, hb7⟩; have b7 := bfrom (Below.refl _ w1).drew hb7; obtain ⟨d0, d1, ⟨d2, d3⟩, d4, d5⟩ := KS.out _ b7; obtain ⟨d6, d7⟩ := (HR1.out.now b7).cells)
          | fail)
      all_goals
        have HO7 := Lib.hid (show OwnCl w7 w1.heap.size (.slice B7 (n - 1) cp7) (dropC C k) from hown7)
        have G7 := Lib.hid (g1.trans (b7.mono hzw))
        have hz7 := G7.out.size
        clear hown7 hb7 b7 d0 d1 k1 k2 k3 k4 k5 k6
        go_wp2
        refine bodyPost_ret (v := .tuple #[.agg #[.int .i64 m, .slice B7 (n - 1) cp7], .bool true]) (by simp [results, Try.results11, go_sem, d6, d7]) rfl (HYES.out HD.out _ _ (ansP_yes HDL.out (owns_less (owns_put (owns_put HO7.out (by first | (simp; done) | (simp; omega)) _) (by first | (simp; done) | (simp; omega)) _) hzw) ((G7.out.setCell (by first | (simp; done) | (simp; omega)) _).setCell (by first | (simp; done) | (simp; omega)) _)))
end Go.Proofs.Ytnldodnpakpeeaa

namespace Go.Proofs.Ytnldodnpakpeeaa
open Go.RowKit Vo

theorem cell_of_heap {w : World} {g : Nat} {c : Array Value} {t : TypeId} (hb : w.heap[g]? = some (.cells c t (0, 0))) {i : Nat} {u : Value} (hu : c[i]? = some u) : w.cell? ⟨g, i, none⟩ = some u := by
  simp [World.cell?, hb, hu]
theorem cell_congr {w w' : World} {g i : Nat} (h : w'.heap[g]? = w.heap[g]?) : w'.cell? ⟨g, i, none⟩ = w.cell? ⟨g, i, none⟩ := by
  simp [World.cell?, h]
theorem frozen_congr {w w' : World} {g i : Nat} (h : w'.heap[g]? = w.heap[g]?) : w'.frozen? ⟨g, i, none⟩ = w.frozen? ⟨g, i, none⟩ := by
  simp [World.frozen?, h]
theorem heap_delS (g : Nat) : ∀ (vs : List Value) (o : Nat) (w : World) (i : Nat), i ≠ g → (w.setCells g o vs).heap[i]? = w.heap[i]?
  | [], _, _, _, _ => rfl
  | v :: r, o, w, i, hi => (heap_delS g r (o+1) _ i hi).trans (Below.heap_setCell w ⟨g, o, none⟩ v i hi)
theorem below_delS {B g : Nat} {a : World} (hb : B ≤ g) : ∀ (vs : List Value) (o : Nat) (w : World), Below B a w → Below B a (w.setCells g o vs)
  | [], _, _, h => h
  | v :: r, o, w, h => below_delS hb r (o + 1) _ (h.setCell (by exact hb) v)
/-- What takeOut's call back holds: the puzzle's box, the place, the clue. -/
def TkAt (h k : Nat) (c : Clu) (b : Nat) (w : World) : Prop :=
  b + 2 < w.heap.size ∧ w.cell? ⟨b, 0, none⟩ = some (.pointer (some ⟨h, 0, none⟩)) ∧ w.cell? ⟨b + 1, 0, none⟩ = some (.int .i64 k) ∧ w.cell? ⟨b + 2, 0, none⟩ = some (.int .i64 c.1) ∧ w.cell? ⟨b + 2, 1, none⟩ = some (.int .i64 c.2.1) ∧ w.cell? ⟨b + 2, 2, none⟩ = some (.int .i64 c.2.2)
/-- All old blocks but two are as they were. -/
structure Kept2 (g h : Nat) (w w' : World) : Prop where
  os : w'.os = w.os
  tape : w'.tape = w.tape
  output : w'.output = w.output
  size : w.heap.size ≤ w'.heap.size
  block : ∀ b, b < w.heap.size → b ≠ g → b ≠ h → w'.heap[b]? = w.heap[b]?

theorem Kept2.below {g h B : Nat} {w w' : World} (k : Kept2 g h w w') (hB : B ≤ w.heap.size) (hg : B ≤ g) (hh : B ≤ h) : Below B w w' :=
  ⟨k.os, k.tape, k.output, k.size, fun b hb => k.block b (by omega) (by omega) (by omega)⟩

set_option maxRecDepth 20000 in
set_option maxHeartbeats 4000000 in
theorem takeOut_any (base h : Nat) (g n cap k : Nat) (C : List Clu) (w : World) (hn : C.length = n) (hk : k < n) (hn8 : n ≤ 8) (hne : h ≠ g) (hhl : h < w.heap.size) (hx : w.cell? ⟨h, 1, none⟩ = some (.slice (some ⟨g, 0, none⟩) n cap)) (hxf : w.frozen? ⟨h, 1, none⟩ = false) (ho : OwnCl w base (.slice (some ⟨g, 0, none⟩) n cap) C) :
    Calls Try.prog 53 #[.pointer (some ⟨h, 0, none⟩), .int .i64 k] w fun e w' => (e = .returned (.func (.func 95) #[] #[.pointer (some ⟨w.heap.size, 0, none⟩), .pointer (some ⟨w.heap.size + 1, 0, none⟩), .pointer (some ⟨w.heap.size + 2, 0, none⟩)])) ∧ TkAt h k (cAt C k) w.heap.size w' ∧ w'.heap[h]? = (w.setCell ⟨h, 1, none⟩ (.slice (some ⟨g, 0, none⟩) (n - 1) cap)).heap[h]? ∧ OwnCl w' base (.slice (some ⟨g, 0, none⟩) (n - 1) cap) (dropC C k) ∧ Kept2 g h w w' := by
  obtain ⟨hnc, hcm, hb, hgl, hsoft⟩ := own_soft hn ho
  have b0 : Below w.heap.size w ((w.alloc (.cells #[.pointer (some ⟨h, 0, none⟩)] 134)).alloc (.cells #[.int .i64 k] 3)) := (below1 w _).alloc (by simp) _
  have hoa : OwnCl _ base (.slice (some ⟨g, 0, none⟩) n cap) C := owns_now ho b0
  obtain ⟨hc0, hc1, hc2⟩ := ((OwnCl.cls hn hoa).2.cl).at hk
  have c1 : ((w.alloc (.cells #[.pointer (some ⟨h, 0, none⟩)] 134)).alloc (.cells #[.int .i64 k] 3)).cell? ⟨h, 1, none⟩ = some (.slice (some ⟨g, 0, none⟩) n cap) := (b0.cell (p := ⟨h, 1, none⟩) hhl).trans hx
  have hf1 := (b0.frozen (p := ⟨h, 1, none⟩) hhl).trans hxf
  simp only [Nat.zero_add] at hc0 hc1 hc2
  obtain ⟨x, y, z, hxyz⟩ : ∃ x y z, cAt C k = (x, y, z) := ⟨_, _, _, rfl⟩
  rw [hxyz] at hc0 hc1 hc2
  simp only at hc0 hc1 hc2
  have c2 : ((w.alloc (.cells #[.pointer (some ⟨h, 0, none⟩)] 134)).alloc (.cells #[.int .i64 k] 3)).cell? ⟨w.heap.size, 0, none⟩ = some (.pointer (some ⟨h, 0, none⟩)) := Lib.cell?_alloc_some _ (cell_of_heap (heap_alloc_new w (.cells #[.pointer (some ⟨h, 0, none⟩)] 134)) rfl)
  have c3 : ((w.alloc (.cells #[.pointer (some ⟨h, 0, none⟩)] 134)).alloc (.cells #[.int .i64 k] 3)).cell? ⟨w.heap.size + 1, 0, none⟩ = some (.int .i64 k) := by
    have := heap_alloc_new (w.alloc (.cells #[.pointer (some ⟨h, 0, none⟩)] 134)) (.cells #[.int .i64 k] 3)
    rw [World.size_alloc] at this
    exact cell_of_heap this rfl
  have hszE : ((w.alloc (.cells #[.pointer (some ⟨h, 0, none⟩)] 134)).alloc (.cells #[.int .i64 k] 3)).heap.size = w.heap.size + 2 := by simp
  have HE0 := Lib.hid hszE
  have hszA : w.heap.size + 1 < ((w.alloc (.cells #[.pointer (some ⟨h, 0, none⟩)] 134)).alloc (.cells #[.int .i64 k] 3)).heap.size := by omega
  have hk0 : (0 : Int) ≤ (k : Int) := by omega
  have hkn : (k : Int) < (n : Int) := by omega
  have hkw : IntKind.i64.wrap ((k : Int) + 1) = (k : Int) + 1 := IntWalk.i64_in _ (by omega)
  clear hsoft
  go_enter Try.func53, Try.ntmps53
  go_wp2_with fail
  generalize (w.alloc (.cells #[.pointer (some ⟨h, 0, none⟩)] 134)).alloc (.cells #[.int .i64 k] 3) = W0 at *
  have HB0 := Lib.hid b0
  have HOA := Lib.hid hoa
  have HXF := Lib.hid hf1
  have HC1 := Lib.hid c1
  have hhz := b0.size
  have KS := Lib.hid (show ∀ W, Below W0.heap.size W0 W → W.cell? ⟨w.heap.size, 0, none⟩ = some (.pointer (some ⟨h, 0, none⟩)) ∧ W.cell? ⟨w.heap.size + 1, 0, none⟩ = some (.int .i64 k) ∧ W.cell? ⟨h, 1, none⟩ = some (.slice (some ⟨g, 0, none⟩) n cap) ∧ W.cell? ⟨g, k * 3, none⟩ = some (.int .i64 x) ∧ W.cell? ⟨g, k * 3 + 1, none⟩ = some (.int .i64 y) ∧ W.cell? ⟨g, k * 3 + 2, none⟩ = some (.int .i64 z) from fun W hW =>
    ⟨(hW.cell (p := ⟨w.heap.size, 0, none⟩) (show w.heap.size < _ by omega)).trans c2, (hW.cell (p := ⟨w.heap.size + 1, 0, none⟩) hszA).trans c3, (hW.cell (p := ⟨h, 1, none⟩) (show h < _ by omega)).trans c1, (hW.cell (p := ⟨g, k * 3, none⟩) (show g < _ by omega)).trans hc0, (hW.cell (p := ⟨g, k * 3 + 1, none⟩) (show g < _ by omega)).trans hc1, (hW.cell (p := ⟨g, k * 3 + 2, none⟩) (show g < _ by omega)).trans hc2⟩)
  have hgz : g < W0.heap.size := by omega
  clear b0 hoa hx ho hxf hf1 hszE
  go_region_held3 (fun W => W.cell? ⟨w.heap.size, 0, none⟩ = some (.pointer (some ⟨h, 0, none⟩)) ∧ W.cell? ⟨w.heap.size + 1, 0, none⟩ = some (.int .i64 k) ∧ W.cell? ⟨h, 1, none⟩ = some (.slice (some ⟨g, 0, none⟩) n cap) ∧ W.cell? ⟨g, k * 3, none⟩ = some (.int .i64 x) ∧ W.cell? ⟨g, k * 3 + 1, none⟩ = some (.int .i64 y) ∧ W.cell? ⟨g, k * 3 + 2, none⟩ = some (.int .i64 z))
    (first | exact ⟨c2, c3, c1, hc0, hc1, hc2⟩ | go_keep)
    (first | fail)
  have HBW := Lib.hid (((Below.refl W0.heap.size W0).alloc (Nat.le_refl _) (.cells #[.int .i64 x, .int .i64 y, .int .i64 z] 130)).drew)
  have HCB := Lib.hid (show (W0.alloc (.cells #[.int .i64 x, .int .i64 y, .int .i64 z] 130)).drew.heap[W0.heap.size]? = some (.cells #[.int .i64 x, .int .i64 y, .int .i64 z] 130 (0, 0)) from heap_alloc_new W0 _)
  have HSZ1 := Lib.hid (show (W0.alloc (.cells #[.int .i64 x, .int .i64 y, .int .i64 z] 130)).drew.heap.size = W0.heap.size + 1 from World.size_alloc W0 _)
  obtain ⟨d2, d3, d1, _, _, _⟩ := KS.out _ HBW.out
  clear c2 c3 c1 hc0 hc1 hc2
  generalize hW1 : (W0.alloc (.cells #[.int .i64 x, .int .i64 y, .int .i64 z] 130)).drew = W1 at *
  clear hW1
  have hzz := HBW.out.size
  have HOB := Lib.hid (owns_now HOA.out HBW.out)
  have HD2 := Lib.hid d2
  have HD3 := Lib.hid d3
  have HD1 := Lib.hid d1
  -- what the call of Delete leaves
  obtain ⟨P, hP⟩ : ∃ P : World → Prop, P = fun w3 => ∃ vs : List Value, vs.length = 3 ∧ w3 = (W1.drew.drew.setCells g (k * 3) (cluesV (C.drop (k+1)))).setCells g ((n - 1) * 3) vs := ⟨_, rfl⟩
  have HDL := Lib.hid (show Calls Try.prog 94 #[.slice (some ⟨g, 0, none⟩) n cap, .int .i64 k, .int .i64 ((k : Int) + 1)] W1.drew fun e w' => e = .returned (.slice (some ⟨g, 0, none⟩) (n - 1) cap) ∧ P w' from by
    rw [hP]
    exact deleteClue_any base g n cap k C W1.drew hn hk hn8 (owns_now HOB.out (Below.refl _ _).drew))
  have HPH := Lib.hid (show ∀ w3, P w3 → ∀ i, i ≠ g → w3.heap[i]? = W1.heap[i]? from fun w3 h3 i hi => by
    rw [hP] at h3
    obtain ⟨vs, _, rfl⟩ := h3
    exact (heap_delS g _ _ _ i hi).trans (heap_delS g _ _ _ i hi))
  have HPO := Lib.hid (show ∀ w3, P w3 → OwnCl w3 base (.slice (some ⟨g, 0, none⟩) (n - 1) cap) (dropC C k) from fun w3 h3 => by
    rw [hP] at h3
    obtain ⟨vs, hvs, rfl⟩ := h3
    exact del_row (W := W1.drew.drew) hn hk (owns_now HOB.out (Below.refl _ W1).drew.drew) vs hvs)
  have HPB := Lib.hid (show ∀ w3, P w3 → Below g W1 w3 from fun w3 h3 => by
    rw [hP] at h3
    obtain ⟨vs, _, rfl⟩ := h3
    exact below_delS (Nat.le_refl g) _ _ _ (below_delS (Nat.le_refl g) _ _ _ (Below.refl g W1).drew.drew))
  have hs0 : w.heap.size ≠ g := by omega
  have hs1 : w.heap.size + 1 ≠ g := by omega
  have HPC := Lib.hid (show ∀ w3, P w3 → w3.cell? ⟨w.heap.size, 0, none⟩ = some (.pointer (some ⟨h, 0, none⟩)) ∧ w3.cell? ⟨h, 1, none⟩ = some (.slice (some ⟨g, 0, none⟩) n cap) ∧ w3.frozen? ⟨h, 1, none⟩ = false from fun w3 h3 =>
    ⟨(cell_congr (HPH.out w3 h3 _ hs0)).trans HD2.out, (cell_congr (HPH.out w3 h3 _ hne)).trans HD1.out, (frozen_congr ((HPH.out w3 h3 _ hne).trans (HBW.out.block h (by omega)))).trans HXF.out⟩)
  clear hP
  have HEND := Lib.hid (show ∀ w3, P w3 → TkAt h k (cAt C k) w.heap.size (w3.setCell ⟨h, 1, none⟩ (.slice (some ⟨g, 0, none⟩) (n - 1) cap)) ∧ (w3.setCell ⟨h, 1, none⟩ (.slice (some ⟨g, 0, none⟩) (n - 1) cap)).heap[h]? = (w.setCell ⟨h, 1, none⟩ (.slice (some ⟨g, 0, none⟩) (n - 1) cap)).heap[h]? ∧ OwnCl (w3.setCell ⟨h, 1, none⟩ (.slice (some ⟨g, 0, none⟩) (n - 1) cap)) base (.slice (some ⟨g, 0, none⟩) (n - 1) cap) (dropC C k) ∧ Kept2 g h w (w3.setCell ⟨h, 1, none⟩ (.slice (some ⟨g, 0, none⟩) (n - 1) cap)) from fun w3 h3 => by
    have e := HPH.out w3 h3
    have hz3 := (HPB.out w3 h3).size
    have hE0 := HE0.out
    have hS1 := HSZ1.out
    have far : ∀ b, b ≠ h → (w3.setCell ⟨h, 1, none⟩ (.slice (some ⟨g, 0, none⟩) (n - 1) cap)).heap[b]? = w3.heap[b]? := fun b hbh => Below.heap_setCell w3 ⟨h, 1, none⟩ _ b hbh
    have hcb := HCB.out
    rw [hE0] at hcb
    have hcb3 := ((far (w.heap.size + 2) (by omega)).trans (e (w.heap.size + 2) (by omega))).trans hcb
    refine ⟨⟨?_, ?_, ?_, ?_, ?_, ?_⟩, ?_, owns_far_ (HPO.out w3 h3) (fun e => hne e.symm) _, ⟨?_, ?_, ?_, ?_, ?_⟩⟩
    · simp; omega
    · exact (cell_congr ((far w.heap.size (by omega)).trans (e _ hs0))).trans HD2.out
    · exact (cell_congr ((far (w.heap.size + 1) (by omega)).trans (e _ hs1))).trans HD3.out
    · rw [hxyz]; exact cell_of_heap hcb3 rfl
    · rw [hxyz]; exact cell_of_heap hcb3 rfl
    · rw [hxyz]; exact cell_of_heap hcb3 rfl
    · have h0 : w3.heap[h]? = w.heap[h]? := ((e h hne).trans (HBW.out.block h (by omega))).trans (HB0.out.block h hhl)
      simp only [World.setCell, Array.getElem?_modify, h0]
    · exact ((HPB.out w3 h3).os.trans HBW.out.os).trans HB0.out.os
    · exact ((HPB.out w3 h3).tape.trans HBW.out.tape).trans HB0.out.tape
    · exact ((HPB.out w3 h3).output.trans HBW.out.output).trans HB0.out.output
    · simp; omega
    · intro b hb1 hb2 hb3
      exact (((far b hb3).trans (e b hb2)).trans (HBW.out.block b (by omega))).trans (HB0.out.block b hb1))
  clear hxyz hs0 hs1
  have HW0S := Lib.hid HE0.out
  go_wp2_with fail
  go_region_law (go_simp; go_at_call 94; refine HDL.out.mono ?_; rintro e w3 ⟨rfl, h3⟩; obtain ⟨p2, q1, f1⟩ := HPC.out w3 h3; have H3 := Lib.hid h3; clear h3)
  all_goals
    go_wp2
    go_ret
    rw [HW0S.out]
    exact ⟨rfl, HEND.out _ H3.out⟩
end Go.Proofs.Ytnldodnpakpeeaa
