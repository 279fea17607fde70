/- DropClue: the model's side. -/
import Derived.Test.YtnldodnpakpeeaaYh
namespace Go.Proofs.Ytnldodnpakpeeaa
open Go.RowKit Vo

theorem owns_put {w : World} {base : Nat} {e : TypeId} {size : Nat} {v : Value} {n : Nat} {xs : List Value} (h : w.ownsRow base e size v n xs) {p : Addr} (hp : p.block < base) (u : Value) : (w.setCell p u).ownsRow base e size v n xs := by
  obtain ⟨h1, h2⟩ := h
  refine ⟨h1, ?_⟩
  rcases h2 with h2 | ⟨g, cap, cur, hv, hg, hh, r⟩
  · exact Or.inl h2
  · exact Or.inr ⟨g, cap, cur, hv, hg, (Below.heap_setCell w p u g (by omega)).trans hh, r⟩
def dropB (m : Int) (C : List Clu) (x : Int) : Bool := puzB m C && inB x 0 ((C.length : Int) - 1)

set_option maxRecDepth 20000 in
set_option maxHeartbeats 8000000 in
theorem sDropClue_any (m : Int) (b0 : Nat) (n cap : Nat) (C : List Clu) (x : Int) (w : World) (hl : n ≤ 1048576) (hcap : n ≤ cap) (hcm : cap ≤ 9223372036854775807) (hk : KCl w (some ⟨b0, 0, none⟩) n C) :
    Calls Try.prog 11 #[.agg #[.int .i64 m, .slice (some ⟨b0, 0, none⟩) n cap], .int .i64 x] w fun e w' => AnsP (if dropB m C x then m else 0) (if dropB m C x then dropC C x.toNat else []) (dropB m C x) w w' e := by
  obtain ⟨P, hP⟩ : ∃ P : World → Ending → Prop, P = fun w' e => AnsP (if dropB m C x then m else 0) (if dropB m C x then dropC C x.toNat else []) (dropB m C x) w w' e := ⟨_, rfl⟩
  suffices h : Calls Try.prog 11 #[.agg #[.int .i64 m, .slice (some ⟨b0, 0, none⟩) n cap], .int .i64 x] w fun e w' => P w' e by rw [hP] at h; exact h
  have HNO := Lib.hid (show dropB m C x = false → ∀ w' e, AnsP 0 [] false w w' e → P w' e from fun h w' e k => by rw [hP, h]; exact k)
  have HYES := Lib.hid (show dropB m C x = true → ∀ w' e, AnsP m (dropC C x.toNat) true w w' e → P w' e from fun h w' e k => by rw [hP, h]; exact k)
  clear hP
  have hlen := hk.1
  have hb0 : Below w.heap.size w ((w.alloc (.cells #[.int .i64 m, .slice (some ⟨b0, 0, none⟩) n cap] 28)).alloc (.cells #[.int .i64 0, .slice none 0 0] 28)) := (below1 w _).alloc (by simp) _
  have hx := (BoxT.new 28 w (.int .i64 m) (.slice (some ⟨b0, 0, none⟩) n cap)).alloc (.cells #[.int .i64 0, .slice none 0 0] 28)
  have hr := BoxT.new 28 (w.alloc (.cells #[.int .i64 m, .slice (some ⟨b0, 0, none⟩) n cap] 28)) (.int .i64 0) (.slice none 0 0)
  simp only [World.size_alloc] at hr
  have HK := Lib.hid (hk.now hb0)
  have HG := Lib.hid (pzGood_any m _ n cap C _ (by omega) HK.out)
  have HD := Lib.hid (show dropB m C x = (puzB m C && inB x 0 ((n : Int) - 1)) from by unfold dropB; rw [hlen])
  have HI := Lib.hid (fun W => l1In_any x 0 ((n : Int) - 1) W)
  have hnw : IntKind.i64.wrap ((n : Int) - 1) = (n : Int) - 1 := IntWalk.i64_in _ (by omega)
  obtain ⟨c0, c1⟩ := hx.cells
  cases hp : puzB m C with
  | false =>
    rw [hp] at HG HD
    clear hk hp
    go_enter Try.func11, Try.ntmps11
    go_wp2_with fail
    refine HG.out.mono ?_
    rintro e w1 ⟨rfl, hb1⟩
    have g1 := bfrom hb0 hb1
    have hr1 := hr.now hb1
    obtain ⟨r0, r1⟩ := hr1.cells
    obtain ⟨f0, f1⟩ := box_soft2 hr1
    clear c0 c1 hx hr hb1 hb0 hr1
    go_wp2
    refine bodyPost_ret (v := .tuple #[.agg #[.int .i64 0, .slice none 0 0], .bool false]) (by simp [results, Try.results11, go_sem, r0, r1]) rfl (HNO.out (by rw [HD.out]; rfl) _ _ (ansP_no ((g1.setCell (by first | (simp; done) | (simp; omega)) _).setCell (by first | (simp; done) | (simp; omega)) _)))
  | true =>
    have hn8 : n ≤ 8 := by have := puzB_le hp; omega
    rw [hp, Bool.true_and] at HD
    rw [hp] at HG
    clear hk hp
    cases hi : inB x 0 ((n : Int) - 1) with
    | false =>
      rw [hi] at HI HD
      clear hi
      go_enter Try.func11, Try.ntmps11
      go_wp2_with fail
      refine HG.out.mono ?_
      rintro e w1 ⟨rfl, hb1⟩
      have g1 := bfrom hb0 hb1
      have hr1 := hr.now hb1
      have hx1 := hx.now hb1
      obtain ⟨r0, r1⟩ := hr1.cells
      obtain ⟨x0, x1⟩ := hx1.cells
      obtain ⟨f0, f1⟩ := box_soft2 hr1
      clear c0 c1 hx hr hb1 hb0 hr1 hx1
      go_wp2_with (go_at_call 49; refine (HI.out _).mono ?_; rintro e w2 ⟨rfl, rfl⟩)
      refine bodyPost_ret (v := .tuple #[.agg #[.int .i64 0, .slice none 0 0], .bool false]) (by simp [results, Try.results11, go_sem, r0, r1]) rfl (HNO.out HD.out _ _ (ansP_no ((g1.setCell (by first | (simp; done) | (simp; omega)) _).setCell (by first | (simp; done) | (simp; omega)) _)))
    | true =>
      have hx9 : 0 ≤ x ∧ x ≤ (n : Int) - 1 := by simpa [inB] using hi
      obtain ⟨k, rfl⟩ : ∃ k : Nat, x = k := ⟨x.toNat, by omega⟩
      have hkn : k < n := by omega
      rw [hi] at HI HD
      have HDL := Lib.hid (show (dropC C k).length = n - 1 from by rw [dropC_len (by omega), hlen])
      rw [Int.toNat_natCast] at HYES
      clear hi hx9
      go_enter Try.func11, Try.ntmps11
      go_wp2_with fail
      refine HG.out.mono ?_
      rintro e w1 ⟨rfl, hb1⟩
      have g1 := bfrom hb0 hb1
      have hr1 := hr.now hb1
      have hx1 := hx.now hb1
      obtain ⟨x0, x1⟩ := hx1.cells
      have hzw := g1.size
      have hxl := hx1.lt
      have hrl := hr1.lt
      have HK1 := Lib.hid (HK.out.now hb1)
      have HW := Lib.hid (fun W (h : Below w1.heap.size w1 W) => pzWithout_any b0 n cap k C W hl hkn hcap hcm (HK1.out.now h))
      have KS := Lib.hid (show ∀ W, Below w1.heap.size w1 W → W.cell? ⟨w.heap.size, 0, none⟩ = some (.int .i64 m) ∧ W.cell? ⟨w.heap.size, 1, none⟩ = some (.slice (some ⟨b0, 0, none⟩) n cap) ∧ ((W.cell? ⟨w.heap.size + 1, 0, none⟩).isSome = true ∧ (W.cell? ⟨w.heap.size + 1, 1, none⟩).isSome = true) ∧ W.frozen? ⟨w.heap.size + 1, 0, none⟩ = false ∧ W.frozen? ⟨w.heap.size + 1, 1, none⟩ = false from fun W h => ⟨(hx1.now h).cells.1, (hx1.now h).cells.2, ⟨by rw [(hr1.now h).cells.1]; rfl, by rw [(hr1.now h).cells.2]; rfl⟩, (box_soft2 (hr1.now h))⟩)
      obtain ⟨k1, k2, ⟨k3, k4⟩, k5, k6⟩ := KS.out _ (Below.refl _ _)
      have HX1 := Lib.hid hx1
      have HR1 := Lib.hid hr1
      clear c0 c1 hx hr hb1 hb0 hr1 hx1
      go_wp2_with (go_at_call 49; refine (HI.out _).mono ?_; rintro e w2 ⟨rfl, rfl⟩)
      go_region_held3 (fun W => W.cell? ⟨w.heap.size, 0, none⟩ = some (.int .i64 m) ∧ W.cell? ⟨w.heap.size, 1, none⟩ = some (.slice (some ⟨b0, 0, none⟩) n cap) ∧ ((W.cell? ⟨w.heap.size + 1, 0, none⟩).isSome = true ∧ (W.cell? ⟨w.heap.size + 1, 1, none⟩).isSome = true) ∧ W.frozen? ⟨w.heap.size + 1, 0, none⟩ = false ∧ W.frozen? ⟨w.heap.size + 1, 1, none⟩ = false)
        (first | exact KS.out _ (Below.refl _ _).drew | exact ⟨k1, k2, ⟨k3, k4⟩, k5, k6⟩ | exact KS.out _ b7 | ((try dsimp only); (repeat' apply And.intro); all_goals (first | exact (box_far2 (box_far2 (HX1.out.now b7) (p := ⟨w.heap.size + 1, 0, none⟩) (by simp) _) (p := ⟨w.heap.size + 1, 1, none⟩) (by simp) _).cells.1 | exact (box_far2 (box_far2 (HX1.out.now b7) (p := ⟨w.heap.size + 1, 0, none⟩) (by simp) _) (p := ⟨w.heap.size + 1, 1, none⟩) (by simp) _).cells.2 | exact isSome_setN (isSome_setN d2) | exact isSome_setN (isSome_setN d3) | go_keep)) | go_keep)
        (first
          | (go_at_call 50; refine (HW.out _ (Below.refl _ _).drew).mono ?_; rintro e w7 ⟨B7, cp7, rfl, hown7, hb7⟩; have b7 := bfrom (Below.refl _ w1).drew hb7; obtain ⟨d0, d1, ⟨d2, d3⟩, d4, d5⟩ := KS.out _ b7; obtain ⟨d6, d7⟩ := (HR1.out.now b7).cells)
          | fail)
      all_goals
        have HO7 := Lib.hid (show OwnCl w7 w1.heap.size (.slice B7 (n - 1) cp7) (dropC C k) from hown7)
        have G7 := Lib.hid (g1.trans (b7.mono hzw))
        have hz7 := G7.out.size
        clear hown7 hb7 b7 d0 d1 k1 k2 k3 k4 k5 k6
        go_wp2
        refine bodyPost_ret (v := .tuple #[.agg #[.int .i64 m, .slice B7 (n - 1) cp7], .bool true]) (by simp [results, Try.results11, go_sem, d6, d7]) rfl (HYES.out HD.out _ _ (ansP_yes HDL.out (owns_less (owns_put (owns_put HO7.out (by first | (simp; done) | (simp; omega)) _) (by first | (simp; done) | (simp; omega)) _) hzw) ((G7.out.setCell (by first | (simp; done) | (simp; omega)) _).setCell (by first | (simp; done) | (simp; omega)) _)))
end Go.Proofs.Ytnldodnpakpeeaa
