/- Texts of Yr. -/
import Derived.Test.YtnldodnpakpeeaaPkQ51
import Derived.Defers
import Derived.Outline
namespace Go.Proofs.Ytnldodnpakpeeaa
open Go.RowKit Vo

theorem owns_ltC {w : World} {base : Nat} {v : Value} {C : List Clu} (h : OwnCl w base v C) : ∀ k, v.ownBlock = some k → base ≤ k ∧ k < w.heap.size := fun k hk => World.ownsRow.lt h k hk
theorem insertClue_any (base g n cap k vb vc : Nat) (C : List Clu) (w : World) (hn : C.length = n) (hk : k < n) (hn8 : n ≤ 8) (hcap : n ≤ cap) (ho : OwnCl w base (.slice (some ⟨g, 0, none⟩) (n - 1) cap) (dropC C k)) (hvb : w.heap[vb]? = some (.cells #[.int .i64 (cAt C k).1, .int .i64 (cAt C k).2.1, .int .i64 (cAt C k).2.2] 130 (0, 0))) (hne : vb ≠ g) :
    Calls Try.prog 96 #[.slice (some ⟨g, 0, none⟩) (n - 1) cap, .int .i64 k, .slice (some ⟨vb, 0, none⟩) 1 vc] w fun e w' => e = .returned (.slice (some ⟨g, 0, none⟩) n cap) ∧ OwnCl w' base (.slice (some ⟨g, 0, none⟩) n cap) C ∧ w.grownBy w' (some g) := by
  by_cases h : k + 1 < n
  · exact insertClue_mid base g n cap k vb vc C w hn h hn8 hcap ho hvb hne
  · exact insertClue_end base g n cap k vb vc C w hn (by omega) hn8 hcap ho hvb

set_option maxRecDepth 20000 in
set_option maxHeartbeats 4000000 in
theorem putBack_any (base h g n cap k b : Nat) (C : List Clu) (u : FrameMode) (w : World) (hn : C.length = n) (hk : k < n) (hn8 : n ≤ 8) (hcap : n ≤ cap) (hne : h ≠ g) (hhl : h < w.heap.size) (hbg : g < b) (hbh : h < b) (ht : TkAt h k (cAt C k) b w) (hx : w.cell? ⟨h, 1, none⟩ = some (.slice (some ⟨g, 0, none⟩) (n - 1) cap)) (hxf : w.frozen? ⟨h, 1, none⟩ = false) (ho : OwnCl w base (.slice (some ⟨g, 0, none⟩) (n - 1) cap) (dropC C k)) :
    CallsD Try.prog 95 #[.pointer (some ⟨b, 0, none⟩), .pointer (some ⟨b + 1, 0, none⟩), .pointer (some ⟨b + 2, 0, none⟩)] u w fun e u' w' => u' = u ∧ e = .returned (.tuple #[]) ∧ w'.heap[h]? = (w.setCell ⟨h, 1, none⟩ (.slice (some ⟨g, 0, none⟩) n cap)).heap[h]? ∧ OwnCl w' base (.slice (some ⟨g, 0, none⟩) n cap) C ∧ Kept2 g h w w' := by
  obtain ⟨hbl, t0, t1, t2, t3, t4⟩ := ht
  obtain ⟨x, y, z, hxyz⟩ : ∃ x y z, cAt C k = (x, y, z) := ⟨_, _, _, rfl⟩
  have hvl := (owns_ltC ho)
  have HB := Lib.hid (below1 w (.cells #[.int .i64 x, .int .i64 y, .int .i64 z] 130))
  have HV := Lib.hid (heap_alloc_new w (.cells #[.int .i64 x, .int .i64 y, .int .i64 z] 130))
  have hgl : g < w.heap.size := by omega
  have HIN := Lib.hid (fun W (hb : Below w.heap.size w W) (hv : W.heap[w.heap.size]? = some (.cells #[.int .i64 x, .int .i64 y, .int .i64 z] 130 (0, 0))) => insertClue_any base g n cap k w.heap.size 1 C W hn hk hn8 hcap (owns_now ho hb) (by rw [hxyz]; exact hv) (by omega))
  have hxyz' := hxyz
  rw [hxyz] at t2 t3 t4
  simp only at t2 t3 t4
  have HX := Lib.hid hx
  have HXF := Lib.hid hxf
  have HT0 := Lib.hid t0
  have a0 := (HB.out.cell (p := ⟨b, 0, none⟩) (show b < _ by omega)).trans t0
  have a1 := (HB.out.cell (p := ⟨b + 1, 0, none⟩) (show b + 1 < _ by omega)).trans t1
  have ax := (HB.out.cell (p := ⟨h, 1, none⟩) hhl).trans hx
  have c0 := t0
  have c1 := t1
  have cx := hx
  have HPC := Lib.hid (show ∀ W w3, Below w.heap.size w W → W.grownBy w3 (some g) → w3.cell? ⟨b, 0, none⟩ = some (.pointer (some ⟨h, 0, none⟩)) ∧ w3.cell? ⟨h, 1, none⟩ = some (.slice (some ⟨g, 0, none⟩) (n - 1) cap) ∧ w3.frozen? ⟨h, 1, none⟩ = false from fun W w3 hW hg => by
    have hz := hW.size
    have e1 : w3.heap[b]? = w.heap[b]? := (hg.block b (by omega) (by simp; omega)).trans (hW.block b (by omega))
    have e2 : w3.heap[h]? = w.heap[h]? := (hg.block h (by omega) (by simp; omega)).trans (hW.block h (by omega))
    exact ⟨(cell_congr e1).trans HT0.out, (cell_congr e2).trans HX.out, (frozen_congr e2).trans HXF.out⟩)
  have HEND := Lib.hid (show ∀ W w3, Below w.heap.size w W → W.grownBy w3 (some g) → OwnCl w3 base (.slice (some ⟨g, 0, none⟩) n cap) C → (w3.setCell ⟨h, 1, none⟩ (.slice (some ⟨g, 0, none⟩) n cap)).heap[h]? = (w.setCell ⟨h, 1, none⟩ (.slice (some ⟨g, 0, none⟩) n cap)).heap[h]? ∧ OwnCl (w3.setCell ⟨h, 1, none⟩ (.slice (some ⟨g, 0, none⟩) n cap)) base (.slice (some ⟨g, 0, none⟩) n cap) C ∧ Kept2 g h w (w3.setCell ⟨h, 1, none⟩ (.slice (some ⟨g, 0, none⟩) n cap)) from fun W w3 hW hg ho => by
    have hz := hW.size
    have e2 : w3.heap[h]? = w.heap[h]? := (hg.block h (by omega) (by simp; omega)).trans (hW.block h (by omega))
    refine ⟨by simp only [World.setCell, Array.getElem?_modify, e2], owns_far_ ho (fun e => hne e.symm) _, ⟨hg.os.trans hW.os, hg.tape.trans hW.tape, hg.output.trans hW.output, by have := hg.size; simp; omega, fun c hc hcg hch => ?_⟩⟩
    rw [Below.heap_setCell w3 ⟨h, 1, none⟩ _ c hch, hg.block c (by omega) (by simp; omega), hW.block c hc])
  clear ho hxyz hxyz' hn HT0 HX HXF t0 t1 hx hvl hbl hxf hk hn8 hcap hne hhl hbg hbh hgl
  go_enter_d Try.func95, Try.ntmps95
  go_wp2_with fail
  go_region_law (go_simp; go_at_call 96; refine (HIN.out _ (by first | exact HB.out | exact HB.out.drew) (by exact HV.out)).mono ?_; rintro e w3 ⟨rfl, ho3, hg3⟩; obtain ⟨p0, q1, f1⟩ := HPC.out _ w3 (by first | exact HB.out | exact HB.out.drew) hg3; have HE3 := Lib.hid (HEND.out _ w3 (by first | exact HB.out | exact HB.out.drew) hg3 ho3); clear ho3 hg3)
  all_goals
    go_wp2
    go_end0
    first | exact ⟨rfl, HE3.out⟩ | exact ⟨rfl, rfl, HE3.out⟩
end Go.Proofs.Ytnldodnpakpeeaa
