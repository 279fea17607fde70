/- Contracts of the program's games and swings of chambers. -/
import Derived.Test.YtkckefjpkhjeaaaBg
import Derived.Test.YtkckefjpkhjeaaaA5
namespace Go.Proofs.Ytkckefjpkhjeaaa
open Go.RowKit Vo

theorem inOrder_in {n j : Nat} {p : Nat → Bool} (hn : n < 10) (hj : j < ((inOrder n).filter p).length) : ((inOrder n).filter p).getD j 0 < 512 := by
  rw [List.getD_eq_getElem?_getD, List.getElem?_eq_getElem hj]
  have h := mem_inOrder.1 (List.mem_filter.1 (List.getElem_mem hj)).1
  have h5 := pow_lt (n := n) (by omega)
  show ((inOrder n).filter p)[j] < 512
  omega
theorem inOrder_few {n : Nat} {p : Nat → Bool} (hn : n < 10) : ((inOrder n).filter p).length ≤ 512 := by
  have h1 := List.length_filter_le p (inOrder n)
  have h2 := inOrder_len n
  have := pow_lt (n := n) (by omega)
  omega

theorem cellf2 {w : World} {p q r : Addr} {v u1 u2 : Value} (h : w.cell? p = some v) (h1 : p.block ≠ q.block) (h2 : p.block ≠ r.block) : ((w.setCell q u1).setCell r u2).cell? p = some v := by
  rw [World.cell?_of_block (w := w) ((Below.heap_setCell _ r u2 p.block h2).trans (Below.heap_setCell _ q u1 p.block h1))]
  exact h

set_option maxRecDepth 20000 in
set_option maxHeartbeats 4000000 in
theorem aGame_any (p : Nat → Bool) (n g b : Nat) (w0 w : World) (hn : n < 10) (h : Asm p n g b w0 w) :
    Calls Try.prog 85 #[.pointer (some ⟨g, 0, none⟩)] w fun e w' => ∃ B cp, e = .returned (.agg #[.int .i64 n, .slice B (setsL ((inOrder n).filter (leastP p n))).length cp]) ∧ Lies (RSS (setsL ((inOrder n).filter (leastP p n))) w.heap.size w'.heap.size (.slice B (setsL ((inOrder n).filter (leastP p n))).length cp)) w.heap.size w'.heap.size w' ∧ w.grownBy w' (some b) := by
  have hgl := h.glt
  have hbl := h.memo.lt
  have hne := h.ne
  have HH := Lib.hid h
  obtain ⟨k, first, cap, hbox, _⟩ := h.box
  have HBX := Lib.hid hbox
  obtain ⟨S, hS⟩ : ∃ S, S = (inOrder n).filter (leastP p n) := ⟨_, rfl⟩
  have HIN := Lib.hid (show ∀ j, j < S.length → S.getD j 0 < 512 from fun j hj => by rw [hS] at hj ⊢; exact inOrder_in hn hj)
  have HFEW := Lib.hid (show S.length ≤ 512 from by rw [hS]; exact inOrder_few hn)
  have HL := Lib.hid (fun W (hW : Asm p n g b w0 W) => aLeast_any p n g b w0 W hn hW)
  rw [← hS] at HL ⊢
  clear hS
  obtain ⟨m, hm⟩ : ∃ m, m = S.length := ⟨_, rfl⟩
  have HM := Lib.hid hm
  have hb0 := below1 w (.cells #[.int .i64 0, .slice none 0 0] 37)
  have hr := BoxT.new 37 w (.int .i64 0) (.slice none 0 0)
  obtain ⟨w1, hw1⟩ : ∃ w1, w1 = w.alloc (.cells #[.int .i64 0, .slice none 0 0] 37) := ⟨_, rfl⟩
  rw [← hw1] at hb0 hr
  have hz1 : w1.heap.size = w.heap.size + 1 := by rw [hw1]; simp
  have HA1 := Lib.hid (HH.out.now hb0)
  have K := Lib.hid (show ∀ W, w1.grownBy W (some b) → (W.cell? ⟨g, 0, none⟩ = some (.int .i64 n) ∧ W.cell? ⟨w.heap.size, 0, none⟩ = some (.int .i64 0) ∧ W.cell? ⟨w.heap.size, 1, none⟩ = some (.slice none 0 0) ∧ W.frozen? ⟨w.heap.size, 0, none⟩ = false ∧ W.frozen? ⟨w.heap.size, 1, none⟩ = false) from fun W hg => by
    have hx : AsmBox n k first cap b W g := (hg.block g (by omega) (by simp; omega)).trans ((hb0.block g hgl).trans HBX.out)
    have hrr : BoxT 37 W w.heap.size (.int .i64 0) (.slice none 0 0) := hr.grown hg (by simp; omega)
    have hfz : ∀ i, W.frozen? ⟨w.heap.size, i, none⟩ = false := fun i => by unfold BoxT at hrr; simp [World.frozen?, hrr]
    exact ⟨hx.cells.1, hrr.cells.1, hrr.cells.2, hfz 0, hfz 1⟩)
  obtain ⟨c0, c2, c3, c4, c5⟩ := K.out _ (World.grownBy.refl _ _)
  have g0 := Lib.hid hb0
  clear hbox hr hb0 hm
  go_enter Try.func85, Try.ntmps85
  go_wp2_with fail
  rw [← hw1]
  clear hw1
  go_region_held3 (fun w' => w'.cell? ⟨g, 0, none⟩ = some (.int .i64 n) ∧ (w'.cell? ⟨w.heap.size, 0, none⟩).isSome = true ∧ (w'.cell? ⟨w.heap.size, 1, none⟩).isSome = true ∧ w'.frozen? ⟨w.heap.size, 0, none⟩ = false ∧ w'.frozen? ⟨w.heap.size, 1, none⟩ = false)
    (first | exact ⟨c0, by rw [c2]; rfl, by rw [c3]; rfl, c4, c5⟩ | exact ⟨a0, by rw [a2]; rfl, by rw [a3]; rfl, a4, a5⟩ | exact ⟨d0, by rw [d2]; rfl, by rw [d3]; rfl, d4, d5⟩ | ((try dsimp only); (repeat' apply And.intro); all_goals (first | exact cellf2 d0 (by simp; omega) (by simp; omega) | exact isSome_set (isSome_set (Option.isSome_iff_exists.2 ⟨_, d2⟩)) | exact isSome_set (isSome_set (Option.isSome_iff_exists.2 ⟨_, d3⟩)) | go_keep)) | go_keep)
    (first
      | (go_at_call 88; refine (HL.out _ (HA1.out.now (Below.refl _ _).drew)).mono ?_; rintro e wA ⟨A, cp, rfl, hown, hasm, hgA⟩; rw [← HM.out]; rw [← HM.out] at hown; have HOA := Lib.hid hown; clear hown hasm; have gA := gcons (Below.refl _ w1).drew hgA; obtain ⟨a0, a2, a3, a4, a5⟩ := K.out _ gA)
      | (go_at_call 121; refine (told_any S n _ m cp A _ HM.out (by have := HFEW.out; have := HM.out; omega) (by rw [HM.out]; exact HIN.out) HOA.out).mono ?_; rintro e wC ⟨BC, cC, rfl, hlC, hbC⟩; have HLC := Lib.hid hlC; clear hlC; have gC := gA.trans (gof (some b) hbC (Nat.le_refl _)); obtain ⟨d0, d2, d3, d4, d5⟩ := K.out _ gC)
      | fail)
  have hzA := gA.size
  have hzC := gC.size
  have HSL := Lib.hid (setsL_len S)
  clear a0 a2 a3 a4 a5 c0 c2 c3 c4 c5 d0 d4 d5
  go_wp2
  refine bodyPost_ret (v := .agg #[.int .i64 n, .slice BC m cC]) (by simp [results, Try.results85, go_sem, d2, d3]) rfl ?_
  rw [HSL.out, ← HM.out]
  refine ⟨BC, cC, rfl, ?_, ?_⟩
  · exact Lies.rss_wide (Lies.far (Lies.far HLC.out (by first | omega | (simp; omega)) _) (by first | omega | (simp; omega)) _) (by omega) (by first | exact Nat.le_refl _ | simp) (by first | exact Nat.le_refl _ | simp)
  · have h1 := gcons g0.out gC
    exact gstep (gstep h1 (grown_set (grown_refl wC (some w.heap.size)) 0 (.int .i64 n)) (fun j hj => by cases hj; exact Nat.le_refl _)) (grown_set (grown_refl _ (some w.heap.size)) 1 _) (fun j hj => by cases hj; exact Nat.le_refl _)

theorem asm_below {w w1 w2 w0 : World} {p : Nat → Bool} {n g b : Nat} (hb : Below w.heap.size w w1) (ha : Asm p n g b w0 w1) (h0 : w.heap.size ≤ w0.heap.size) (hg : w1.grownBy w2 (some b)) : Below w.heap.size w w2 :=
  hb.grown hg hb.size (fun k hk => by cases hk; have := ha.bw; omega)

set_option maxRecDepth 20000 in
set_option maxHeartbeats 4000000 in
theorem gameOfChambers_ans (P : List (Int × List Int) → Nat → Bool) (f n cp : Nat) (A : Option Addr) (C : List (Int × List Int)) (w : World) (hf : AsksL P f) (hm : n ≤ 9223372036854775807) (hk : KCS w A n C) :
    Calls Try.prog 72 #[.slice A n cp, .func (.func f) #[] #[]] w fun e w' => AnsG RSS (okM (chB C) (nAt C 0)) (okG (chB C) ((inOrder (nAt C 0)).filter (leastP (P C) (nAt C 0)))) (chB C) w w' e := by
  have HF := Lib.hid hf
  have HK := Lib.hid hk
  clear hf hk
  have hb0 := below1 w (.cells #[.int .i64 0, .slice none 0 0] 37)
  have hr := BoxT.new 37 w (.int .i64 0) (.slice none 0 0)
  have KF := Lib.hid (show ∀ W, BoxT 37 W w.heap.size (.int .i64 0) (.slice none 0 0) → (W.frozen? ⟨w.heap.size, 0, none⟩ = false ∧ W.frozen? ⟨w.heap.size, 1, none⟩ = false) from fun W h => by unfold BoxT at h; exact ⟨by simp [World.frozen?, h], by simp [World.frozen?, h]⟩)
  cases hc : chB C with
  | true =>
    obtain ⟨hl1, _, hgood⟩ := chB_parts hc
    have h9 : nAt C 0 < 10 := by have := (hgood 0 (by omega)).1.hi; omega
    have HM := Lib.hid (okM_yes (m := (nAt C 0 : Int)) (show true = true from rfl))
    have HG := Lib.hid (okG_yes (S := (inOrder (nAt C 0)).filter (leastP (P C) (nAt C 0))) (show true = true from rfl))
    have HC := Lib.hid hc
    clear hc hgood hl1
    rw [HM.out, HG.out]
    obtain ⟨m0, hm0⟩ : ∃ z, z = nAt C 0 := ⟨_, rfl⟩
    have HR := Lib.hid (fun W (h : KCS W A n C) => readChambers_yes P f n cp A C W HF.out hm h HC.out)
    rw [← hm0] at h9 ⊢
    simp only [← hm0] at HR
    clear hm0 HM HG
    have HS := Lib.hid (setsL_len ((inOrder m0).filter (leastP (P C) m0)))
    obtain ⟨L, hL⟩ : ∃ L, L = setsL ((inOrder m0).filter (leastP (P C) m0)) := ⟨_, rfl⟩
    have HGA := Lib.hid (fun g b w0 W h => aGame_any (P C) m0 g b w0 W h9 h)
    simp only [← hL] at HGA
    rw [← hL]
    clear hL HS
    obtain ⟨ln, hln⟩ : ∃ z, z = L.length := ⟨_, rfl⟩
    simp only [← hln] at HGA
    have HLN := Lib.hid hln
    clear hln
    go_enter Try.func72, Try.ntmps72
    go_wp2_with fail
    refine (HR.out _ (HK.out.now hb0)).mono ?_
    rintro e w1 ⟨g, b, w0, rfl, hasm, hw0, hb1⟩
    have HA := Lib.hid hasm
    have hgg := hasm.gw
    have hbb := hasm.bw
    have HB1 := Lib.hid hb1
    have hr1 := hr.now hb1
    simp only [World.size_alloc] at hw0
    clear hasm hb1
    go_wp2_with fail
    refine (HGA.out g b w0 _ HA.out).mono ?_
    rintro e w2 ⟨B, cB, rfl, hl2, hg2⟩
    have HL2 := Lib.hid hl2
    have HB2 := Lib.hid (asm_below HB1.out HA.out (by simp; omega) hg2)
    have hz1 := HB1.out.size
    have hz2 := hg2.size
    simp only [World.size_alloc] at hz1
    have hr2 := hr1.grown hg2 (by simp; omega)
    obtain ⟨f0, f1⟩ := KF.out _ hr2
    obtain ⟨c0, c1⟩ := hr2.cells
    clear hl2 hg2
    go_wp2
    refine bodyPost_ret (v := .tuple #[.agg #[.int .i64 m0, .slice B ln cB], .bool true]) (by simp [results, Try.results72, go_sem, c0, c1]) rfl ⟨B, cB, by rw [HLN.out], ?_, ?_⟩
    · rw [← HLN.out]
      exact Lies.rss_wide (Lies.far (Lies.far HL2.out (by first | omega | (simp; omega)) _) (by first | omega | (simp; omega)) _) (by omega) (by first | exact Nat.le_refl _ | simp) (by first | exact Nat.le_refl _ | simp)
    · exact (((below1 w (.cells #[.int .i64 0, .slice none 0 0] 37)).trans (HB2.out.mono (by simp))).setCell (by simp) _).setCell (by simp) _
  | false =>
    have HC := Lib.hid hc
    have HM := Lib.hid (okM_no (m := (nAt C 0 : Int)) (show false = false from rfl))
    have HG := Lib.hid (okG_no (S := (inOrder (nAt C 0)).filter (leastP (P C) (nAt C 0))) (show false = false from rfl))
    rw [HM.out, HG.out]
    clear hc
    go_enter Try.func72, Try.ntmps72
    go_wp2_with fail
    refine (readChambers_no f n cp A C _ hm (HK.out.now hb0) HC.out).mono ?_
    rintro e w1 ⟨rfl, hb1⟩
    have g1 := bfrom hb0 hb1
    have hr1 := hr.now hb1
    obtain ⟨f0, f1⟩ := KF.out _ hr1
    obtain ⟨c0, c1⟩ := hr1.cells
    go_wp2
    refine bodyPost_ret (v := .tuple #[.agg #[.int .i64 0, .slice none 0 0], .bool false]) (by simp [results, Try.results72, go_sem, c0, c1]) rfl ?_
    exact AnsG.none_ RSS.none_ ((g1.setCell (by simp) _).setCell (by simp) _)

set_option maxRecDepth 20000 in
set_option maxHeartbeats 2000000 in
theorem allGame_ans (A : Option Addr) (n cp : Nat) (C : List (Int × List Int)) (w : World) (hm : n ≤ 9223372036854775807) (hk : KCS w A n C) :
    Calls Try.prog 27 #[.slice A n cp] w fun e w' => AnsG RSS (okM (chB C) (nAt C 0)) (okG (chB C) ((inOrder (nAt C 0)).filter (leastP (allP C) (nAt C 0)))) (chB C) w w' e := by
  have hb0 := below1 w (.cells #[.int .i64 0, .slice none 0 0] 37)
  have hr := BoxT.new 37 w (.int .i64 0) (.slice none 0 0)
  have KF := Lib.hid (show ∀ W, BoxT 37 W w.heap.size (.int .i64 0) (.slice none 0 0) → (W.frozen? ⟨w.heap.size, 0, none⟩ = false ∧ W.frozen? ⟨w.heap.size, 1, none⟩ = false) from fun W h => by unfold BoxT at h; exact ⟨by simp [World.frozen?, h], by simp [World.frozen?, h]⟩)
  have HG := Lib.hid (gameOfChambers_ans allP 69 n cp A C _ winAll_asks hm (hk.now hb0))
  clear hk
  generalize okM (chB C) (nAt C 0) = m at *
  generalize okG (chB C) ((inOrder (nAt C 0)).filter (leastP (allP C) (nAt C 0))) = L at *
  generalize chB C = ok at *
  obtain ⟨ln, hln⟩ : ∃ z, z = L.length := ⟨_, rfl⟩
  have HLN := Lib.hid hln
  simp only [AnsG, ← hln] at HG
  clear hln
  go_enter Try.func27, Try.ntmps27
  go_wp2_with fail
  refine HG.out.mono ?_
  rintro e w1 ⟨B, cB, rfl, hl1, hb1⟩
  simp only [World.size_alloc] at hl1
  have HL1 := Lib.hid hl1
  have g1 := bfrom hb0 hb1
  have hz1 := hb1.size
  simp only [World.size_alloc] at hz1
  have hr1 := hr.now hb1
  obtain ⟨f0, f1⟩ := KF.out _ hr1
  obtain ⟨c0, c1⟩ := hr1.cells
  clear hl1
  go_wp2
  refine bodyPost_ret (v := .tuple #[.agg #[.int .i64 m, .slice B ln cB], .bool ok]) (by simp [results, Try.results27, go_sem, c0, c1]) rfl ⟨B, cB, by rw [HLN.out], ?_, ?_⟩
  · rw [← HLN.out]
    exact Lies.rss_wide (Lies.far (Lies.far HL1.out (by first | omega | (simp; omega) | simp) _) (by first | omega | (simp; omega) | simp) _) (by omega) (by first | exact Nat.le_refl _ | simp) (by first | exact Nat.le_refl _ | simp)
  · exact (g1.setCell (by simp) _).setCell (by simp) _

set_option maxRecDepth 20000 in
set_option maxHeartbeats 2000000 in
theorem someGame_ans (A : Option Addr) (n cp : Nat) (C : List (Int × List Int)) (w : World) (hm : n ≤ 9223372036854775807) (hk : KCS w A n C) :
    Calls Try.prog 33 #[.slice A n cp] w fun e w' => AnsG RSS (okM (chB C) (nAt C 0)) (okG (chB C) ((inOrder (nAt C 0)).filter (leastP (someP C) (nAt C 0)))) (chB C) w w' e := by
  have hb0 := below1 w (.cells #[.int .i64 0, .slice none 0 0] 37)
  have hr := BoxT.new 37 w (.int .i64 0) (.slice none 0 0)
  have KF := Lib.hid (show ∀ W, BoxT 37 W w.heap.size (.int .i64 0) (.slice none 0 0) → (W.frozen? ⟨w.heap.size, 0, none⟩ = false ∧ W.frozen? ⟨w.heap.size, 1, none⟩ = false) from fun W h => by unfold BoxT at h; exact ⟨by simp [World.frozen?, h], by simp [World.frozen?, h]⟩)
  have HG := Lib.hid (gameOfChambers_ans someP 70 n cp A C _ winSome_asks hm (hk.now hb0))
  clear hk
  generalize okM (chB C) (nAt C 0) = m at *
  generalize okG (chB C) ((inOrder (nAt C 0)).filter (leastP (someP C) (nAt C 0))) = L at *
  generalize chB C = ok at *
  obtain ⟨ln, hln⟩ : ∃ z, z = L.length := ⟨_, rfl⟩
  have HLN := Lib.hid hln
  simp only [AnsG, ← hln] at HG
  clear hln
  go_enter Try.func33, Try.ntmps33
  go_wp2_with fail
  refine HG.out.mono ?_
  rintro e w1 ⟨B, cB, rfl, hl1, hb1⟩
  simp only [World.size_alloc] at hl1
  have HL1 := Lib.hid hl1
  have g1 := bfrom hb0 hb1
  have hz1 := hb1.size
  simp only [World.size_alloc] at hz1
  have hr1 := hr.now hb1
  obtain ⟨f0, f1⟩ := KF.out _ hr1
  obtain ⟨c0, c1⟩ := hr1.cells
  clear hl1
  go_wp2
  refine bodyPost_ret (v := .tuple #[.agg #[.int .i64 m, .slice B ln cB], .bool ok]) (by simp [results, Try.results33, go_sem, c0, c1]) rfl ⟨B, cB, by rw [HLN.out], ?_, ?_⟩
  · rw [← HLN.out]
    exact Lies.rss_wide (Lies.far (Lies.far HL1.out (by first | omega | (simp; omega) | simp) _) (by first | omega | (simp; omega) | simp) _) (by omega) (by first | exact Nat.le_refl _ | simp) (by first | exact Nat.le_refl _ | simp)
  · exact (g1.setCell (by simp) _).setCell (by simp) _
end Go.Proofs.Ytkckefjpkhjeaaa
