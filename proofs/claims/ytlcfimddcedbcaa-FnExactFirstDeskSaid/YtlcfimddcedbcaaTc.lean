/- Marks in desks, and the walk of the exact law of FirstDesk. -/
import Derived.Test.YtlcfimddcedbcaaTb
import Derived.Test.YtlcfimddcedbcaaM2
import Derived.BigQuiet
namespace Go.Proofs.Ytlcfimddcedbcaa
open Go.RowKit Vo

theorem Turn.wide {lo hi lo' hi' : Nat} {w w' : World} (h : Turn lo hi w w') (h1 : lo' ≤ lo) (h2 : hi ≤ hi') : Turn lo' hi' w w' :=
  ⟨h.os, h.tape, h.output, h.size, fun k hk ho => h.block k hk (by omega)⟩

set_option maxHeartbeats 1000000 in
theorem markGame_f (d lo hi : Nat) (w : World) (h : Lies (RSS fdL lo hi (.slice (some ⟨d, 0, none⟩) 2 2)) lo hi w) :
    Calls Try.prog 59 #[.agg #[.int .i64 4, .slice (some ⟨d, 0, none⟩) 2 2], .int .i64 5] w fun e w' => e = .returned (.int .i64 9) ∧ Turn lo hi w w' ∧ MSS fdL lo hi 5 (.slice (some ⟨d, 0, none⟩) 2 2) w' := by
  have H := Lib.hid h
  clear h
  go_enter Try.func59, Try.ntmps59
  go_wp2_with fail
  refine (markIntSS_k 5 (by omega) (by omega) _ fd_few (by decide) (H.out.alloc _)).mono ?_
  rw [fd_tot]
  rintro e w1 ⟨rfl, ht, hk⟩
  have HT := Lib.hid ht
  have HK := Lib.hid hk
  clear ht hk
  go_wp2
  go_ret
  exact ⟨rfl, (Turn.of_below (below1 w _)).trans HT.out, HK.out⟩
set_option maxHeartbeats 1000000 in
theorem heldGame_f (d lo hi : Nat) (w : World) (h : Lies (MSS fdL lo hi 5 (.slice (some ⟨d, 0, none⟩) 2 2)) lo hi w) :
    Calls Try.prog 61 #[.agg #[.int .i64 4, .slice (some ⟨d, 0, none⟩) 2 2], .int .i64 5] w fun e w' => e = .returned (.int .i64 9) ∧ Below w.heap.size w w' := by
  have H := Lib.hid h
  clear h
  go_enter Try.func61, Try.ntmps61
  go_wp2_with fail
  refine (heldIntSS_k 5 (by omega) (by omega) _ fd_few (by decide) (H.out.alloc _)).mono ?_
  rw [fd_tot]
  rintro e w1 ⟨rfl, hb⟩
  have HB := Lib.hid hb
  clear hb
  go_wp2
  go_ret
  exact ⟨rfl, bfrom (below1 w _) HB.out⟩

set_option maxRecDepth 20000 in
set_option maxHeartbeats 2000000 in
theorem markDesk_f (a d lo hi : Nat) (w : World) (ha : a < lo) (hal : a < hi) (hr : Ints w a 4 fdW) (h : Lies (RSS fdL lo hi (.slice (some ⟨d, 0, none⟩) 2 2)) lo hi w) :
    Calls Try.prog 17 #[.agg #[.int .i64 5, .slice (some ⟨a, 0, none⟩) 4 4, .int .i64 4, .slice (some ⟨d, 0, none⟩) 2 2], .int .i64 1] w fun e w' => e = .returned (.int .i64 9) ∧ Turn a hi w w' ∧ Marked w' (some ⟨a, 0, none⟩) 4 1 ∧ MSS fdL lo hi 5 (.slice (some ⟨d, 0, none⟩) 2 2) w' := by
  have b0 := below1 w (.cells #[.int .i64 5, .slice (some ⟨a, 0, none⟩) 4 4, .int .i64 4, .slice (some ⟨d, 0, none⟩) 2 2] 29)
  have hx := Bx4.new 29 w (.int .i64 5) (.slice (some ⟨a, 0, none⟩) 4 4) (.int .i64 4) (.slice (some ⟨d, 0, none⟩) 2 2)
  have hhi := h.hi_le
  have H := Lib.hid (h.now b0)
  have HR := Lib.hid (show RowAt (w.alloc (.cells #[.int .i64 5, .slice (some ⟨a, 0, none⟩) 4 4, .int .i64 4, .slice (some ⟨d, 0, none⟩) 2 2] 29)) (some ⟨a, 0, none⟩) 4 from Or.inr ⟨a, _, rfl, Own.below hr b0 hr.lt⟩)
  have hal2 := hr.lt
  have HT := Lib.hid fd_tot
  clear h hr
  obtain ⟨c0, c1, c2, c3⟩ := hx.cells
  go_enter Try.func17, Try.ntmps17
  go_wp2_with fail
  refine (markCommittee_marked _ _ 4 4 _ (by omega) HR.out).mono ?_
  rintro e w1 ⟨rfl, ho1, hm1⟩
  have HM1 := Lib.hid hm1
  have t1 : Turn a (a + 1) (w.alloc (.cells #[.int .i64 5, .slice (some ⟨a, 0, none⟩) 4 4, .int .i64 4, .slice (some ⟨d, 0, none⟩) 2 2] 29)) w1 := Turn.of_grown ho1 (fun k hk => by simp at hk; omega)
  have hx1 := hx.turn t1 (by omega)
  have H1 := Lib.hid (H.out.turn t1 (by omega))
  clear ho1 hm1 c0 c1 c2 c3
  obtain ⟨c0, c1, c2, c3⟩ := hx1.cells
  go_wp2_with fail
  refine (markGame_f d lo hi _ H1.out).mono ?_
  rintro e w2 ⟨rfl, t2, hk2⟩
  have HK2 := Lib.hid hk2
  have T2 := Lib.hid t2
  have T1 := Lib.hid t1
  have M2 := Lib.hid (show Marked w2 (some ⟨a, 0, none⟩) 4 1 from by
    rcases HM1.out with h | ⟨g, hg, hO⟩
    · omega
    · obtain rfl : a = g := by simpa using hg
      exact Or.inr ⟨a, rfl, hO.turn t2 (Or.inl ha)⟩)
  clear t1 t2 hk2 c0 c1 c2 c3
  go_wp2
  go_ret
  exact ⟨rfl, (Turn.of_below (below1 w _)).trans ((T1.out.wide (Nat.le_refl _) (by omega)).trans (T2.out.wide (by omega) (Nat.le_refl _))), M2.out, HK2.out⟩

set_option maxRecDepth 20000 in
set_option maxHeartbeats 2000000 in
theorem heldDesk_f (a d lo hi : Nat) (w : World) (hm : Marked w (some ⟨a, 0, none⟩) 4 1) (h : Lies (MSS fdL lo hi 5 (.slice (some ⟨d, 0, none⟩) 2 2)) lo hi w) :
    Calls Try.prog 18 #[.agg #[.int .i64 5, .slice (some ⟨a, 0, none⟩) 4 4, .int .i64 4, .slice (some ⟨d, 0, none⟩) 2 2], .int .i64 1] w fun e w' => e = .returned (.int .i64 9) ∧ Below w.heap.size w w' := by
  have b0 := below1 w (.cells #[.int .i64 5, .slice (some ⟨a, 0, none⟩) 4 4, .int .i64 4, .slice (some ⟨d, 0, none⟩) 2 2] 29)
  have hx := Bx4.new 29 w (.int .i64 5) (.slice (some ⟨a, 0, none⟩) 4 4) (.int .i64 4) (.slice (some ⟨d, 0, none⟩) 2 2)
  have H := Lib.hid (h.now b0)
  have HM := Lib.hid (hm.now b0)
  clear h hm
  obtain ⟨c0, c1, c2, c3⟩ := hx.cells
  go_enter Try.func18, Try.ntmps18
  go_wp2_with fail
  refine (heldCommittee_any _ _ 4 4 _ (by omega) HM.out).mono ?_
  rintro e w1 ⟨rfl, hb1⟩
  have g1 := bfrom b0 hb1
  clear c0 c1 c2 c3
  obtain ⟨c0, c1, c2, c3⟩ := (hx.now hb1).cells
  go_wp2_with fail
  refine (heldGame_f d lo hi _ (H.out.now hb1)).mono ?_
  rintro e w2 ⟨rfl, hb2⟩
  go_wp2
  go_ret
  exact ⟨rfl, bfrom g1 hb2⟩

set_option maxRecDepth 20000 in
set_option maxHeartbeats 4000000 in
theorem lawFirstDesk (w : World) :
    Calls Try.prog 3 #[] w fun e w' => e = .returned (.bool true) ∧ Below w.heap.size w w' := by
  go_enter Try.func3, Try.ntmps3
  go_wp2_with fail
  refine (sFirstDesk_any _).mono ?_
  rintro e w1 ⟨a1, d1, lo1, hi1, rfl, ha1, hal1, hlh1, hi1', hl1, hb1⟩
  have b1 := below1 w1 (.cells #[.int .i64 5, .slice (some ⟨a1, 0, none⟩) 4 4, .int .i64 4, .slice (some ⟨d1, 0, none⟩) 2 2] 29)
  have x2 := Bx4.new 29 w1 (.int .i64 5) (.slice (some ⟨a1, 0, none⟩) 4 4) (.int .i64 4) (.slice (some ⟨d1, 0, none⟩) 2 2)
  have hal1w := hi1'.lt
  have hhi1 := hl1.hi_le
  have S2 := Lib.hid (Own.below hi1' b1 hi1'.lt)
  have L2 := Lib.hid (hl1.now b1)
  have G2 := Lib.hid (bfrom hb1 b1)
  obtain ⟨w2, hw2⟩ : ∃ w2, w2 = w1.alloc (.cells #[.int .i64 5, .slice (some ⟨a1, 0, none⟩) 4 4, .int .i64 4, .slice (some ⟨d1, 0, none⟩) 2 2] 29) := ⟨_, rfl⟩
  have hz2 : w1.heap.size < w2.heap.size := by rw [hw2]; simp
  rw [← hw2] at x2 S2 L2 G2
  obtain ⟨p2, hp2⟩ : ∃ p, p = w1.heap.size := ⟨_, rfl⟩
  rw [← hp2] at x2 hz2 hal1w hhi1
  clear hi1' hl1 hb1 b1
  go_wp2_with fail
  rw [← hw2, ← hp2]
  clear hw2 hp2
  refine (iFirstDesk_any _).mono ?_
  rintro e w3 ⟨a3, d3, lo3, hi3, rfl, ha3, hal3, hlh3, hi3', hl3, hb3⟩
  have b3 := below1 w3 (.cells #[.int .i64 5, .slice (some ⟨a3, 0, none⟩) 4 4, .int .i64 4, .slice (some ⟨d3, 0, none⟩) 2 2] 29)
  have b34 := bfrom hb3 b3
  have y4 := Bx4.new 29 w3 (.int .i64 5) (.slice (some ⟨a3, 0, none⟩) 4 4) (.int .i64 4) (.slice (some ⟨d3, 0, none⟩) 2 2)
  have hal3w := hi3'.lt
  have hhi3 := hl3.hi_le
  have x4 := x2.now b34
  have S4 := Lib.hid (Own.below S2.out b34 S2.out.lt)
  have L4 := Lib.hid (L2.out.now b34)
  have I4 := Lib.hid (Own.below hi3' b3 hi3'.lt)
  have J4 := Lib.hid (hl3.now b3)
  have G4 := Lib.hid (bfrom G2.out b34)
  have hz3 := hb3.size
  clear hi3' hl3 hb3 b3 b34 S2 L2 G2 x2
  obtain ⟨c0, c1, c2, c3⟩ := x4.cells
  obtain ⟨e0, e1, e2, e3⟩ := y4.cells
  go_wp2_with fail
  obtain ⟨w4, hw4⟩ : ∃ w4, w4 = w3.alloc (.cells #[.int .i64 5, .slice (some ⟨a3, 0, none⟩) 4 4, .int .i64 4, .slice (some ⟨d3, 0, none⟩) 2 2] 29) := ⟨_, rfl⟩
  have hz4 : w3.heap.size < w4.heap.size := by rw [hw4]; simp
  rw [← hw4] at x4 y4 S4 L4 I4 J4 G4 ⊢
  obtain ⟨p4, hp4⟩ : ∃ p, p = w3.heap.size := ⟨_, rfl⟩
  rw [← hp4] at y4 hz4 hal3w hhi3 hz3 ⊢
  clear hw4 hp4 c0 c1 c2 c3 e0 e1 e2 e3
  refine (eqDesk_same 5 4 a3 0 4 4 a1 0 4 fdW _ _ 2 2 2 _ (by omega) (Ints.sl I4.out) (Ints.sl S4.out) (by decide) J4.out L4.out.rss0).mono ?_
  rintro e w5 ⟨rfl, hb5⟩
  have x5 := x4.now hb5
  have y5 := y4.now hb5
  have S5 := Lib.hid (Own.below S4.out hb5 S4.out.lt)
  have L5 := Lib.hid (L4.out.now hb5)
  have I5 := Lib.hid (Own.below I4.out hb5 I4.out.lt)
  have J5 := Lib.hid (J4.out.now hb5)
  have G5 := Lib.hid (bfrom G4.out hb5)
  have hz5 := hb5.size
  clear x4 y4 S4 L4 I4 J4 G4 hb5
  obtain ⟨e0, e1, e2, e3⟩ := y5.cells
  go_wp2_with fail
  refine (markDesk_f a3 d3 lo3 hi3 _ hal3 (by omega) I5.out J5.out).mono ?_
  rintro e w6 ⟨rfl, t6, hm6, hk6⟩
  have x6 := x5.turn t6 (by omega)
  have y6 := y5.turn t6 (by omega)
  have S6 := Lib.hid (S5.out.turn t6 (by omega))
  have L6 := Lib.hid (L5.out.turn t6 (by omega))
  have hz6 := t6.size
  have M6 := Lib.hid hm6
  have K6 := Lib.hid (hk6.lies (by omega))
  have G6 := Lib.hid (Turn.below G5.out t6 (by have := G5.out.size; omega) (G5.out.size))
  clear e0 e1 e2 e3 x5 y5 S5 L5 I5 J5 G5 t6 hm6 hk6
  obtain ⟨e0, e1, e2, e3⟩ := y6.cells
  go_wp2_with fail
  refine (heldDesk_f a3 d3 lo3 hi3 _ M6.out K6.out).mono ?_
  rintro e w7 ⟨rfl, hb7⟩
  have x7 := x6.now hb7
  have y7 := y6.now hb7
  have S7 := Lib.hid (Own.below S6.out hb7 S6.out.lt)
  have L7 := Lib.hid (L6.out.now hb7)
  have M7 := Lib.hid (M6.out.now hb7)
  have K7 := Lib.hid (K6.out.now hb7)
  have G7 := Lib.hid (bfrom G6.out hb7)
  clear e0 e1 e2 e3 x6 y6 S6 L6 M6 K6 G6 hb7
  go_wp2_with fail
  refine (iFirstDesk_any _).mono ?_
  rintro e w8 ⟨a8, d8, lo8, hi8, rfl, ha8, hal8, hlh8, hi8', hl8, hb8⟩
  have b8 := below1 w8 (.cells #[.int .i64 5, .slice (some ⟨a8, 0, none⟩) 4 4, .int .i64 4, .slice (some ⟨d8, 0, none⟩) 2 2] 29)
  have b89 := bfrom hb8 b8
  have z9 := Bx4.new 29 w8 (.int .i64 5) (.slice (some ⟨a8, 0, none⟩) 4 4) (.int .i64 4) (.slice (some ⟨d8, 0, none⟩) 2 2)
  have x9 := x7.now b89
  have y9 := y7.now b89
  have S9 := Lib.hid (Own.below S7.out b89 S7.out.lt)
  have L9 := Lib.hid (L7.out.now b89)
  have I9 := Lib.hid (Own.below hi8' b8 hi8'.lt)
  have J9 := Lib.hid (hl8.now b8)
  have M9 := Lib.hid (M7.out.now b89)
  have K9 := Lib.hid (K7.out.now b89)
  have G9 := Lib.hid (bfrom G7.out b89)
  clear hi8' hl8 hb8 b8 b89 x7 y7 S7 L7 M7 K7 G7
  obtain ⟨c0, c1, c2, c3⟩ := x9.cells
  obtain ⟨f0, f1, f2, f3⟩ := z9.cells
  go_wp2_with fail
  refine (eqDesk_same 5 4 a8 0 4 4 a1 0 4 fdW _ _ 2 2 2 _ (by omega) (Ints.sl I9.out) (Ints.sl S9.out) (by decide) J9.out L9.out.rss0).mono ?_
  rintro e w10 ⟨rfl, hb10⟩
  have y10 := y9.now hb10
  have M10 := Lib.hid (M9.out.now hb10)
  have K10 := Lib.hid (K9.out.now hb10)
  have G10 := Lib.hid (bfrom G9.out hb10)
  clear c0 c1 c2 c3 f0 f1 f2 f3 x9 y9 z9 S9 L9 I9 J9 M9 K9 G9 hb10
  obtain ⟨e0, e1, e2, e3⟩ := y10.cells
  go_wp2_with fail
  refine (heldDesk_f a3 d3 lo3 hi3 _ M10.out K10.out).mono ?_
  rintro e w11 ⟨rfl, hb11⟩
  go_wp2
  go_ret
  exact ⟨rfl, bfrom G10.out hb11⟩
end Go.Proofs.Ytlcfimddcedbcaa
