/- Trades as arguments: how large they are, how they are copied and compared. -/
import Derived.Test.YtpcijgdpinmcmaaI2
import Derived.Outline
namespace Go.Proofs.Ytpcijgdpinmcmaa
open Go.RowKit Vo

set_option maxHeartbeats 1000000 in
theorem szTrade_any (A1 : Option Addr) (n1 c1 : Nat) (L1 : List (List Int)) (A2 : Option Addr) (n2 c2 : Nat) (L2 : List (List Int)) (left : Int) (w : World) (h0 : 0 ≤ left) (h1 : left ≤ 1048576) (hm1 : n1 ≤ 9223372036854775807) (hm2 : n2 ≤ 9223372036854775807) (hk1 : KSS w A1 n1 L1) (hk2 : KSS w A2 n2 L2) :
    Calls Try.prog 11 #[.agg #[.slice A1 n1 c1, .slice A2 n2 c2], .int .i64 left] w fun e w' => (e = .returned (.int .i64 (-1)) ∨ ((n1 : Int) + (tot L1 : Nat) + n2 + (tot L2 : Nat) ≤ left ∧ e = .returned (.int .i64 (left - n1 - (tot L1 : Nat) - n2 - (tot L2 : Nat))))) ∧ Below w.heap.size w w' := by
  have b0 := below1 w (.cells #[.slice A1 n1 c1, .slice A2 n2 c2] 26)
  have HK1 := Lib.hid (hk1.now b0)
  have HK2 := Lib.hid (hk2.now b0)
  obtain ⟨x0, x1⟩ := (BoxT.new 26 w (.slice A1 n1 c1) (.slice A2 n2 c2)).cells
  clear hk1 hk2
  have HZ1 := Lib.hid (szIntSS_any A1 n1 c1 L1 left _ h0 h1 hm1 HK1.out)
  have HZ2 := Lib.hid (fun l (a : 0 ≤ l) (b : l ≤ 1048576) => szIntSS_any A2 n2 c2 L2 l _ a b hm2 HK2.out)
  obtain ⟨T, hT⟩ : ∃ T, T = tot L1 := ⟨_, rfl⟩
  obtain ⟨U, hU⟩ : ∃ U, U = tot L2 := ⟨_, rfl⟩
  rw [← hT] at HZ1
  simp only [← hU] at HZ2
  rw [← hT, ← hU]
  clear hT hU
  go_enter Try.func11, Try.ntmps11
  go_wp2_with fail
  refine HZ1.out.mono ?_
  rintro e w1 ⟨h, rfl⟩
  rcases h with rfl | ⟨hle, rfl⟩
  · go_wp2
    go_ret
    exact ⟨Or.inl rfl, b0⟩
  · have hge : ¬ left - (n1 : Int) - (T : Int) < 0 := by omega
    obtain ⟨l2, hl2⟩ : ∃ z, z = left - (n1 : Int) - (T : Int) := ⟨_, rfl⟩
    have HZ := Lib.hid (HZ2.out l2 (by omega) (by omega))
    have HL := Lib.hid hl2
    rw [← hl2] at hge ⊢
    clear hl2
    go_wp2_with fail
    refine HZ.out.mono ?_
    rintro e w2 ⟨h, rfl⟩
    rcases h with rfl | ⟨hle2, rfl⟩
    · go_wp2
      go_ret
      exact ⟨Or.inl rfl, b0⟩
    · have hge2 : ¬ l2 - (n2 : Int) - (U : Int) < 0 := by omega
      go_wp2
      go_ret
      have hl := HL.out
      exact ⟨Or.inr ⟨by omega, by rw [← hl]; rfl⟩, b0⟩

/-- A trade in memory of its own. -/
def TrOwn (L1 L2 : List (List Int)) (n1 n2 : Nat) (v : Value) (w w' : World) : Prop :=
  ∃ g1 g2 lo1 hi1 lo2 hi2, v = .agg #[.slice (some ⟨g1, 0, none⟩) n1 n1, .slice (some ⟨g2, 0, none⟩) n2 n2] ∧ w.heap.size ≤ lo1 ∧ w.heap.size ≤ lo2 ∧
    Lies (RSS L1 lo1 hi1 (.slice (some ⟨g1, 0, none⟩) n1 n1)) lo1 hi1 w' ∧ Lies (RSS L2 lo2 hi2 (.slice (some ⟨g2, 0, none⟩) n2 n2)) lo2 hi2 w'

set_option maxHeartbeats 1000000 in
theorem toTrade_any (A1 : Option Addr) (n1 c1 : Nat) (L1 : List (List Int)) (A2 : Option Addr) (n2 c2 : Nat) (L2 : List (List Int)) (w : World) (hn1 : n1 + tot L1 ≤ 1048576) (hn2 : n2 + tot L2 ≤ 1048576) (hk1 : KSS w A1 n1 L1) (hk2 : KSS w A2 n2 L2) :
    Calls Try.prog 14 #[.agg #[.slice A1 n1 c1, .slice A2 n2 c2]] w fun e w' => (∃ v, e = .returned v ∧ TrOwn L1 L2 n1 n2 v w w') ∧ Below w.heap.size w w' := by
  have b0 := below1 w (.cells #[.slice A1 n1 c1, .slice A2 n2 c2] 26)
  have b2 := (b0.alloc (by simp) (.cells #[.slice none 0 0, .slice none 0 0] 33)).alloc (by simp; omega) (.cells #[.slice none 0 0, .slice none 0 0] 33)
  have HK1 := Lib.hid (hk1.now b2)
  have HK2 := Lib.hid (fun W (hb : Below w.heap.size w W) => hk2.now hb)
  have x := (((BoxT.new 26 w (.slice A1 n1 c1) (.slice A2 n2 c2)).now (below1 _ (.cells #[.slice none 0 0, .slice none 0 0] 33))).now (below1 _ (.cells #[.slice none 0 0, .slice none 0 0] 33)))
  obtain ⟨x0, x1⟩ := x.cells
  have X := Lib.hid x
  clear hk1 hk2 x
  go_enter Try.func14, Try.ntmps14
  go_wp2_with fail
  refine (toIntSS_any A1 n1 c1 L1 _ hn1 HK1.out).mono ?_
  rintro e w4 ⟨rfl, hI, hb⟩
  have HI := Lib.hid hI
  obtain ⟨hc, hf⟩ := bcell hb
  have hz := hb.size
  simp only [World.size_alloc] at hc hf hz
  have g4 := bfrom b2 hb
  obtain ⟨y0, y1⟩ := (X.out.now hb).cells
  clear hI x0 x1
  go_wp2_with fail
  have g4' := g4.setCell (p := ⟨w.heap.size + 1 + 1, 0, none⟩) (by simp; omega) (.slice (some ⟨w.heap.size + 1 + 1 + 1, 0, none⟩) n1 n1)
  refine (toIntSS_any A2 n2 c2 L2 _ hn2 (HK2.out _ g4')).mono ?_
  rintro e w6 ⟨rfl, hI2, hb6⟩
  have HI2 := Lib.hid hI2
  obtain ⟨hc6, hf6⟩ := bcell hb6
  have hz6 := hb6.size
  have g6 := bfrom g4' hb6
  clear hI2
  simp only [World.size_setCell] at hc6 hf6 hz6
  have hzown : ∀ W : World, Own (W.alloc (.cells #[.slice none 0 0, .slice none 0 0] 33)) W.heap.size 33 2 (fun _ => .slice none 0 0) := fun W => ⟨_, heap_alloc_new W _, by simp, fun i hi => by
    rcases i with _ | _ | i
    all_goals first | rfl | omega⟩
  have OA := (hzown (w.alloc (.cells #[.slice A1 n1 c1, .slice A2 n2 c2] 26))).alloc (.cells #[.slice none 0 0, .slice none 0 0] 33)
  have OB := hzown ((w.alloc (.cells #[.slice A1 n1 c1, .slice A2 n2 c2] 26)).alloc (.cells #[.slice none 0 0, .slice none 0 0] 33))
  have OA4 := Own.below OA hb OA.lt
  have OB4 := (Own.below OB hb OB.lt).set 0 (.slice (some ⟨w.heap.size + 1 + 1 + 1, 0, none⟩) n1 n1)
  simp only [World.size_alloc] at OA4 OB4
  have OA5 := OA4.of_block (w' := w4.setCell ⟨w.heap.size + 1 + 1, 0, none⟩ (.slice (some ⟨w.heap.size + 1 + 1 + 1, 0, none⟩) n1 n1)) (Below.heap_setCell _ _ _ _ (by simp))
  have OA6 := Own.below OA5 hb6 OA5.lt
  have OB6 := Own.below OB4 hb6 OB4.lt
  have r0 := OA6.cell (i := 0) (by omega)
  have r1 := OA6.cell (i := 1) (by omega)
  have u0 := OA6.frozen 0
  have u1 := OA6.frozen 1
  have t0 := OB6.cell (i := 0) (by omega)
  have t1 := OB6.cell (i := 1) (by omega)
  have f0 := OB6.frozen 0
  have f1 := OB6.frozen 1
  simp only [if_true, if_false, Nat.one_ne_zero] at t0 t1
  have OB7 := Lib.hid ((OB6.set 1 (.slice (some ⟨w4.heap.size, 0, none⟩) n2 n2)))
  clear hc hf hc6 hf6 OA OB OA4 OB4 OA5 hzown
  go_wp2
  have H1 := HI.out
  have H2 := HI2.out
  simp only [World.size_alloc] at H1
  simp only [World.size_setCell] at H2
  have H1b := ((H1.far (p := ⟨w.heap.size + 1 + 1, 0, none⟩) (by simp) (.slice (some ⟨w.heap.size + 1 + 1 + 1, 0, none⟩) n1 n1)).now hb6)
  refine bodyPost_ret (v := .agg #[.slice (some ⟨w.heap.size + 1 + 1 + 1, 0, none⟩) n1 n1, .slice (some ⟨w4.heap.size, 0, none⟩) n2 n2]) (by simp [results, Try.results14, go_sem, r0, r1]) rfl ⟨⟨_, rfl, w.heap.size + 1 + 1 + 1, w4.heap.size, w.heap.size + 1 + 1 + 1, w4.heap.size, w4.heap.size, w6.heap.size, rfl, by omega, by omega, ?_, ?_⟩, ?_⟩
  · exact Lies.far (Lies.far (Lies.far H1b (by simp) _) (by simp) _) (by simp) _
  · exact Lies.far (Lies.far (Lies.far H2 (by simp; omega) _) (by simp; omega) _) (by simp; omega) _
  · exact ((g6.setCell (by simp; omega) _).setCell (by simp) _).setCell (by simp) _

set_option maxHeartbeats 1000000 in
theorem eqTrade_v {L1 L2 : List (List Int)} {lo1 hi1 lo2 hi2 lo3 hi3 lo4 hi4 : Nat} (A1 A2 A3 A4 : Option Addr) (n1 n2 c1 c2 c3 c4 : Nat) (w : World) (hm1 : tot L1 + L1.length ≤ 1048576) (hm2 : tot L2 + L2.length ≤ 1048576)
    (h1 : Lies (RSS L1 lo1 hi1 (.slice A1 n1 c1)) lo1 hi1 w) (h2 : Lies (RSS L2 lo2 hi2 (.slice A2 n2 c2)) lo2 hi2 w) (h3 : Lies (RSS0 L1 lo3 hi3 (.slice A3 n1 c3)) lo3 hi3 w) (h4 : Lies (RSS0 L2 lo4 hi4 (.slice A4 n2 c4)) lo4 hi4 w) :
    Calls Try.prog 17 #[.agg #[.slice A1 n1 c1, .slice A2 n2 c2], .agg #[.slice A3 n1 c3, .slice A4 n2 c4]] w fun e w' => e = .returned (.bool true) ∧ Below w.heap.size w w' := by
  have b0 := (below1 w (.cells #[.slice A1 n1 c1, .slice A2 n2 c2] 33)).alloc (by simp) (.cells #[.slice A3 n1 c3, .slice A4 n2 c4] 33)
  have x := (BoxT.new 33 w (.slice A1 n1 c1) (.slice A2 n2 c2)).now (below1 _ (.cells #[.slice A3 n1 c3, .slice A4 n2 c4] 33))
  have y := BoxT.new 33 (w.alloc (.cells #[.slice A1 n1 c1, .slice A2 n2 c2] 33)) (.slice A3 n1 c3) (.slice A4 n2 c4)
  simp only [World.size_alloc] at y
  obtain ⟨x0, x1⟩ := x.cells
  obtain ⟨y0, y1⟩ := y.cells
  have X := Lib.hid x
  have Y := Lib.hid y
  have HE1 := Lib.hid (eqIntSS_v _ hm1 ((h1.alloc (.cells #[.slice A1 n1 c1, .slice A2 n2 c2] 33)).alloc (.cells #[.slice A3 n1 c3, .slice A4 n2 c4] 33)) ((h3.alloc (.cells #[.slice A1 n1 c1, .slice A2 n2 c2] 33)).alloc (.cells #[.slice A3 n1 c3, .slice A4 n2 c4] 33)))
  have HE2 := Lib.hid (fun W hb => eqIntSS_v W hm2 (((h2.alloc (.cells #[.slice A1 n1 c1, .slice A2 n2 c2] 33)).alloc (.cells #[.slice A3 n1 c3, .slice A4 n2 c4] 33)).now hb) (((h4.alloc (.cells #[.slice A1 n1 c1, .slice A2 n2 c2] 33)).alloc (.cells #[.slice A3 n1 c3, .slice A4 n2 c4] 33)).now hb))
  clear h1 h2 h3 h4 x y
  go_enter Try.func17, Try.ntmps17
  go_wp2_with fail
  refine HE1.out.mono ?_
  rintro e w1 ⟨rfl, hb⟩
  obtain ⟨x2, x3⟩ := (X.out.now hb).cells
  obtain ⟨y2, y3⟩ := (Y.out.now hb).cells
  clear x0 x1 y0 y1
  go_wp2_with fail
  refine (HE2.out _ hb).mono ?_
  rintro e w2 ⟨rfl, hb2⟩
  go_wp2
  go_ret
  exact ⟨rfl, bfrom (bfrom b0 hb) hb2⟩
end Go.Proofs.Ytpcijgdpinmcmaa
