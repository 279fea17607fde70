/- The walks of exact laws of functions of a puzzle and a clue that answer with a puzzle and a truth. -/
import Derived.Test.YtlcfimddcedbcaaL1
import Derived.Test.YtlcfimddcedbcaaK4
import Derived.Test.YtlcfimddcedbcaaGn
import Derived.BigQuiet
import Derived.Deep.RegionHeld3
import Derived.Outline
namespace Go.Proofs.Ytlcfimddcedbcaa
open Go.RowKit Vo

theorem box_putU {t : TypeId} {w : World} {g : Nat} {u v : Value} (h : BoxT t w g u v) (a b : Value) : BoxT t ((w.setCell ⟨g, 0, none⟩ a).setCell ⟨g, 1, none⟩ b) g a b := by
  unfold BoxT at *
  simp [World.setCell, Array.getElem?_modify, h]
theorem Bx3.turn {t : TypeId} {w w' : World} {g lo hi : Nat} {a b c : Value} (h : Bx3 t w g a b c) (ht : Turn lo hi w w') (hg : g < lo ∨ hi ≤ g) : Bx3 t w' g a b c := (ht.block g h.lt hg).trans h
theorem frozenU {t : TypeId} {w : World} {g : Nat} {u v : Value} (h : BoxT t w g u v) : w.frozen? ⟨g, 0, none⟩ = false ∧ w.frozen? ⟨g, 1, none⟩ = false := by
  unfold BoxT at h
  exact ⟨by simp [World.frozen?, h], by simp [World.frozen?, h]⟩

set_option maxRecDepth 20000 in
set_option maxHeartbeats 8000000 in
theorem lawAddClue (m : Int) (A : Option Addr) (n cap : Nat) (L : List Clu) (x y z : Int) (w : World) (hm : n ≤ 9223372036854775807) (hk : KCl w A n L) :
    Calls Try.prog 10 #[.agg #[.int .i64 m, .slice A n cap], .agg #[.int .i64 x, .int .i64 y, .int .i64 z]] w fun e w' => e = .returned (.bool true) ∧ Below w.heap.size w w' := by
  have HK := Lib.hid hk
  have HLEN := Lib.hid hk.1
  clear hk
  have x0 := (BoxT.new 50 w (.int .i64 m) (.slice A n cap)).alloc (.cells #[.int .i64 x, .int .i64 y, .int .i64 z] 43)
  have u0 := Bx3.new 43 (w.alloc (.cells #[.int .i64 m, .slice A n cap] 50)) (.int .i64 x) (.int .i64 y) (.int .i64 z)
  have g0 : Below w.heap.size w ((w.alloc (.cells #[.int .i64 m, .slice A n cap] 50)).alloc (.cells #[.int .i64 x, .int .i64 y, .int .i64 z] 43)) := (below1 w _).alloc (by simp) _
  simp only [World.size_alloc] at u0
  have HSZ := Lib.hid (fun W => szPuzzle_any (.int .i64 m) A n cap W hm)
  have HTO := Lib.hid (fun W hn h => toPuzzle_any m A n cap L W hn h)
  have HTC := Lib.hid (fun W => toClue_any x y z W)
  obtain ⟨M, hM⟩ : ∃ M, M = if addB m L (x, y, z) then L ++ [(x, y, z)] else [] := ⟨_, rfl⟩
  have HLM := Lib.hid (show M.length ≤ 1048576 from by rw [hM]; exact addL_len m L x y z)
  have HM := Lib.hid hM
  clear hM
  obtain ⟨N, hN⟩ : ∃ N : Nat, N = 3 * M.length := ⟨_, rfl⟩
  have hNm : N ≤ 3145728 := by have := HLM.out; omega
  have HN := Lib.hid hN
  clear hN
  obtain ⟨ln, hln⟩ : ∃ z : Nat, z = M.length := ⟨_, rfl⟩
  have hlnm : ln ≤ 1048576 := by have := HLM.out; omega
  have HLN := Lib.hid hln
  clear hln
  obtain ⟨mm, hmm⟩ : ∃ zm : Int, zm = if addB m L (x, y, z) then m else 0 := ⟨_, rfl⟩
  have HMM := Lib.hid hmm
  clear hmm
  obtain ⟨ok, hok⟩ : ∃ ok, ok = addB m L (x, y, z) := ⟨_, rfl⟩
  have HOKB := Lib.hid hok
  clear hok
  go_enter Try.func10, Try.ntmps10
  have c00 := x0.cells
  obtain ⟨c0, c1⟩ := c00
  go_wp2_with fail
  refine (HSZ.out _).mono ?_
  rintro e w2 ⟨h, hb2⟩
  rcases h with rfl | ⟨hl, rfl⟩
  · go_wp2
    go_ret
    exact ⟨rfl, bfrom g0 hb2⟩
  have hge : ¬ 1048576 - (n : Int) < 0 := by omega
  have HLL := Lib.hid (show L.length ≤ 1048576 from by rw [HLEN.out]; exact hl)
  clear c0 c1
  have g2 := bfrom g0 hb2
  have x2 := x0.now hb2
  have u2 := u0.now hb2
  have z2 := hb2.size
  try simp only [World.size_alloc] at z2
  clear g0 x0 u0 hb2 
  have HTR := Lib.hid (show ∀ W, KCl W A n L → Calls Try.prog 28 #[.agg #[.int .i64 m, .slice A n cap]] W (fun e w' => ∃ b0, e = .returned (.agg #[.int .i64 m, .slice (some ⟨b0, 0, none⟩) n n]) ∧ KCl w' (some ⟨b0, 0, none⟩) n L ∧ Below W.heap.size W w') from fun W hh => (HTO.out W hl hh).mono fun e w' h => ⟨_, h.1, (Lies.here h.2.1).kcl, h.2.2⟩)
  have HSC := Lib.hid (show ∀ b0 W, KCl W (some ⟨b0, 0, none⟩) n L → Calls Try.prog 43 #[.agg #[.int .i64 m, .slice (some ⟨b0, 0, none⟩) n n], .agg #[.int .i64 x, .int .i64 y, .int .i64 z]] W (fun e w' => ∃ A' c', e = .returned (.tuple #[.agg #[.int .i64 mm, .slice A' ln c'], .bool ok]) ∧ Lies (RCl M W.heap.size w'.heap.size (.slice A' ln c')) W.heap.size w'.heap.size w' ∧ Below W.heap.size W w') from fun b0 W h1 => (sAddClue_any m b0 n n L x y z W hl h1).mono fun e w' h => by rw [← HM.out, ← HMM.out, ← HOKB.out] at h; unfold AnsP at h; rw [← HLN.out] at h; exact h)
  have HIC := Lib.hid (show ∀ b0 W, KCl W (some ⟨b0, 0, none⟩) n L → Calls Try.prog 44 #[.agg #[.int .i64 m, .slice (some ⟨b0, 0, none⟩) n n], .agg #[.int .i64 x, .int .i64 y, .int .i64 z]] W (fun e w' => ∃ A' c', e = .returned (.tuple #[.agg #[.int .i64 mm, .slice A' ln c'], .bool ok]) ∧ Lies (RCl M W.heap.size w'.heap.size (.slice A' ln c')) W.heap.size w'.heap.size w' ∧ Below W.heap.size W w') from fun b0 W h1 => (iAddClue_any m _ n n L x y z W hl h1).mono fun e w' h => by rw [← HM.out, ← HMM.out, ← HOKB.out] at h; unfold AnsP at h; rw [← HLN.out] at h; exact h)
  obtain ⟨c0, c1⟩ := x2.cells
  obtain ⟨d0, d1, d2⟩ := u2.cells
  have KX := Lib.hid (show ∀ W', Below w2.heap.size w2 W' → (W'.cell? ⟨w.heap.size, 0, none⟩ = some (.int .i64 m) ∧ W'.cell? ⟨w.heap.size, 1, none⟩ = some (.slice A n cap) ∧ W'.cell? ⟨w.heap.size + 1, 0, none⟩ = some (.int .i64 x) ∧ W'.cell? ⟨w.heap.size + 1, 1, none⟩ = some (.int .i64 y) ∧ W'.cell? ⟨w.heap.size + 1, 2, none⟩ = some (.int .i64 z)) from fun W' hb => ⟨(x2.now hb).cells.1, (x2.now hb).cells.2, (u2.now hb).cells.1, (u2.now hb).cells.2.1, (u2.now hb).cells.2.2⟩)
  have GX := Lib.hid g2
  go_wp2_with fail
  go_region_held3 (fun W' => W'.cell? ⟨w.heap.size, 0, none⟩ = some (.int .i64 m) ∧ W'.cell? ⟨w.heap.size, 1, none⟩ = some (.slice A n cap) ∧ W'.cell? ⟨w.heap.size + 1, 0, none⟩ = some (.int .i64 x) ∧ W'.cell? ⟨w.heap.size + 1, 1, none⟩ = some (.int .i64 y) ∧ W'.cell? ⟨w.heap.size + 1, 2, none⟩ = some (.int .i64 z))
    (first | exact ⟨c0, c1, d0, d1, d2⟩ | exact KX.out _ hba | exact KX.out _ hbb | exact KX.out _ hbc | exact KX.out _ (((Below.refl _ w2).drew).alloc (Nat.le_refl _) _) | exact KX.out _ (((Below.refl _ w2).alloc (Nat.le_refl _) _).drew) | exact KX.out _ (hba.alloc hba.size _) | exact KX.out _ (hbb.alloc hbb.size _) | exact KX.out _ (hbc.alloc hbc.size _) | exact KX.out _ ((hbc.setCell (p := ⟨wb.heap.size, 0, none⟩) hbb.size _).setCell (p := ⟨wb.heap.size, 1, none⟩) hbb.size _) | exact KX.out _ ((hbc.setCell (p := ⟨wa.heap.size, 0, none⟩) hba.size _).setCell (p := ⟨wa.heap.size, 1, none⟩) hba.size _) | exact KX.out _ ((hbc.setCell (p := ⟨w2.heap.size, 0, none⟩) (Nat.le_refl _) _).setCell (p := ⟨w2.heap.size, 1, none⟩) (Nat.le_refl _) _) | exact KX.out _ (((hbc.alloc hbc.size _).setCell (p := ⟨wc.heap.size, 0, none⟩) hbc.size _).setCell (p := ⟨wc.heap.size, 1, none⟩) hbc.size _) | go_keep)
    (first
      | (go_at_call 28; ((with_reducible refine (HTR.out w2.drew (HK.out.now GX.out.drew)).mono ?_)); rintro e wa ⟨aa, rfl, hla, hba0⟩; have hba := bfrom (Below.refl _ w2).drew hba0; have hna : True := trivial)
      | (go_at_call 28; ((with_reducible refine (HTR.out (w2.drew.alloc (.cells #[.int .i64 0, .slice none 0 0] 55)) (HK.out.now (GX.out.drew.alloc GX.out.size (.cells #[.int .i64 0, .slice none 0 0] 55)))).mono ?_)); rintro e wa ⟨aa, rfl, hla, hba0⟩; have hba := bfrom (((Below.refl _ w2).drew).alloc (Nat.le_refl _) (.cells #[.int .i64 0, .slice none 0 0] 55)) hba0; have hna := (BoxT.new 55 w2.drew (.int .i64 0) (.slice none 0 0)).now hba0)
      | (go_at_call 28; ((with_reducible refine (HTR.out (w2.alloc (.cells #[.int .i64 0, .slice none 0 0] 55)).drew (HK.out.now (GX.out.alloc GX.out.size (.cells #[.int .i64 0, .slice none 0 0] 55)).drew)).mono ?_)); rintro e wa ⟨aa, rfl, hla, hba0⟩; have hba := bfrom (((Below.refl _ w2).alloc (Nat.le_refl _) (.cells #[.int .i64 0, .slice none 0 0] 55)).drew) hba0; have hna := ((BoxT.new 55 w2 (.int .i64 0) (.slice none 0 0)).drew).now hba0)
      | (go_at_call 24; ((with_reducible refine (HTC.out wa).mono ?_)); rintro e wb ⟨rfl, hbb0⟩; have hbb := bfrom hba hbb0; have hla2 := hla.now hbb0; (first | have hnb := hna.now hbb0 | have hnb : True := trivial))
      | (go_at_call 24; ((with_reducible refine (HTC.out (wa.alloc (.cells #[.int .i64 0, .slice none 0 0] 55))).mono ?_)); rintro e wb ⟨rfl, hbb0⟩; have hbb := bfrom (hba.alloc hba.size (.cells #[.int .i64 0, .slice none 0 0] 55)) hbb0; have hla2 := (hla.now (below1 wa (.cells #[.int .i64 0, .slice none 0 0] 55))).now hbb0; have hnb := (BoxT.new 55 wa (.int .i64 0) (.slice none 0 0)).now hbb0)
      | (go_at_call 43; ((with_reducible refine (HSC.out aa wb hla2).mono ?_)); rintro e wc ⟨A5, cp5, rfl, hlc, hbc0⟩; have hbc := bfrom hbb hbc0; (first | have hnc := hnb.now hbc0 | have hnc : True := trivial); (first | (obtain ⟨p0, p1⟩ := hnc.cells; obtain ⟨q0, q1⟩ := frozenU hnc) | skip))
      | (go_at_call 43; ((with_reducible refine (HSC.out aa (wb.alloc (.cells #[.int .i64 0, .slice none 0 0] 55)) (hla2.now (below1 wb (.cells #[.int .i64 0, .slice none 0 0] 55)))).mono ?_)); rintro e wc ⟨A5, cp5, rfl, hlc, hbc0⟩; have hbc := bfrom (hbb.alloc hbb.size (.cells #[.int .i64 0, .slice none 0 0] 55)) hbc0; have hnc := (BoxT.new 55 wb (.int .i64 0) (.slice none 0 0)).now hbc0; simp only [World.size_alloc] at hlc; obtain ⟨p0, p1⟩ := hnc.cells; obtain ⟨q0, q1⟩ := frozenU hnc))
  all_goals
   clear c0 c1 d0 d1 d2
   try clear p0 p1 q0 q1
   first
    | (have hB := box_putU (show BoxT 55 wc wb.heap.size (.int .i64 0) (.slice none 0 0) from hnc) (.int .i64 mm) (.slice A5 ln cp5)
       have hF := (hbc.setCell (p := ⟨wb.heap.size, 0, none⟩) hbb.size (.int .i64 mm)).setCell (p := ⟨wb.heap.size, 1, none⟩) hbb.size (.slice A5 ln cp5)
       have hL := Lies.far (Lies.far hlc (p := ⟨wb.heap.size, 0, none⟩) (Nat.lt_succ_self _) (.int .i64 mm)) (p := ⟨wb.heap.size, 1, none⟩) (Nat.lt_succ_self _) (.slice A5 ln cp5)
       have hP := hbb.size
       obtain ⟨wF, hwF⟩ : ∃ wF, wF = (wc.setCell ⟨wb.heap.size, 0, none⟩ (.int .i64 mm)).setCell ⟨wb.heap.size, 1, none⟩ (.slice A5 ln cp5) := ⟨_, rfl⟩
       rw [← hwF] at hB hF hL ⊢
       clear hwF
       obtain ⟨lo5, hi5, hL5, hD5, hlo5⟩ : ∃ lo hi, Lies (RCl M lo hi (.slice A5 ln cp5)) lo hi wF ∧ (wb.heap.size < lo ∨ hi ≤ wb.heap.size) ∧ w2.heap.size ≤ lo := ⟨_, _, hL, Or.inl (Nat.lt_succ_self _), by have h9 := hbb.size; omega⟩
       clear hL
       generalize wb.heap.size = pB at hB hP hD5 ⊢)
    | (have hB := box_putU (show BoxT 55 wc wa.heap.size (.int .i64 0) (.slice none 0 0) from hnc) (.int .i64 mm) (.slice A5 ln cp5)
       have hab : wa.heap.size < wb.heap.size := (show BoxT 55 wb wa.heap.size (.int .i64 0) (.slice none 0 0) from hnb).lt
       have hF := (hbc.setCell (p := ⟨wa.heap.size, 0, none⟩) hba.size (.int .i64 mm)).setCell (p := ⟨wa.heap.size, 1, none⟩) hba.size (.slice A5 ln cp5)
       have hL := Lies.far (Lies.far hlc (p := ⟨wa.heap.size, 0, none⟩) hab (.int .i64 mm)) (p := ⟨wa.heap.size, 1, none⟩) hab (.slice A5 ln cp5)
       have hP := hba.size
       obtain ⟨wF, hwF⟩ : ∃ wF, wF = (wc.setCell ⟨wa.heap.size, 0, none⟩ (.int .i64 mm)).setCell ⟨wa.heap.size, 1, none⟩ (.slice A5 ln cp5) := ⟨_, rfl⟩
       rw [← hwF] at hB hF hL ⊢
       clear hwF
       obtain ⟨lo5, hi5, hL5, hD5, hlo5⟩ : ∃ lo hi, Lies (RCl M lo hi (.slice A5 ln cp5)) lo hi wF ∧ (wa.heap.size < lo ∨ hi ≤ wa.heap.size) ∧ w2.heap.size ≤ lo := ⟨_, _, hL, Or.inl hab, by have h9 := hbb.size; omega⟩
       clear hL
       generalize wa.heap.size = pB at hB hP hD5 ⊢)
    | (have hB := box_putU (show BoxT 55 wc w2.heap.size (.int .i64 0) (.slice none 0 0) from hnc) (.int .i64 mm) (.slice A5 ln cp5)
       have hab : w2.heap.size < wb.heap.size := (show BoxT 55 wb w2.heap.size (.int .i64 0) (.slice none 0 0) from hnb).lt
       have hF := (hbc.setCell (p := ⟨w2.heap.size, 0, none⟩) (Nat.le_refl _) (.int .i64 mm)).setCell (p := ⟨w2.heap.size, 1, none⟩) (Nat.le_refl _) (.slice A5 ln cp5)
       have hL := Lies.far (Lies.far hlc (p := ⟨w2.heap.size, 0, none⟩) hab (.int .i64 mm)) (p := ⟨w2.heap.size, 1, none⟩) hab (.slice A5 ln cp5)
       have hP := Nat.le_refl w2.heap.size
       obtain ⟨wF, hwF⟩ : ∃ wF, wF = (wc.setCell ⟨w2.heap.size, 0, none⟩ (.int .i64 mm)).setCell ⟨w2.heap.size, 1, none⟩ (.slice A5 ln cp5) := ⟨_, rfl⟩
       rw [← hwF] at hB hF hL ⊢
       clear hwF
       obtain ⟨lo5, hi5, hL5, hD5, hlo5⟩ : ∃ lo hi, Lies (RCl M lo hi (.slice A5 ln cp5)) lo hi wF ∧ (w2.heap.size < lo ∨ hi ≤ w2.heap.size) ∧ w2.heap.size ≤ lo := ⟨_, _, hL, Or.inl hab, by have h9 := hbb.size; omega⟩
       clear hL
       obtain ⟨pB, hpB⟩ : ∃ pB, pB = w2.heap.size := ⟨_, rfl⟩
       replace hD5 : pB < lo5 ∨ hi5 ≤ pB := by rw [hpB]; exact hD5
       rw [← hpB] at hB ⊢
       replace hP : w2.heap.size ≤ pB := Nat.le_of_eq hpB.symm
       clear hpB)
    | (have hB := BoxT.new 55 wc (.int .i64 mm) (.slice A5 ln cp5)
       have hF := hbc.alloc hbc.size (.cells #[.int .i64 mm, .slice A5 ln cp5] 55)
       have hL := hlc.now (below1 wc (.cells #[.int .i64 mm, .slice A5 ln cp5] 55))
       have hP := hbc.size
       obtain ⟨wF, hwF⟩ : ∃ wF, wF = wc.alloc (.cells #[.int .i64 mm, .slice A5 ln cp5] 55) := ⟨_, rfl⟩
       rw [← hwF] at hB hF hL ⊢
       clear hwF
       obtain ⟨lo5, hi5, hL5, hD5, hlo5⟩ : ∃ lo hi, Lies (RCl M lo hi (.slice A5 ln cp5)) lo hi wF ∧ (wc.heap.size < lo ∨ hi ≤ wc.heap.size) ∧ w2.heap.size ≤ lo := ⟨_, _, hL, Or.inr (Nat.le_refl _), by have h9 := hbb.size; omega⟩
       clear hL
       generalize wc.heap.size = pB at hB hP hD5 ⊢)
  all_goals
   have HR5 := Lib.hid hL5
   have hiL5 := hL5.hi_le
   have hpB5 : pB < wF.heap.size := hB.lt
   have hpL5 : w2.heap.size ≤ pB := hP
   have szF := hF.size
   clear hL5 hP hlc hbc0 hbc hnc hbb0 hbb hnb hba0 hba hna hla hla2 KX GX
   obtain ⟨pB5, hpe⟩ : ∃ p, p = pB := ⟨_, rfl⟩
   rw [← hpe] at hB hpB5 hpL5 hD5 ⊢
   clear hpe
   obtain ⟨w5, hwe⟩ : ∃ v, v = wF := ⟨_, rfl⟩
   rw [← hwe] at hB hF HR5 hiL5 hpB5 szF ⊢
   clear hwe
   have g5 := bfrom g2 hF
   have x5 := x2.now hF
   have u5 := u2.now hF
   clear g2 x2 u2 hF 
   have qq5 := hB
   clear hB
   obtain ⟨c0, c1⟩ := x5.cells
   obtain ⟨d0, d1, d2⟩ := u5.cells
   go_wp2_with fail
   refine (HTO.out _ hl (HK.out.now g5)).mono ?_
   rintro e w6 ⟨rfl, hl6, hb6⟩
   try simp only [World.size_alloc] at hl6
   have z6b := hb6.size
   try simp only [World.size_alloc] at z6b
   have z6 := hl6.hi_le
   have b6 := below1 w6 (.cells #[.int .i64 m, .slice (some ⟨w5.heap.size + 3, 0, none⟩) n n] 55)
   have b56 := bfrom hb6 b6
   have y6 := BoxT.new 55 w6 (.int .i64 m) (.slice (some ⟨w5.heap.size + 3, 0, none⟩) n n)
   have HI6 := Lib.hid (hl6.now b6)
   have LI6 := Lib.hid (show KCl _ (some ⟨w5.heap.size + 3, 0, none⟩) n L from (Lies.here hl6).kcl.now b6)
   go_wp2_with fail
   obtain ⟨w7, hw7⟩ : ∃ w7, w7 = w6.alloc (.cells #[.int .i64 m, .slice (some ⟨w5.heap.size + 3, 0, none⟩) n n] 55) := ⟨_, rfl⟩
   have zz7 : w6.heap.size < w7.heap.size := by rw [hw7]; simp
   rw [← hw7] at b6 b56 y6 HI6 LI6 ⊢
   clear hl6 hb6 hw7 c0 c1 d0 d1 d2
   have g6 := bfrom g5 b56
   have x6 := x5.now b56
   have u6 := u5.now b56
   have HA6 := Lib.hid (HR5.out.now b56)
   have q6 := qq5.now b56
   clear g5 x5 u5 HR5 qq5 b56 b6
   obtain ⟨c0, c1⟩ := x6.cells
   obtain ⟨d0, d1, d2⟩ := u6.cells
   obtain ⟨v0, v1⟩ := y6.cells
   have KX := Lib.hid (show ∀ W', Below w7.heap.size w7 W' → (W'.cell? ⟨w.heap.size, 0, none⟩ = some (.int .i64 m) ∧ W'.cell? ⟨w.heap.size, 1, none⟩ = some (.slice A n cap) ∧ W'.cell? ⟨w.heap.size + 1, 0, none⟩ = some (.int .i64 x) ∧ W'.cell? ⟨w.heap.size + 1, 1, none⟩ = some (.int .i64 y) ∧ W'.cell? ⟨w.heap.size + 1, 2, none⟩ = some (.int .i64 z) ∧ W'.cell? ⟨w6.heap.size, 0, none⟩ = some (.int .i64 m) ∧ W'.cell? ⟨w6.heap.size, 1, none⟩ = some (.slice (some ⟨w5.heap.size + 3, 0, none⟩) n n)) from fun W' hb => ⟨(x6.now hb).cells.1, (x6.now hb).cells.2, (u6.now hb).cells.1, (u6.now hb).cells.2.1, (u6.now hb).cells.2.2, (y6.now hb).cells.1, (y6.now hb).cells.2⟩)
   have GX := Lib.hid g6
   skip
   go_region_held3 (fun W' => W'.cell? ⟨w.heap.size, 0, none⟩ = some (.int .i64 m) ∧ W'.cell? ⟨w.heap.size, 1, none⟩ = some (.slice A n cap) ∧ W'.cell? ⟨w.heap.size + 1, 0, none⟩ = some (.int .i64 x) ∧ W'.cell? ⟨w.heap.size + 1, 1, none⟩ = some (.int .i64 y) ∧ W'.cell? ⟨w.heap.size + 1, 2, none⟩ = some (.int .i64 z) ∧ W'.cell? ⟨w6.heap.size, 0, none⟩ = some (.int .i64 m) ∧ W'.cell? ⟨w6.heap.size, 1, none⟩ = some (.slice (some ⟨w5.heap.size + 3, 0, none⟩) n n))
     (first | exact ⟨c0, c1, d0, d1, d2, v0, v1⟩ | exact KX.out _ hba | exact KX.out _ hbb | exact KX.out _ hbc | exact KX.out _ (((Below.refl _ w7).drew).alloc (Nat.le_refl _) _) | exact KX.out _ (((Below.refl _ w7).alloc (Nat.le_refl _) _).drew) | exact KX.out _ (hba.alloc hba.size _) | exact KX.out _ (hbb.alloc hbb.size _) | exact KX.out _ (hbc.alloc hbc.size _) | exact KX.out _ ((hbc.setCell (p := ⟨wb.heap.size, 0, none⟩) hbb.size _).setCell (p := ⟨wb.heap.size, 1, none⟩) hbb.size _) | exact KX.out _ ((hbc.setCell (p := ⟨wa.heap.size, 0, none⟩) hba.size _).setCell (p := ⟨wa.heap.size, 1, none⟩) hba.size _) | exact KX.out _ ((hbc.setCell (p := ⟨w7.heap.size, 0, none⟩) (Nat.le_refl _) _).setCell (p := ⟨w7.heap.size, 1, none⟩) (Nat.le_refl _) _) | exact KX.out _ (((hbc.alloc hbc.size _).setCell (p := ⟨wc.heap.size, 0, none⟩) hbc.size _).setCell (p := ⟨wc.heap.size, 1, none⟩) hbc.size _) | go_keep)
     (first
       | (go_at_call 24; ((with_reducible refine (HTC.out w7.drew).mono ?_)); rintro e wb ⟨rfl, hbb0⟩; have hbb := bfrom (Below.refl _ w7).drew hbb0; have hnb : True := trivial)
       | (go_at_call 24; ((with_reducible refine (HTC.out (w7.drew.alloc (.cells #[.int .i64 0, .slice none 0 0] 55))).mono ?_)); rintro e wb ⟨rfl, hbb0⟩; have hbb := bfrom (((Below.refl _ w7).drew).alloc (Nat.le_refl _) (.cells #[.int .i64 0, .slice none 0 0] 55)) hbb0; have hnb := (BoxT.new 55 w7.drew (.int .i64 0) (.slice none 0 0)).now hbb0)
       | (go_at_call 24; ((with_reducible refine (HTC.out (w7.alloc (.cells #[.int .i64 0, .slice none 0 0] 55)).drew).mono ?_)); rintro e wb ⟨rfl, hbb0⟩; have hbb := bfrom (((Below.refl _ w7).alloc (Nat.le_refl _) (.cells #[.int .i64 0, .slice none 0 0] 55)).drew) hbb0; have hnb := ((BoxT.new 55 w7 (.int .i64 0) (.slice none 0 0)).drew).now hbb0)
       | (go_at_call 44; ((with_reducible refine (HIC.out (w5.heap.size + 3) wb (LI6.out.now hbb)).mono ?_)); rintro e wc ⟨A8, cp8, rfl, hlc, hbc0⟩; have hbc := bfrom hbb hbc0; (first | have hnc := hnb.now hbc0 | have hnc : True := trivial); (first | (obtain ⟨p0, p1⟩ := hnc.cells; obtain ⟨q0, q1⟩ := frozenU hnc) | skip))
       | (go_at_call 44; ((with_reducible refine (HIC.out (w5.heap.size + 3) (wb.alloc (.cells #[.int .i64 0, .slice none 0 0] 55)) (LI6.out.now (hbb.alloc hbb.size (.cells #[.int .i64 0, .slice none 0 0] 55)))).mono ?_)); rintro e wc ⟨A8, cp8, rfl, hlc, hbc0⟩; have hbc := bfrom (hbb.alloc hbb.size (.cells #[.int .i64 0, .slice none 0 0] 55)) hbc0; have hnc := (BoxT.new 55 wb (.int .i64 0) (.slice none 0 0)).now hbc0; simp only [World.size_alloc] at hlc; obtain ⟨p0, p1⟩ := hnc.cells; obtain ⟨q0, q1⟩ := frozenU hnc))
   all_goals
    clear c0 c1 d0 d1 d2 v0 v1
    try clear p0 p1 q0 q1
    first
     | (have hB := box_putU (show BoxT 55 wc wb.heap.size (.int .i64 0) (.slice none 0 0) from hnc) (.int .i64 mm) (.slice A8 ln cp8)
        have hF := (hbc.setCell (p := ⟨wb.heap.size, 0, none⟩) hbb.size (.int .i64 mm)).setCell (p := ⟨wb.heap.size, 1, none⟩) hbb.size (.slice A8 ln cp8)
        have hL := Lies.far (Lies.far hlc (p := ⟨wb.heap.size, 0, none⟩) (Nat.lt_succ_self _) (.int .i64 mm)) (p := ⟨wb.heap.size, 1, none⟩) (Nat.lt_succ_self _) (.slice A8 ln cp8)
        have hP := hbb.size
        obtain ⟨wF, hwF⟩ : ∃ wF, wF = (wc.setCell ⟨wb.heap.size, 0, none⟩ (.int .i64 mm)).setCell ⟨wb.heap.size, 1, none⟩ (.slice A8 ln cp8) := ⟨_, rfl⟩
        rw [← hwF] at hB hF hL ⊢
        clear hwF
        obtain ⟨lo8, hi8, hL8, hD8, hlo8⟩ : ∃ lo hi, Lies (RCl M lo hi (.slice A8 ln cp8)) lo hi wF ∧ (wb.heap.size < lo ∨ hi ≤ wb.heap.size) ∧ w7.heap.size ≤ lo := ⟨_, _, hL, Or.inl (Nat.lt_succ_self _), by have h9 := hbb.size; omega⟩
        clear hL
        generalize wb.heap.size = pB at hB hP hD8 ⊢)
     | (have hB := box_putU (show BoxT 55 wc w7.heap.size (.int .i64 0) (.slice none 0 0) from hnc) (.int .i64 mm) (.slice A8 ln cp8)
        have hab : w7.heap.size < wb.heap.size := (show BoxT 55 wb w7.heap.size (.int .i64 0) (.slice none 0 0) from hnb).lt
        have hF := (hbc.setCell (p := ⟨w7.heap.size, 0, none⟩) (Nat.le_refl _) (.int .i64 mm)).setCell (p := ⟨w7.heap.size, 1, none⟩) (Nat.le_refl _) (.slice A8 ln cp8)
        have hL := Lies.far (Lies.far hlc (p := ⟨w7.heap.size, 0, none⟩) hab (.int .i64 mm)) (p := ⟨w7.heap.size, 1, none⟩) hab (.slice A8 ln cp8)
        have hP := Nat.le_refl w7.heap.size
        obtain ⟨wF, hwF⟩ : ∃ wF, wF = (wc.setCell ⟨w7.heap.size, 0, none⟩ (.int .i64 mm)).setCell ⟨w7.heap.size, 1, none⟩ (.slice A8 ln cp8) := ⟨_, rfl⟩
        rw [← hwF] at hB hF hL ⊢
        clear hwF
        obtain ⟨lo8, hi8, hL8, hD8, hlo8⟩ : ∃ lo hi, Lies (RCl M lo hi (.slice A8 ln cp8)) lo hi wF ∧ (w7.heap.size < lo ∨ hi ≤ w7.heap.size) ∧ w7.heap.size ≤ lo := ⟨_, _, hL, Or.inl hab, by have h9 := hbb.size; omega⟩
        clear hL
        obtain ⟨pB, hpB⟩ : ∃ pB, pB = w7.heap.size := ⟨_, rfl⟩
        replace hD8 : pB < lo8 ∨ hi8 ≤ pB := by rw [hpB]; exact hD8
        rw [← hpB] at hB ⊢
        replace hP : w7.heap.size ≤ pB := Nat.le_of_eq hpB.symm
        clear hpB)
     | (have hB := BoxT.new 55 wc (.int .i64 mm) (.slice A8 ln cp8)
        have hF := hbc.alloc hbc.size (.cells #[.int .i64 mm, .slice A8 ln cp8] 55)
        have hL := hlc.now (below1 wc (.cells #[.int .i64 mm, .slice A8 ln cp8] 55))
        have hP := hbc.size
        obtain ⟨wF, hwF⟩ : ∃ wF, wF = wc.alloc (.cells #[.int .i64 mm, .slice A8 ln cp8] 55) := ⟨_, rfl⟩
        rw [← hwF] at hB hF hL ⊢
        clear hwF
        obtain ⟨lo8, hi8, hL8, hD8, hlo8⟩ : ∃ lo hi, Lies (RCl M lo hi (.slice A8 ln cp8)) lo hi wF ∧ (wc.heap.size < lo ∨ hi ≤ wc.heap.size) ∧ w7.heap.size ≤ lo := ⟨_, _, hL, Or.inr (Nat.le_refl _), by have h9 := hbb.size; omega⟩
        clear hL
        generalize wc.heap.size = pB at hB hP hD8 ⊢)
   all_goals
    have HR8 := Lib.hid hL8
    have hiL8 := hL8.hi_le
    have hpB8 : pB < wF.heap.size := hB.lt
    have hpL8 : w7.heap.size ≤ pB := hP
    have szF := hF.size
    clear hL8 hP hlc hbc0 hbc hnc hbb0 hbb hnb  KX GX
    obtain ⟨pB8, hpe⟩ : ∃ p, p = pB := ⟨_, rfl⟩
    rw [← hpe] at hB hpB8 hpL8 hD8 ⊢
    clear hpe
    obtain ⟨w8, hwe⟩ : ∃ v, v = wF := ⟨_, rfl⟩
    rw [← hwe] at hB hF HR8 hiL8 hpB8 szF ⊢
    clear hwe
    have g8 := bfrom g6 hF
    have x8 := x6.now hF
    have u8 := u6.now hF
    have HA8 := Lib.hid (HA6.out.now hF)
    have q8 := q6.now hF
    have y8 := y6.now hF
    have HI8 := Lib.hid (HI6.out.now hF)
    clear g6 x6 u6 HA6 q6 y6 HI6 hF 
    have vv8 := hB
    clear hB
    obtain ⟨c0, c1⟩ := q8.cells
    obtain ⟨d0, d1⟩ := vv8.cells
    go_wp2_with fail
    refine (eqPuzzle_v mm A8 A5 ln cp8 cp5 _ HLM.out HR8.out HA8.out).mono ?_
    rintro e w9 ⟨rfl, hb9⟩
    clear c0 c1 d0 d1
    have g9 := bfrom g8 hb9
    have x9 := x8.now hb9
    have u9 := u8.now hb9
    have HA9 := Lib.hid (HA8.out.now hb9)
    have q9 := q8.now hb9
    have y9 := y8.now hb9
    have HI9 := Lib.hid (HI8.out.now hb9)
    have HG9 := Lib.hid (HR8.out.now hb9)
    have v9 := vv8.now hb9
    have z9 := hb9.size
    try simp only [World.size_alloc] at z9
    clear g8 x8 u8 HA8 q8 y8 HI8 HR8 vv8 hb9 
    obtain ⟨c0, c1⟩ := x9.cells
    obtain ⟨d0, d1⟩ := y9.cells
    go_wp2_with fail
    go_region_held3 (fun w' => w'.cell? ⟨w.heap.size, 0, none⟩ = some (.int .i64 m) ∧ w'.cell? ⟨w.heap.size, 1, none⟩ = some (.slice A n cap) ∧ w'.cell? ⟨w6.heap.size, 0, none⟩ = some (.int .i64 m) ∧ w'.cell? ⟨w6.heap.size, 1, none⟩ = some (.slice (some ⟨w5.heap.size + 3, 0, none⟩) n n))
      (first | exact ⟨c0, c1, d0, d1⟩ | exact ⟨c80, c81, d80, d81⟩ | exact ⟨c90, c91, d90, d91⟩ | go_keep)
      (first
        | (go_at_call 28; refine (HTO.out _ hl (HK.out.now g9.drew)).mono ?_; rintro e w10 ⟨rfl, hl10, hb10⟩; have HL10 := Lib.hid hl10; clear hl10; obtain ⟨c80, c81⟩ := (x9.drew.now hb10).cells; obtain ⟨d80, d81⟩ := (y9.drew.now hb10).cells)
        | (go_at_call 30; refine (eqPuzzle_v m _ _ n n n _ HLL.out (HI9.out.drew.now hb10) HL10.out).mono ?_; rintro e w11 ⟨rfl, hb11⟩; obtain ⟨c90, c91⟩ := ((x9.drew.now hb10).now hb11).cells; obtain ⟨d90, d91⟩ := ((y9.drew.now hb10).now hb11).cells))
    have bb11 := bfrom hb10 hb11
    have z11 : w9.heap.size ≤ w11.heap.size := bb11.size
    clear c0 c1 d0 d1 c80 c81 d80 d81 c90 c91 d90 d91 hb10 hb11 HL10
    have g11 := bfrom g9.drew bb11
    have x11 := x9.drew.now bb11
    have u11 := u9.drew.now bb11
    have HA11 := Lib.hid (HA9.out.drew.now bb11)
    have q11 := q9.drew.now bb11
    have y11 := y9.drew.now bb11
    have HI11 := Lib.hid (HI9.out.drew.now bb11)
    have HG11 := Lib.hid (HG9.out.drew.now bb11)
    have v11 := v9.drew.now bb11
    clear g9 x9 u9 HA9 q9 y9 HI9 HG9 v9
    clear bb11
    obtain ⟨c0, c1⟩ := y11.cells
    go_wp2_with fail
    refine (markPuzzle_v m _ n n _ HLL.out HI11.out).mono ?_
    rw [HLEN.out]
    rintro e w14 ⟨rfl, tt14, _⟩
    have hk0 : ¬ (1 + ((3 * n : Nat) : Int)) < 0 := by omega
    clear c0 c1
    have g14 := Turn.below g11 tt14 (by omega) (by omega)
    have x14 := x11.turn tt14 (by omega)
    have u14 := u11.turn tt14 (by omega)
    have HA14 := Lib.hid (HA11.out.turn tt14 (by omega))
    have q14 := q11.turn tt14 (by omega)
    have HG14 := Lib.hid (HG11.out.turn tt14 (by omega))
    have v14 := v11.turn tt14 (by omega)
    have z14 := tt14.size
    clear g11 x11 u11 HA11 q11 y11 HI11 HG11 v11
    clear tt14
    obtain ⟨c0, c1⟩ := q14.cells
    obtain ⟨d0, d1⟩ := v14.cells
    go_wp2_with fail
    refine (eqPuzzle_v mm A8 A5 ln cp8 cp5 _ HLM.out HG14.out HA14.out).mono ?_
    rintro e w16 ⟨rfl, hb16⟩
    clear c0 c1 d0 d1
    have g16 := bfrom g14 hb16
    have x16 := x14.now hb16
    have u16 := u14.now hb16
    have HA16 := Lib.hid (HA14.out.now hb16)
    have q16 := q14.now hb16
    have HG16 := Lib.hid (HG14.out.now hb16)
    have v16 := v14.now hb16
    have z16 := hb16.size
    try simp only [World.size_alloc] at z16
    clear g14 x14 u14 HA14 q14 HG14 v14 hb16 
    obtain ⟨c0, c1⟩ := v16.cells
    go_wp2_with fail
    refine (markPuzzle_v mm A8 ln cp8 _ HLM.out HG16.out).mono ?_
    rw [← HN.out]
    rintro e w17 ⟨rfl, tt17, hmk⟩
    have hh17 := HG16.out.hi_le
    have zz17 := tt17.size
    have MK17 := Lib.hid (hmk.lies (by omega))
    clear hmk c0 c1
    have g17 := Turn.below g16 tt17 (by omega) (by omega)
    have x17 := x16.turn tt17 (by omega)
    have u17 := u16.turn tt17 (by omega)
    have HA17 := Lib.hid (HA16.out.turn tt17 (by omega))
    have q17 := q16.turn tt17 (by omega)
    have v17 := v16.turn tt17 (by omega)
    have z17 := tt17.size
    clear g16 x16 u16 HA16 q16 HG16 v16
    clear tt17 hh17 zz17
    obtain ⟨c0, c1⟩ := v17.cells
    go_wp2_with fail
    refine (heldPuzzle_v mm A8 ln cp8 _ HLM.out MK17.out).mono ?_
    rw [← HN.out]
    rintro e w18 ⟨rfl, hb18⟩
    clear c0 c1
    have g18 := bfrom g17 hb18
    have x18 := x17.now hb18
    have u18 := u17.now hb18
    have HA18 := Lib.hid (HA17.out.now hb18)
    have q18 := q17.now hb18
    have v18 := v17.now hb18
    have MK18 := Lib.hid (MK17.out.now hb18)
    have z18 := hb18.size
    try simp only [World.size_alloc] at z18
    clear g17 x17 u17 HA17 q17 v17 MK17 hb18 
    obtain ⟨c0, c1⟩ := x18.cells
    obtain ⟨d0, d1, d2⟩ := u18.cells
    have KX := Lib.hid (show ∀ W', Below w18.heap.size w18 W' → (W'.cell? ⟨w.heap.size, 0, none⟩ = some (.int .i64 m) ∧ W'.cell? ⟨w.heap.size, 1, none⟩ = some (.slice A n cap) ∧ W'.cell? ⟨w.heap.size + 1, 0, none⟩ = some (.int .i64 x) ∧ W'.cell? ⟨w.heap.size + 1, 1, none⟩ = some (.int .i64 y) ∧ W'.cell? ⟨w.heap.size + 1, 2, none⟩ = some (.int .i64 z)) from fun W' hb => ⟨(x18.now hb).cells.1, (x18.now hb).cells.2, (u18.now hb).cells.1, (u18.now hb).cells.2.1, (u18.now hb).cells.2.2⟩)
    have GX := Lib.hid g18
    go_wp2_with fail
    go_region_held3 (fun W' => W'.cell? ⟨w.heap.size, 0, none⟩ = some (.int .i64 m) ∧ W'.cell? ⟨w.heap.size, 1, none⟩ = some (.slice A n cap) ∧ W'.cell? ⟨w.heap.size + 1, 0, none⟩ = some (.int .i64 x) ∧ W'.cell? ⟨w.heap.size + 1, 1, none⟩ = some (.int .i64 y) ∧ W'.cell? ⟨w.heap.size + 1, 2, none⟩ = some (.int .i64 z))
      (first | exact ⟨c0, c1, d0, d1, d2⟩ | exact KX.out _ hba | exact KX.out _ hbb | exact KX.out _ hbc | exact KX.out _ (((Below.refl _ w18).drew).alloc (Nat.le_refl _) _) | exact KX.out _ (((Below.refl _ w18).alloc (Nat.le_refl _) _).drew) | exact KX.out _ (hba.alloc hba.size _) | exact KX.out _ (hbb.alloc hbb.size _) | exact KX.out _ (hbc.alloc hbc.size _) | exact KX.out _ ((hbc.setCell (p := ⟨wb.heap.size, 0, none⟩) hbb.size _).setCell (p := ⟨wb.heap.size, 1, none⟩) hbb.size _) | exact KX.out _ ((hbc.setCell (p := ⟨wa.heap.size, 0, none⟩) hba.size _).setCell (p := ⟨wa.heap.size, 1, none⟩) hba.size _) | exact KX.out _ ((hbc.setCell (p := ⟨w18.heap.size, 0, none⟩) (Nat.le_refl _) _).setCell (p := ⟨w18.heap.size, 1, none⟩) (Nat.le_refl _) _) | exact KX.out _ (((hbc.alloc hbc.size _).setCell (p := ⟨wc.heap.size, 0, none⟩) hbc.size _).setCell (p := ⟨wc.heap.size, 1, none⟩) hbc.size _) | go_keep)
      (first
        | (go_at_call 28; ((with_reducible refine (HTR.out w18.drew (HK.out.now GX.out.drew)).mono ?_)); rintro e wa ⟨aa, rfl, hla, hba0⟩; have hba := bfrom (Below.refl _ w18).drew hba0; have hna : True := trivial)
        | (go_at_call 28; ((with_reducible refine (HTR.out (w18.drew.alloc (.cells #[.int .i64 0, .slice none 0 0] 55)) (HK.out.now (GX.out.drew.alloc GX.out.size (.cells #[.int .i64 0, .slice none 0 0] 55)))).mono ?_)); rintro e wa ⟨aa, rfl, hla, hba0⟩; have hba := bfrom (((Below.refl _ w18).drew).alloc (Nat.le_refl _) (.cells #[.int .i64 0, .slice none 0 0] 55)) hba0; have hna := (BoxT.new 55 w18.drew (.int .i64 0) (.slice none 0 0)).now hba0)
        | (go_at_call 28; ((with_reducible refine (HTR.out (w18.alloc (.cells #[.int .i64 0, .slice none 0 0] 55)).drew (HK.out.now (GX.out.alloc GX.out.size (.cells #[.int .i64 0, .slice none 0 0] 55)).drew)).mono ?_)); rintro e wa ⟨aa, rfl, hla, hba0⟩; have hba := bfrom (((Below.refl _ w18).alloc (Nat.le_refl _) (.cells #[.int .i64 0, .slice none 0 0] 55)).drew) hba0; have hna := ((BoxT.new 55 w18 (.int .i64 0) (.slice none 0 0)).drew).now hba0)
        | (go_at_call 24; ((with_reducible refine (HTC.out wa).mono ?_)); rintro e wb ⟨rfl, hbb0⟩; have hbb := bfrom hba hbb0; have hla2 := hla.now hbb0; (first | have hnb := hna.now hbb0 | have hnb : True := trivial))
        | (go_at_call 24; ((with_reducible refine (HTC.out (wa.alloc (.cells #[.int .i64 0, .slice none 0 0] 55))).mono ?_)); rintro e wb ⟨rfl, hbb0⟩; have hbb := bfrom (hba.alloc hba.size (.cells #[.int .i64 0, .slice none 0 0] 55)) hbb0; have hla2 := (hla.now (below1 wa (.cells #[.int .i64 0, .slice none 0 0] 55))).now hbb0; have hnb := (BoxT.new 55 wa (.int .i64 0) (.slice none 0 0)).now hbb0)
        | (go_at_call 44; ((with_reducible refine (HIC.out aa wb hla2).mono ?_)); rintro e wc ⟨A21, cp21, rfl, hlc, hbc0⟩; have hbc := bfrom hbb hbc0; (first | have hnc := hnb.now hbc0 | have hnc : True := trivial); (first | (obtain ⟨p0, p1⟩ := hnc.cells; obtain ⟨q0, q1⟩ := frozenU hnc) | skip))
        | (go_at_call 44; ((with_reducible refine (HIC.out aa (wb.alloc (.cells #[.int .i64 0, .slice none 0 0] 55)) (hla2.now (below1 wb (.cells #[.int .i64 0, .slice none 0 0] 55)))).mono ?_)); rintro e wc ⟨A21, cp21, rfl, hlc, hbc0⟩; have hbc := bfrom (hbb.alloc hbb.size (.cells #[.int .i64 0, .slice none 0 0] 55)) hbc0; have hnc := (BoxT.new 55 wb (.int .i64 0) (.slice none 0 0)).now hbc0; simp only [World.size_alloc] at hlc; obtain ⟨p0, p1⟩ := hnc.cells; obtain ⟨q0, q1⟩ := frozenU hnc))
    all_goals
     clear c0 c1 d0 d1 d2
     try clear p0 p1 q0 q1
     first
      | (have hB := box_putU (show BoxT 55 wc wb.heap.size (.int .i64 0) (.slice none 0 0) from hnc) (.int .i64 mm) (.slice A21 ln cp21)
         have hF := (hbc.setCell (p := ⟨wb.heap.size, 0, none⟩) hbb.size (.int .i64 mm)).setCell (p := ⟨wb.heap.size, 1, none⟩) hbb.size (.slice A21 ln cp21)
         have hL := Lies.far (Lies.far hlc (p := ⟨wb.heap.size, 0, none⟩) (Nat.lt_succ_self _) (.int .i64 mm)) (p := ⟨wb.heap.size, 1, none⟩) (Nat.lt_succ_self _) (.slice A21 ln cp21)
         have hP := hbb.size
         obtain ⟨wF, hwF⟩ : ∃ wF, wF = (wc.setCell ⟨wb.heap.size, 0, none⟩ (.int .i64 mm)).setCell ⟨wb.heap.size, 1, none⟩ (.slice A21 ln cp21) := ⟨_, rfl⟩
         rw [← hwF] at hB hF hL ⊢
         clear hwF
         obtain ⟨lo21, hi21, hL21, hD21, hlo21⟩ : ∃ lo hi, Lies (RCl M lo hi (.slice A21 ln cp21)) lo hi wF ∧ (wb.heap.size < lo ∨ hi ≤ wb.heap.size) ∧ w18.heap.size ≤ lo := ⟨_, _, hL, Or.inl (Nat.lt_succ_self _), by have h9 := hbb.size; omega⟩
         clear hL
         generalize wb.heap.size = pB at hB hP hD21 ⊢)
      | (have hB := box_putU (show BoxT 55 wc wa.heap.size (.int .i64 0) (.slice none 0 0) from hnc) (.int .i64 mm) (.slice A21 ln cp21)
         have hab : wa.heap.size < wb.heap.size := (show BoxT 55 wb wa.heap.size (.int .i64 0) (.slice none 0 0) from hnb).lt
         have hF := (hbc.setCell (p := ⟨wa.heap.size, 0, none⟩) hba.size (.int .i64 mm)).setCell (p := ⟨wa.heap.size, 1, none⟩) hba.size (.slice A21 ln cp21)
         have hL := Lies.far (Lies.far hlc (p := ⟨wa.heap.size, 0, none⟩) hab (.int .i64 mm)) (p := ⟨wa.heap.size, 1, none⟩) hab (.slice A21 ln cp21)
         have hP := hba.size
         obtain ⟨wF, hwF⟩ : ∃ wF, wF = (wc.setCell ⟨wa.heap.size, 0, none⟩ (.int .i64 mm)).setCell ⟨wa.heap.size, 1, none⟩ (.slice A21 ln cp21) := ⟨_, rfl⟩
         rw [← hwF] at hB hF hL ⊢
         clear hwF
         obtain ⟨lo21, hi21, hL21, hD21, hlo21⟩ : ∃ lo hi, Lies (RCl M lo hi (.slice A21 ln cp21)) lo hi wF ∧ (wa.heap.size < lo ∨ hi ≤ wa.heap.size) ∧ w18.heap.size ≤ lo := ⟨_, _, hL, Or.inl hab, by have h9 := hbb.size; omega⟩
         clear hL
         generalize wa.heap.size = pB at hB hP hD21 ⊢)
      | (have hB := box_putU (show BoxT 55 wc w18.heap.size (.int .i64 0) (.slice none 0 0) from hnc) (.int .i64 mm) (.slice A21 ln cp21)
         have hab : w18.heap.size < wb.heap.size := (show BoxT 55 wb w18.heap.size (.int .i64 0) (.slice none 0 0) from hnb).lt
         have hF := (hbc.setCell (p := ⟨w18.heap.size, 0, none⟩) (Nat.le_refl _) (.int .i64 mm)).setCell (p := ⟨w18.heap.size, 1, none⟩) (Nat.le_refl _) (.slice A21 ln cp21)
         have hL := Lies.far (Lies.far hlc (p := ⟨w18.heap.size, 0, none⟩) hab (.int .i64 mm)) (p := ⟨w18.heap.size, 1, none⟩) hab (.slice A21 ln cp21)
         have hP := Nat.le_refl w18.heap.size
         obtain ⟨wF, hwF⟩ : ∃ wF, wF = (wc.setCell ⟨w18.heap.size, 0, none⟩ (.int .i64 mm)).setCell ⟨w18.heap.size, 1, none⟩ (.slice A21 ln cp21) := ⟨_, rfl⟩
         rw [← hwF] at hB hF hL ⊢
         clear hwF
         obtain ⟨lo21, hi21, hL21, hD21, hlo21⟩ : ∃ lo hi, Lies (RCl M lo hi (.slice A21 ln cp21)) lo hi wF ∧ (w18.heap.size < lo ∨ hi ≤ w18.heap.size) ∧ w18.heap.size ≤ lo := ⟨_, _, hL, Or.inl hab, by have h9 := hbb.size; omega⟩
         clear hL
         obtain ⟨pB, hpB⟩ : ∃ pB, pB = w18.heap.size := ⟨_, rfl⟩
         replace hD21 : pB < lo21 ∨ hi21 ≤ pB := by rw [hpB]; exact hD21
         rw [← hpB] at hB ⊢
         replace hP : w18.heap.size ≤ pB := Nat.le_of_eq hpB.symm
         clear hpB)
      | (have hB := BoxT.new 55 wc (.int .i64 mm) (.slice A21 ln cp21)
         have hF := hbc.alloc hbc.size (.cells #[.int .i64 mm, .slice A21 ln cp21] 55)
         have hL := hlc.now (below1 wc (.cells #[.int .i64 mm, .slice A21 ln cp21] 55))
         have hP := hbc.size
         obtain ⟨wF, hwF⟩ : ∃ wF, wF = wc.alloc (.cells #[.int .i64 mm, .slice A21 ln cp21] 55) := ⟨_, rfl⟩
         rw [← hwF] at hB hF hL ⊢
         clear hwF
         obtain ⟨lo21, hi21, hL21, hD21, hlo21⟩ : ∃ lo hi, Lies (RCl M lo hi (.slice A21 ln cp21)) lo hi wF ∧ (wc.heap.size < lo ∨ hi ≤ wc.heap.size) ∧ w18.heap.size ≤ lo := ⟨_, _, hL, Or.inr (Nat.le_refl _), by have h9 := hbb.size; omega⟩
         clear hL
         generalize wc.heap.size = pB at hB hP hD21 ⊢)
    all_goals
     have HR21 := Lib.hid hL21
     have hiL21 := hL21.hi_le
     have hpB21 : pB < wF.heap.size := hB.lt
     have hpL21 : w18.heap.size ≤ pB := hP
     have szF := hF.size
     clear hL21 hP hlc hbc0 hbc hnc hbb0 hbb hnb hba0 hba hna hla hla2 KX GX
     obtain ⟨pB21, hpe⟩ : ∃ p, p = pB := ⟨_, rfl⟩
     rw [← hpe] at hB hpB21 hpL21 hD21 ⊢
     clear hpe
     obtain ⟨w21, hwe⟩ : ∃ v, v = wF := ⟨_, rfl⟩
     rw [← hwe] at hB hF HR21 hiL21 hpB21 szF ⊢
     clear hwe
     have g21 := bfrom g18 hF
     have HA21 := Lib.hid (HA18.out.now hF)
     have q21 := q18.now hF
     have v21 := v18.now hF
     have MK21 := Lib.hid (MK18.out.now hF)
     clear g18 HA18 q18 v18 MK18 hF 
     have kk21 := hB
     clear hB
     obtain ⟨c0, c1⟩ := q21.cells
     obtain ⟨d0, d1⟩ := kk21.cells
     obtain ⟨v0, v1⟩ := v21.cells
     go_wp2_with fail
     refine (eqPuzzle_v mm A21 A5 ln cp21 cp5 _ HLM.out HR21.out HA21.out).mono ?_
     rintro e w22 ⟨rfl, hb22⟩
     clear c0 c1 d0 d1 v0 v1
     have g22 := bfrom g21 hb22
     have HA22 := Lib.hid (HA21.out.now hb22)
     have q22 := q21.now hb22
     have v22 := v21.now hb22
     have MK22 := Lib.hid (MK21.out.now hb22)
     have k22 := kk21.now hb22
     have z22 := hb22.size
     try simp only [World.size_alloc] at z22
     clear g21 HA21 q21 v21 MK21 kk21 hb22 
     obtain ⟨c0, c1⟩ := v22.cells
     go_wp2_with fail
     refine (heldPuzzle_v mm A8 ln cp8 _ HLM.out MK22.out).mono ?_
     rw [← HN.out]
     rintro e w23 ⟨rfl, hb23⟩
     go_wp2
     go_ret
     exact ⟨rfl, bfrom g22 hb23⟩

end Go.Proofs.Ytlcfimddcedbcaa
