/- The walks of exact laws of functions of two games that answer with a game and a truth. -/
import Derived.Test.YtipplbcjdcdapaaJj
import Derived.Test.YtipplbcjdcdapaaJk
import Derived.Test.YtipplbcjdcdapaaKn
import Derived.Test.YtipplbcjdcdapaaL1
import Derived.Test.YtipplbcjdcdapaaI2
namespace Go.Proofs.Ytipplbcjdcdapaa
open Go.RowKit Vo

theorem box_putG {t : TypeId} {w : World} {g : Nat} {u v : Value} (h : BoxT t w g u v) (a b : Value) : BoxT t ((w.setCell ⟨g, 0, none⟩ a).setCell ⟨g, 1, none⟩ b) g a b := by
  unfold BoxT at *
  simp [World.setCell, Array.getElem?_modify, h]
theorem frozenG {t : TypeId} {w : World} {g : Nat} {u v : Value} (h : BoxT t w g u v) : w.frozen? ⟨g, 0, none⟩ = false ∧ w.frozen? ⟨g, 1, none⟩ = false := by
  unfold BoxT at h
  exact ⟨by simp [World.frozen?, h], by simp [World.frozen?, h]⟩

set_option maxRecDepth 20000 in
set_option maxHeartbeats 8000000 in
theorem lawSumGames (m : Int) (A : Option Addr) (n cap : Nat) (L : List (List Int)) (m2 : Int) (A2 : Option Addr) (n2 cap2 : Nat) (L2 : List (List Int)) (w : World) (hm : n ≤ 9223372036854775807) (hk : KSS w A n L) (hm2 : n2 ≤ 9223372036854775807) (hk2 : KSS w A2 n2 L2) :
    Calls Try.prog 9 #[.agg #[.int .i64 m, .slice A n cap], .agg #[.int .i64 m2, .slice A2 n2 cap2]] w fun e w' => e = .returned (.bool true) ∧ Below w.heap.size w w' := by
  have HK := Lib.hid hk
  have HKB := Lib.hid hk2
  have HLEN := Lib.hid hk.1
  have HLENB := Lib.hid hk2.1
  clear hk hk2
  have x0 := (BoxT.new 43 w (.int .i64 m) (.slice A n cap)).alloc (.cells #[.int .i64 m2, .slice A2 n2 cap2] 43)
  have u0 := BoxT.new 43 (w.alloc (.cells #[.int .i64 m, .slice A n cap] 43)) (.int .i64 m2) (.slice A2 n2 cap2)
  have g0 : Below w.heap.size w ((w.alloc (.cells #[.int .i64 m, .slice A n cap] 43)).alloc (.cells #[.int .i64 m2, .slice A2 n2 cap2] 43)) := (below1 w _).alloc (by simp) _
  simp only [World.size_alloc] at u0
  have HSZ := Lib.hid (fun W h => szGame_any m A n cap L 1048576 W (by omega) (by omega) hm h)
  have HTO := Lib.hid (fun W hn h => toGame_any m A n cap L W hn h)
  have HTL := Lib.hid (fun (hn : n + tot L ≤ 1048576) => (show tot L + L.length ≤ 1048576 from by rw [HLEN.out]; omega))
  have HSZB := Lib.hid (fun left W h0 h1 h => szGame_any m2 A2 n2 cap2 L2 left W h0 h1 hm2 h)
  have HTOB := Lib.hid (fun W hn h => toGame_any m2 A2 n2 cap2 L2 W hn h)
  have HTLB := Lib.hid (fun (hn : n2 + tot L2 ≤ 1048576) => (show tot L2 + L2.length ≤ 1048576 from by rw [HLENB.out]; omega))
  have HMW := Lib.hid (fun (A0 : Option Addr) (lo hi : Nat) (kk : Int) (W : World) (h0 : 0 ≤ kk) (hmk : kk + (tot L2 : Nat) + n2 ≤ 1048577) (hm : tot L2 + L2.length ≤ 1048576) (h : Lies (RSS L2 lo hi (.slice A0 n2 n2)) lo hi W) => markGame_w m2 A0 n2 n2 kk W h0 (by rw [HLENB.out]; exact hmk) hm h)
  obtain ⟨T, hT⟩ : ∃ T, T = tot L := ⟨_, rfl⟩
  rw [← hT] at HSZ HTO
  have HTT := Lib.hid hT
  clear hT
  obtain ⟨TB, hTB⟩ : ∃ T, T = tot L2 := ⟨_, rfl⟩
  rw [← hTB] at HSZB HTOB HMW
  have HTTB := Lib.hid hTB
  clear hTB
  obtain ⟨M, hM⟩ : ∃ M, M = okG (joinOk m L m2 L2) (joinS false m L L2) := ⟨_, rfl⟩
  have HLM := Lib.hid (show tot M + M.length ≤ 1048576 from by rw [hM]; exact okG_few joinS_len)
  have HM := Lib.hid hM
  clear hM
  obtain ⟨N, hN⟩ : ∃ N : Nat, N = tot M := ⟨_, rfl⟩
  have hNm : N ≤ 1048576 := by have := HLM.out; omega
  have HN := Lib.hid hN
  clear hN
  obtain ⟨ln, hln⟩ : ∃ z : Nat, z = M.length := ⟨_, rfl⟩
  have hlnm : ln ≤ 1048576 := by have := HLM.out; omega
  have HLN := Lib.hid hln
  clear hln
  obtain ⟨mm, hmm⟩ : ∃ z : Int, z = okM (joinOk m L m2 L2) (m + m2) := ⟨_, rfl⟩
  have HMM := Lib.hid hmm
  clear hmm
  obtain ⟨ok, hok⟩ : ∃ ok, ok = joinOk m L m2 L2 := ⟨_, rfl⟩
  have HOKB := Lib.hid hok
  clear hok
  go_enter Try.func9, Try.ntmps9
  go_wp2_with fail
  refine (HSZ.out _ (HK.out.now g0)).mono ?_
  rintro e w1 ⟨h, hb1⟩
  rcases h with rfl | ⟨hle, rfl⟩
  · go_wp2
    go_ret
    exact ⟨rfl, bfrom g0 hb1⟩
  have hge : ¬ 1048576 - (n : Int) - (T : Int) < 0 := by omega
  have hnt : n + T ≤ 1048576 := by omega
  have hl : n ≤ 1048576 := by omega
  have HLL := Lib.hid (HTL.out (by rw [← HTT.out]; exact hnt))
  have g1 := bfrom g0 hb1
  have x1 := x0.now hb1
  have u1 := u0.now hb1
  have z1 := hb1.size
  try simp only [World.size_alloc] at z1
  clear g0 x0 u0 hb1 
  obtain ⟨c0, c1⟩ := x1.cells
  obtain ⟨d0, d1⟩ := u1.cells
  go_wp2_with fail
  refine (HSZB.out _ _ (by omega) (by omega) (HKB.out.now g1)).mono ?_
  rintro e w2 ⟨h, hb2⟩
  rcases h with rfl | ⟨hle2, rfl⟩
  · go_wp2
    go_ret
    exact ⟨rfl, bfrom g1 hb2⟩
  have hge2 : ¬ 1048576 - (n : Int) - (T : Int) - (n2 : Int) - (TB : Int) < 0 := by omega
  have hnt2 : n2 + TB ≤ 1048576 := by omega
  have hlB : n2 ≤ 1048576 := by omega
  have hkk : (1 + (T : Int)) + (TB : Int) + n2 ≤ 1048577 := by omega
  have HLLB := Lib.hid (HTLB.out (by rw [← HTTB.out]; exact hnt2))
  clear c0 c1 d0 d1
  have g2 := bfrom g1 hb2
  have x2 := x1.now hb2
  have u2 := u1.now hb2
  have z2 := hb2.size
  try simp only [World.size_alloc] at z2
  clear g1 x1 u1 hb2 
  have HTR := Lib.hid (show ∀ W, KSS W A n L → Calls Try.prog 32 #[.agg #[.int .i64 m, .slice A n cap]] W (fun e w' => ∃ a, e = .returned (.agg #[.int .i64 m, .slice a n n]) ∧ ListsR w' a n L ∧ Below W.heap.size W w') from fun W hh => (HTO.out W hnt hh).mono fun e w' h => ⟨_, h.1, (RSS.weak (Lies.here h.2.1)).listsR HLEN.out HLL.out h.2.1.hi_le, h.2.2⟩)
  have HTRB := Lib.hid (show ∀ W, KSS W A2 n2 L2 → Calls Try.prog 32 #[.agg #[.int .i64 m2, .slice A2 n2 cap2]] W (fun e w' => ∃ a, e = .returned (.agg #[.int .i64 m2, .slice a n2 n2]) ∧ ListsR w' a n2 L2 ∧ Below W.heap.size W w') from fun W hh => (HTOB.out W hnt2 hh).mono fun e w' h => ⟨_, h.1, (RSS.weak (Lies.here h.2.1)).listsR HLENB.out HLLB.out h.2.1.hi_le, h.2.2⟩)
  have HSC := Lib.hid (show ∀ a a2 W, ListsR W a n L → ListsR W a2 n2 L2 → Calls Try.prog 40 #[.agg #[.int .i64 m, .slice a n n], .agg #[.int .i64 m2, .slice a2 n2 n2]] W (fun e w' => ∃ A' c', e = .returned (.tuple #[.agg #[.int .i64 mm, .slice A' ln c'], .bool ok]) ∧ Lies (RSS0 M W.heap.size w'.heap.size (.slice A' ln c')) W.heap.size w'.heap.size w' ∧ Below W.heap.size W w') from fun a a2 W h1 h2 => (sSumGames_any m a n n L m2 a2 n2 n2 L2 W hl (Nat.le_refl _) h1 hlB (Nat.le_refl _) h2).mono fun e w' h => by rw [← HM.out, ← HMM.out, ← HOKB.out] at h; unfold AnsG at h; rw [← HLN.out] at h; exact h)
  have HIC := Lib.hid (show ∀ a a2 W, ListsR W a n L → ListsR W a2 n2 L2 → Calls Try.prog 41 #[.agg #[.int .i64 m, .slice a n n], .agg #[.int .i64 m2, .slice a2 n2 n2]] W (fun e w' => ∃ A' c', e = .returned (.tuple #[.agg #[.int .i64 mm, .slice A' ln c'], .bool ok]) ∧ Lies (RSS M W.heap.size w'.heap.size (.slice A' ln c')) W.heap.size w'.heap.size w' ∧ Below W.heap.size W w') from fun a a2 W h1 h2 => (iSumGames_any m a n n L m2 a2 n2 n2 L2 W hl h1.lists hlB h2.lists).mono fun e w' h => by rw [← HM.out, ← HMM.out, ← HOKB.out] at h; unfold AnsG at h; rw [← HLN.out] at h; exact h)
  obtain ⟨c0, c1⟩ := x2.cells
  obtain ⟨d0, d1⟩ := u2.cells
  have KX := Lib.hid (show ∀ W', Below w2.heap.size w2 W' → (W'.cell? ⟨w.heap.size, 0, none⟩ = some (.int .i64 m) ∧ W'.cell? ⟨w.heap.size, 1, none⟩ = some (.slice A n cap) ∧ W'.cell? ⟨w.heap.size + 1, 0, none⟩ = some (.int .i64 m2) ∧ W'.cell? ⟨w.heap.size + 1, 1, none⟩ = some (.slice A2 n2 cap2)) from fun W' hb => ⟨(x2.now hb).cells.1, (x2.now hb).cells.2, (u2.now hb).cells.1, (u2.now hb).cells.2⟩)
  have GX := Lib.hid g2
  go_wp2_with fail
  go_region_held3 (fun w' => w'.cell? ⟨w.heap.size, 0, none⟩ = some (.int .i64 m) ∧ w'.cell? ⟨w.heap.size, 1, none⟩ = some (.slice A n cap) ∧ w'.cell? ⟨w.heap.size + 1, 0, none⟩ = some (.int .i64 m2) ∧ w'.cell? ⟨w.heap.size + 1, 1, none⟩ = some (.slice A2 n2 cap2))
    (first | exact ⟨c0, c1, d0, d1⟩ | exact KX.out _ hba | exact KX.out _ hbb | exact KX.out _ hbc | exact KX.out _ (((Below.refl _ w2).drew).alloc (Nat.le_refl _) _) | exact KX.out _ (((Below.refl _ w2).alloc (Nat.le_refl _) _).drew) | exact KX.out _ (hba.alloc hba.size _) | exact KX.out _ (hbb.alloc hbb.size _) | exact KX.out _ (hbc.alloc hbc.size _) | exact KX.out _ ((hbc.setCell (p := ⟨wb.heap.size, 0, none⟩) hbb.size _).setCell (p := ⟨wb.heap.size, 1, none⟩) hbb.size _) | exact KX.out _ ((hbc.setCell (p := ⟨wa.heap.size, 0, none⟩) hba.size _).setCell (p := ⟨wa.heap.size, 1, none⟩) hba.size _) | exact KX.out _ ((hbc.setCell (p := ⟨w2.heap.size, 0, none⟩) (Nat.le_refl _) _).setCell (p := ⟨w2.heap.size, 1, none⟩) (Nat.le_refl _) _) | go_keep)
    (first
      | (go_at_call 32; ((with_reducible refine (HTR.out w2.drew (HK.out.now GX.out.drew)).mono ?_)); rintro e wa ⟨aa, rfl, hla, hba0⟩; have hba := bfrom (Below.refl _ w2).drew hba0; have hna : True := trivial)
      | (go_at_call 32; ((with_reducible refine (HTR.out (w2.drew.alloc (.cells #[.int .i64 0, .slice none 0 0] 28)) (HK.out.now (GX.out.drew.alloc GX.out.size (.cells #[.int .i64 0, .slice none 0 0] 28)))).mono ?_)); rintro e wa ⟨aa, rfl, hla, hba0⟩; have hba := bfrom (((Below.refl _ w2).drew).alloc (Nat.le_refl _) (.cells #[.int .i64 0, .slice none 0 0] 28)) hba0; have hna := (BoxT.new 28 w2.drew (.int .i64 0) (.slice none 0 0)).now hba0)
      | (go_at_call 32; ((with_reducible refine (HTR.out (w2.alloc (.cells #[.int .i64 0, .slice none 0 0] 28)).drew (HK.out.now (GX.out.alloc GX.out.size (.cells #[.int .i64 0, .slice none 0 0] 28)).drew)).mono ?_)); rintro e wa ⟨aa, rfl, hla, hba0⟩; have hba := bfrom (((Below.refl _ w2).alloc (Nat.le_refl _) (.cells #[.int .i64 0, .slice none 0 0] 28)).drew) hba0; have hna := ((BoxT.new 28 w2 (.int .i64 0) (.slice none 0 0)).drew).now hba0)
      | (go_at_call 32; ((with_reducible refine (HTRB.out wa (HKB.out.now (bfrom GX.out hba))).mono ?_)); rintro e wb ⟨ab, rfl, hlb, hbb0⟩; have hbb := bfrom hba hbb0; have hla2 := hla.now hbb0; (first | have hnb := hna.now hbb0 | have hnb : True := trivial))
      | (go_at_call 32; ((with_reducible refine (HTRB.out (wa.alloc (.cells #[.int .i64 0, .slice none 0 0] 28)) (HKB.out.now ((bfrom GX.out hba).alloc (bfrom GX.out hba).size (.cells #[.int .i64 0, .slice none 0 0] 28)))).mono ?_)); rintro e wb ⟨ab, rfl, hlb, hbb0⟩; have hbb := bfrom (hba.alloc hba.size (.cells #[.int .i64 0, .slice none 0 0] 28)) hbb0; have hla2 := (hla.now (below1 wa (.cells #[.int .i64 0, .slice none 0 0] 28))).now hbb0; have hnb := (BoxT.new 28 wa (.int .i64 0) (.slice none 0 0)).now hbb0)
      | (go_at_call 40; ((with_reducible refine (HSC.out aa ab wb hla2 hlb).mono ?_)); rintro e wc ⟨A5, cp5, rfl, hlc, hbc0⟩; have hbc := bfrom hbb hbc0; (first | have hnc := hnb.now hbc0 | have hnc : True := trivial); (first | (obtain ⟨p0, p1⟩ := hnc.cells; obtain ⟨q0, q1⟩ := frozenG hnc) | skip))
      | (go_at_call 40; ((with_reducible refine (HSC.out aa ab (wb.alloc (.cells #[.int .i64 0, .slice none 0 0] 28)) (hla2.now (below1 wb (.cells #[.int .i64 0, .slice none 0 0] 28))) (hlb.now (below1 wb (.cells #[.int .i64 0, .slice none 0 0] 28)))).mono ?_)); rintro e wc ⟨A5, cp5, rfl, hlc, hbc0⟩; have hbc := bfrom (hbb.alloc hbb.size (.cells #[.int .i64 0, .slice none 0 0] 28)) hbc0; have hnc := (BoxT.new 28 wb (.int .i64 0) (.slice none 0 0)).now hbc0; simp only [World.size_alloc] at hlc; obtain ⟨p0, p1⟩ := hnc.cells; obtain ⟨q0, q1⟩ := frozenG hnc))
  all_goals
   clear c0 c1 d0 d1
   try clear p0 p1 q0 q1
   first
    | (have hB := box_putG (show BoxT 28 wc wb.heap.size (.int .i64 0) (.slice none 0 0) from hnc) (.int .i64 mm) (.slice A5 ln cp5)
       have hF := (hbc.setCell (p := ⟨wb.heap.size, 0, none⟩) hbb.size (.int .i64 mm)).setCell (p := ⟨wb.heap.size, 1, none⟩) hbb.size (.slice A5 ln cp5)
       have hL := Lies.far (Lies.far hlc (p := ⟨wb.heap.size, 0, none⟩) (Nat.lt_succ_self _) (.int .i64 mm)) (p := ⟨wb.heap.size, 1, none⟩) (Nat.lt_succ_self _) (.slice A5 ln cp5)
       have hP := hbb.size
       obtain ⟨wF, hwF⟩ : ∃ wF, wF = (wc.setCell ⟨wb.heap.size, 0, none⟩ (.int .i64 mm)).setCell ⟨wb.heap.size, 1, none⟩ (.slice A5 ln cp5) := ⟨_, rfl⟩
       rw [← hwF] at hB hF hL ⊢
       clear hwF
       generalize wb.heap.size = pB at hB hP ⊢)
    | (have hB := box_putG (show BoxT 28 wc wa.heap.size (.int .i64 0) (.slice none 0 0) from hnc) (.int .i64 mm) (.slice A5 ln cp5)
       have hab : wa.heap.size < wb.heap.size := (show BoxT 28 wb wa.heap.size (.int .i64 0) (.slice none 0 0) from hnb).lt
       have hF := (hbc.setCell (p := ⟨wa.heap.size, 0, none⟩) hba.size (.int .i64 mm)).setCell (p := ⟨wa.heap.size, 1, none⟩) hba.size (.slice A5 ln cp5)
       have hL := Lies.far (Lies.far hlc (p := ⟨wa.heap.size, 0, none⟩) hab (.int .i64 mm)) (p := ⟨wa.heap.size, 1, none⟩) hab (.slice A5 ln cp5)
       have hP := hba.size
       obtain ⟨wF, hwF⟩ : ∃ wF, wF = (wc.setCell ⟨wa.heap.size, 0, none⟩ (.int .i64 mm)).setCell ⟨wa.heap.size, 1, none⟩ (.slice A5 ln cp5) := ⟨_, rfl⟩
       rw [← hwF] at hB hF hL ⊢
       clear hwF
       generalize wa.heap.size = pB at hB hP ⊢)
    | (have hB := box_putG (show BoxT 28 wc w2.heap.size (.int .i64 0) (.slice none 0 0) from hnc) (.int .i64 mm) (.slice A5 ln cp5)
       have hab : w2.heap.size < wb.heap.size := (show BoxT 28 wb w2.heap.size (.int .i64 0) (.slice none 0 0) from hnb).lt
       have hF := (hbc.setCell (p := ⟨w2.heap.size, 0, none⟩) (Nat.le_refl _) (.int .i64 mm)).setCell (p := ⟨w2.heap.size, 1, none⟩) (Nat.le_refl _) (.slice A5 ln cp5)
       have hL := Lies.far (Lies.far hlc (p := ⟨w2.heap.size, 0, none⟩) hab (.int .i64 mm)) (p := ⟨w2.heap.size, 1, none⟩) hab (.slice A5 ln cp5)
       have hP := Nat.le_refl w2.heap.size
       obtain ⟨wF, hwF⟩ : ∃ wF, wF = (wc.setCell ⟨w2.heap.size, 0, none⟩ (.int .i64 mm)).setCell ⟨w2.heap.size, 1, none⟩ (.slice A5 ln cp5) := ⟨_, rfl⟩
       rw [← hwF] at hB hF hL ⊢
       clear hwF
       obtain ⟨pB, hpB⟩ : ∃ pB, pB = w2.heap.size := ⟨_, rfl⟩
       rw [← hpB] at hB ⊢
       replace hP : w2.heap.size ≤ pB := Nat.le_of_eq hpB.symm
       clear hpB)
    | (have hB := BoxT.new 28 wc (.int .i64 mm) (.slice A5 ln cp5)
       have hF := hbc.alloc hbc.size (.cells #[.int .i64 mm, .slice A5 ln cp5] 28)
       have hL := hlc.now (below1 wc (.cells #[.int .i64 mm, .slice A5 ln cp5] 28))
       have hP := hbc.size
       obtain ⟨wF, hwF⟩ : ∃ wF, wF = wc.alloc (.cells #[.int .i64 mm, .slice A5 ln cp5] 28) := ⟨_, rfl⟩
       rw [← hwF] at hB hF hL ⊢
       clear hwF
       generalize wc.heap.size = pB at hB hP ⊢)
  all_goals
   obtain ⟨lo5, hi5, hL5⟩ : ∃ lo hi, Lies (RSS0 M lo hi (.slice A5 ln cp5)) lo hi wF := ⟨_, _, hL⟩
   have HR5 := Lib.hid hL5
   have hiL5 := hL5.hi_le
   have hpB5 : pB < wF.heap.size := hB.lt
   have hpL5 : w2.heap.size ≤ pB := hP
   have szF := hF.size
   clear hL hL5 hP hlc hbc0 hbc hnc hbb0 hbb hnb hba0 hba hna hla hlb hla2 KX GX
   obtain ⟨pB5, hpe⟩ : ∃ p, p = pB := ⟨_, rfl⟩
   rw [← hpe] at hB hpB5 hpL5 ⊢
   clear hpe
   obtain ⟨w5, hwe⟩ : ∃ v, v = wF := ⟨_, rfl⟩
   rw [← hwe] at hB hF HR5 hiL5 hpB5 szF ⊢
   clear hwe
   have g5 := bfrom g2 hF
   have x5 := x2.now hF
   have u5 := u2.now hF
   clear g2 x2 u2 hF 
   have qq5 := hB
   clear hB
   obtain ⟨c0, c1⟩ := x5.cells
   obtain ⟨d0, d1⟩ := u5.cells
   go_wp2_with fail
   refine (HTO.out _ hnt (HK.out.now g5)).mono ?_
   rintro e w6 ⟨rfl, hl6, hb6⟩
   try simp only [World.size_alloc] at hl6
   have z6b := hb6.size
   try simp only [World.size_alloc] at z6b
   have z6 := hl6.hi_le
   have b6 := below1 w6 (.cells #[.int .i64 m, .slice (some ⟨w5.heap.size + 3, 0, none⟩) n n] 28)
   have b56 := bfrom hb6 b6
   have y6 := BoxT.new 28 w6 (.int .i64 m) (.slice (some ⟨w5.heap.size + 3, 0, none⟩) n n)
   have HI6 := Lib.hid (hl6.now b6)
   have LI6 := Lib.hid (show Lists _ (some ⟨w5.heap.size + 3, 0, none⟩) n L from ((RSS.weak (Lies.here hl6)).lists HLEN.out HLL.out).now b6)
   clear hl6 hb6 c0 c1 d0 d1
   have g6 := bfrom g5 b56
   have x6 := x5.now b56
   have u6 := u5.now b56
   have q6 := qq5.now b56
   have HA6 := Lib.hid (HR5.out.now b56)
   clear g5 x5 u5 qq5 HR5 b56 b6
   obtain ⟨c0, c1⟩ := x6.cells
   obtain ⟨d0, d1⟩ := u6.cells
   go_wp2_with fail
   refine (HTOB.out _ hnt2 (HKB.out.now g6)).mono ?_
   rintro e w7 ⟨rfl, hl7, hb7⟩
   simp only [World.size_alloc] at hl7
   have z7b := hb7.size
   simp only [World.size_alloc] at z7b
   have z7 := hl7.hi_le
   have b7 := below1 w7 (.cells #[.int .i64 m2, .slice (some ⟨w6.heap.size + 1 + 3, 0, none⟩) n2 n2] 28)
   have b67 := bfrom hb7 b7
   have t7 := BoxT.new 28 w7 (.int .i64 m2) (.slice (some ⟨w6.heap.size + 1 + 3, 0, none⟩) n2 n2)
   have HJ7 := Lib.hid (hl7.now b7)
   have LJ7 := Lib.hid (show Lists _ (some ⟨w6.heap.size + 1 + 3, 0, none⟩) n2 L2 from ((RSS.weak (Lies.here hl7)).lists HLENB.out HLLB.out).now b7)
   clear hl7 hb7 c0 c1 d0 d1
   have g7 := bfrom g6 b67
   have x7 := x6.now b67
   have u7 := u6.now b67
   have q7 := q6.now b67
   have HA7 := Lib.hid (HA6.out.now b67)
   have y7 := y6.now b67
   have HI7 := Lib.hid (HI6.out.now b67)
   have LI7 := Lib.hid (LI6.out.now b67)
   clear g6 x6 u6 q6 HA6 y6 HI6 LI6 b67 b7
   obtain ⟨c0, c1⟩ := y7.cells
   obtain ⟨d0, d1⟩ := t7.cells
   go_wp2_with fail
   refine (iSumGames_any m _ n n L m2 _ n2 n2 L2 _ hl LI7.out hlB LJ7.out).mono ?_
   rintro e w8 ⟨A8, cp8, rfl, hl8, hb8⟩
   rw [← HM.out, ← HLN.out] at hl8 ⊢
   rw [← HMM.out, ← HOKB.out]
   have z8 := hb8.size
   simp only [World.size_alloc] at hl8 z8
   have b8 := below1 w8 (.cells #[.int .i64 mm, .slice A8 ln cp8] 28)
   have b78 := bfrom hb8 b8
   have HG8 := Lib.hid (hl8.now b8)
   have zg8 := hl8.hi_le
   have v8 := BoxT.new 28 w8 (.int .i64 mm) (.slice A8 ln cp8)
   clear hl8 hb8 LJ7 c0 c1 d0 d1
   have g8 := bfrom g7 b78
   have x8 := x7.now b78
   have u8 := u7.now b78
   have q8 := q7.now b78
   have HA8 := Lib.hid (HA7.out.now b78)
   have y8 := y7.now b78
   have HI8 := Lib.hid (HI7.out.now b78)
   have t8 := t7.now b78
   have HJ8 := Lib.hid (HJ7.out.now b78)
   clear g7 x7 u7 q7 HA7 y7 HI7 t7 HJ7 b78 b8 LI7
   obtain ⟨c0, c1⟩ := q8.cells
   obtain ⟨d0, d1⟩ := v8.cells
   go_wp2_with fail
   refine (eqGame_v mm A8 A5 ln cp8 cp5 _ HLM.out HG8.out HA8.out).mono ?_
   rintro e w9 ⟨rfl, hb9⟩
   clear c0 c1 d0 d1
   have g9 := bfrom g8 hb9
   have x9 := x8.now hb9
   have u9 := u8.now hb9
   have q9 := q8.now hb9
   have HA9 := Lib.hid (HA8.out.now hb9)
   have y9 := y8.now hb9
   have HI9 := Lib.hid (HI8.out.now hb9)
   have t9 := t8.now hb9
   have HJ9 := Lib.hid (HJ8.out.now hb9)
   have v9 := v8.now hb9
   have HG9 := Lib.hid (HG8.out.now hb9)
   have z9 := hb9.size
   try simp only [World.size_alloc] at z9
   clear g8 x8 u8 q8 HA8 y8 HI8 t8 HJ8 v8 HG8 hb9 
   obtain ⟨c0, c1⟩ := x9.cells
   obtain ⟨d0, d1⟩ := y9.cells
   go_wp2_with fail
   go_region_held3 (fun w' => w'.cell? ⟨w.heap.size, 0, none⟩ = some (.int .i64 m) ∧ w'.cell? ⟨w.heap.size, 1, none⟩ = some (.slice A n cap) ∧ w'.cell? ⟨w6.heap.size, 0, none⟩ = some (.int .i64 m) ∧ w'.cell? ⟨w6.heap.size, 1, none⟩ = some (.slice (some ⟨w5.heap.size + 3, 0, none⟩) n n))
     (first | exact ⟨c0, c1, d0, d1⟩ | exact ⟨c80, c81, d80, d81⟩ | exact ⟨c90, c91, d90, d91⟩ | go_keep)
     (first
       | (go_at_call 32; refine (HTO.out _ hnt (HK.out.now g9.drew)).mono ?_; rintro e w10 ⟨rfl, hl10, hb10⟩; have HL10 := Lib.hid hl10; clear hl10; obtain ⟨c80, c81⟩ := (x9.drew.now hb10).cells; obtain ⟨d80, d81⟩ := (y9.drew.now hb10).cells)
       | (go_at_call 19; refine (eqGame_v m _ _ n n n _ HLL.out (HI9.out.drew.now hb10) HL10.out.rss0).mono ?_; rintro e w11 ⟨rfl, hb11⟩; obtain ⟨c90, c91⟩ := ((x9.drew.now hb10).now hb11).cells; obtain ⟨d90, d91⟩ := ((y9.drew.now hb10).now hb11).cells))
   have bb11 := bfrom hb10 hb11
   have z11 : w9.heap.size ≤ w11.heap.size := bb11.size
   clear c0 c1 d0 d1 c80 c81 d80 d81 c90 c91 d90 d91 hb10 hb11 HL10
   have g11 := bfrom g9.drew bb11
   have x11 := x9.drew.now bb11
   have u11 := u9.drew.now bb11
   have q11 := q9.drew.now bb11
   have HA11 := Lib.hid (HA9.out.drew.now bb11)
   have y11 := y9.drew.now bb11
   have HI11 := Lib.hid (HI9.out.drew.now bb11)
   have t11 := t9.drew.now bb11
   have HJ11 := Lib.hid (HJ9.out.drew.now bb11)
   have v11 := v9.drew.now bb11
   have HG11 := Lib.hid (HG9.out.drew.now bb11)
   clear g9 x9 u9 q9 HA9 y9 HI9 t9 HJ9 v9 HG9
   clear bb11
   obtain ⟨c0, c1⟩ := u11.cells
   obtain ⟨d0, d1⟩ := t11.cells
   go_wp2_with fail
   go_region_held3 (fun w' => w'.cell? ⟨(w.heap.size + 1), 0, none⟩ = some (.int .i64 m2) ∧ w'.cell? ⟨(w.heap.size + 1), 1, none⟩ = some (.slice A2 n2 cap2) ∧ w'.cell? ⟨w7.heap.size, 0, none⟩ = some (.int .i64 m2) ∧ w'.cell? ⟨w7.heap.size, 1, none⟩ = some (.slice (some ⟨w6.heap.size + 1 + 3, 0, none⟩) n2 n2))
     (first | exact ⟨c0, c1, d0, d1⟩ | exact ⟨c80, c81, d80, d81⟩ | exact ⟨c90, c91, d90, d91⟩ | go_keep)
     (first
       | (go_at_call 32; refine (HTOB.out _ hnt2 (HKB.out.now g11.drew)).mono ?_; rintro e w12 ⟨rfl, hl12, hb12⟩; have HL12 := Lib.hid hl12; clear hl12; obtain ⟨c80, c81⟩ := (u11.drew.now hb12).cells; obtain ⟨d80, d81⟩ := (t11.drew.now hb12).cells)
       | (go_at_call 19; refine (eqGame_v m2 _ _ n2 n2 n2 _ HLLB.out (HJ11.out.drew.now hb12) HL12.out.rss0).mono ?_; rintro e w13 ⟨rfl, hb13⟩; obtain ⟨c90, c91⟩ := ((u11.drew.now hb12).now hb13).cells; obtain ⟨d90, d91⟩ := ((t11.drew.now hb12).now hb13).cells))
   have bb13 := bfrom hb12 hb13
   have z13 : w11.heap.size ≤ w13.heap.size := bb13.size
   clear c0 c1 d0 d1 c80 c81 d80 d81 c90 c91 d90 d91 hb12 hb13 HL12
   have g13 := bfrom g11.drew bb13
   have x13 := x11.drew.now bb13
   have u13 := u11.drew.now bb13
   have q13 := q11.drew.now bb13
   have HA13 := Lib.hid (HA11.out.drew.now bb13)
   have y13 := y11.drew.now bb13
   have HI13 := Lib.hid (HI11.out.drew.now bb13)
   have t13 := t11.drew.now bb13
   have HJ13 := Lib.hid (HJ11.out.drew.now bb13)
   have v13 := v11.drew.now bb13
   have HG13 := Lib.hid (HG11.out.drew.now bb13)
   clear g11 x11 u11 q11 HA11 y11 HI11 t11 HJ11 v11 HG11
   clear bb13
   obtain ⟨c0, c1⟩ := y13.cells
   obtain ⟨d0, d1⟩ := t13.cells
   go_wp2_with fail
   refine (markGame_v m _ n n _ HLL.out HI13.out).mono ?_
   rw [← HTT.out]
   rintro e w14 ⟨rfl, tt14, _⟩
   clear c0 c1 d0 d1
   have g14 := Turn.below g13 tt14 (by omega) (by omega)
   have x14 := x13.turn tt14 (by omega)
   have u14 := u13.turn tt14 (by omega)
   have q14 := q13.turn tt14 (by omega)
   have HA14 := Lib.hid (HA13.out.turn tt14 (by omega))
   have t14 := t13.turn tt14 (by omega)
   have HJ14 := Lib.hid (HJ13.out.turn tt14 (by omega))
   have v14 := v13.turn tt14 (by omega)
   have HG14 := Lib.hid (HG13.out.turn tt14 (by omega))
   have z14 := tt14.size
   clear g13 x13 u13 q13 HA13 y13 HI13 t13 HJ13 v13 HG13
   clear tt14
   obtain ⟨c0, c1⟩ := t14.cells
   go_wp2_with fail
   refine (HMW.out _ _ _ _ _ (by omega) hkk (by rw [HTTB.out]; exact HLLB.out) HJ14.out).mono ?_
   rintro e w15 ⟨rfl, tt15⟩
   clear c0 c1
   have g15 := Turn.below g14 tt15 (by omega) (by omega)
   have x15 := x14.turn tt15 (by omega)
   have u15 := u14.turn tt15 (by omega)
   have q15 := q14.turn tt15 (by omega)
   have HA15 := Lib.hid (HA14.out.turn tt15 (by omega))
   have v15 := v14.turn tt15 (by omega)
   have HG15 := Lib.hid (HG14.out.turn tt15 (by omega))
   have z15 := tt15.size
   clear g14 x14 u14 q14 HA14 t14 HJ14 v14 HG14
   clear tt15
   have hk0 : ¬ (1 + (T : Int)) + (TB : Int) < 0 := by omega
   obtain ⟨c0, c1⟩ := q15.cells
   obtain ⟨d0, d1⟩ := v15.cells
   go_wp2_with fail
   refine (eqGame_v mm A8 A5 ln cp8 cp5 _ HLM.out HG15.out HA15.out).mono ?_
   rintro e w16 ⟨rfl, hb16⟩
   clear c0 c1 d0 d1
   have g16 := bfrom g15 hb16
   have x16 := x15.now hb16
   have u16 := u15.now hb16
   have q16 := q15.now hb16
   have HA16 := Lib.hid (HA15.out.now hb16)
   have v16 := v15.now hb16
   have HG16 := Lib.hid (HG15.out.now hb16)
   have z16 := hb16.size
   try simp only [World.size_alloc] at z16
   clear g15 x15 u15 q15 HA15 v15 HG15 hb16 
   obtain ⟨c0, c1⟩ := v16.cells
   go_wp2_with fail
   refine (markGame_v mm A8 ln cp8 _ HLM.out HG16.out).mono ?_
   rw [← HN.out]
   rintro e w17 ⟨rfl, tt17, hmk⟩
   have hh17 := HG16.out.hi_le
   have zz17 := tt17.size
   have MK17 := Lib.hid (hmk.lies (by omega))
   clear hmk c0 c1
   have g17 := Turn.below g16 tt17 (by omega) (by omega)
   have x17 := x16.turn tt17 (by omega)
   have u17 := u16.turn tt17 (by omega)
   have q17 := q16.turn tt17 (by omega)
   have HA17 := Lib.hid (HA16.out.turn tt17 (by omega))
   have v17 := v16.turn tt17 (by omega)
   have z17 := tt17.size
   clear g16 x16 u16 q16 HA16 v16 HG16
   clear tt17 hh17 zz17
   obtain ⟨c0, c1⟩ := v17.cells
   go_wp2_with fail
   refine (heldGame_v mm A8 ln cp8 _ HLM.out MK17.out).mono ?_
   rw [← HN.out]
   rintro e w18 ⟨rfl, hb18⟩
   clear c0 c1
   have g18 := bfrom g17 hb18
   have x18 := x17.now hb18
   have u18 := u17.now hb18
   have q18 := q17.now hb18
   have HA18 := Lib.hid (HA17.out.now hb18)
   have v18 := v17.now hb18
   have MK18 := Lib.hid (MK17.out.now hb18)
   have z18 := hb18.size
   try simp only [World.size_alloc] at z18
   clear g17 x17 u17 q17 HA17 v17 MK17 hb18 
   obtain ⟨c0, c1⟩ := x18.cells
   obtain ⟨d0, d1⟩ := u18.cells
   have KX := Lib.hid (show ∀ W', Below w18.heap.size w18 W' → (W'.cell? ⟨w.heap.size, 0, none⟩ = some (.int .i64 m) ∧ W'.cell? ⟨w.heap.size, 1, none⟩ = some (.slice A n cap) ∧ W'.cell? ⟨w.heap.size + 1, 0, none⟩ = some (.int .i64 m2) ∧ W'.cell? ⟨w.heap.size + 1, 1, none⟩ = some (.slice A2 n2 cap2)) from fun W' hb => ⟨(x18.now hb).cells.1, (x18.now hb).cells.2, (u18.now hb).cells.1, (u18.now hb).cells.2⟩)
   have GX := Lib.hid g18
   go_wp2_with fail
   go_region_held3 (fun w' => w'.cell? ⟨w.heap.size, 0, none⟩ = some (.int .i64 m) ∧ w'.cell? ⟨w.heap.size, 1, none⟩ = some (.slice A n cap) ∧ w'.cell? ⟨w.heap.size + 1, 0, none⟩ = some (.int .i64 m2) ∧ w'.cell? ⟨w.heap.size + 1, 1, none⟩ = some (.slice A2 n2 cap2))
     (first | exact ⟨c0, c1, d0, d1⟩ | exact KX.out _ hba | exact KX.out _ hbb | exact KX.out _ hbc | exact KX.out _ (((Below.refl _ w18).drew).alloc (Nat.le_refl _) _) | exact KX.out _ (((Below.refl _ w18).alloc (Nat.le_refl _) _).drew) | exact KX.out _ (hba.alloc hba.size _) | exact KX.out _ (hbb.alloc hbb.size _) | exact KX.out _ (hbc.alloc hbc.size _) | exact KX.out _ ((hbc.setCell (p := ⟨wb.heap.size, 0, none⟩) hbb.size _).setCell (p := ⟨wb.heap.size, 1, none⟩) hbb.size _) | exact KX.out _ ((hbc.setCell (p := ⟨wa.heap.size, 0, none⟩) hba.size _).setCell (p := ⟨wa.heap.size, 1, none⟩) hba.size _) | exact KX.out _ ((hbc.setCell (p := ⟨w18.heap.size, 0, none⟩) (Nat.le_refl _) _).setCell (p := ⟨w18.heap.size, 1, none⟩) (Nat.le_refl _) _) | go_keep)
     (first
       | (go_at_call 32; ((with_reducible refine (HTR.out w18.drew (HK.out.now GX.out.drew)).mono ?_)); rintro e wa ⟨aa, rfl, hla, hba0⟩; have hba := bfrom (Below.refl _ w18).drew hba0; have hna : True := trivial)
       | (go_at_call 32; ((with_reducible refine (HTR.out (w18.drew.alloc (.cells #[.int .i64 0, .slice none 0 0] 28)) (HK.out.now (GX.out.drew.alloc GX.out.size (.cells #[.int .i64 0, .slice none 0 0] 28)))).mono ?_)); rintro e wa ⟨aa, rfl, hla, hba0⟩; have hba := bfrom (((Below.refl _ w18).drew).alloc (Nat.le_refl _) (.cells #[.int .i64 0, .slice none 0 0] 28)) hba0; have hna := (BoxT.new 28 w18.drew (.int .i64 0) (.slice none 0 0)).now hba0)
       | (go_at_call 32; ((with_reducible refine (HTR.out (w18.alloc (.cells #[.int .i64 0, .slice none 0 0] 28)).drew (HK.out.now (GX.out.alloc GX.out.size (.cells #[.int .i64 0, .slice none 0 0] 28)).drew)).mono ?_)); rintro e wa ⟨aa, rfl, hla, hba0⟩; have hba := bfrom (((Below.refl _ w18).alloc (Nat.le_refl _) (.cells #[.int .i64 0, .slice none 0 0] 28)).drew) hba0; have hna := ((BoxT.new 28 w18 (.int .i64 0) (.slice none 0 0)).drew).now hba0)
       | (go_at_call 32; ((with_reducible refine (HTRB.out wa (HKB.out.now (bfrom GX.out hba))).mono ?_)); rintro e wb ⟨ab, rfl, hlb, hbb0⟩; have hbb := bfrom hba hbb0; have hla2 := hla.now hbb0; (first | have hnb := hna.now hbb0 | have hnb : True := trivial))
       | (go_at_call 32; ((with_reducible refine (HTRB.out (wa.alloc (.cells #[.int .i64 0, .slice none 0 0] 28)) (HKB.out.now ((bfrom GX.out hba).alloc (bfrom GX.out hba).size (.cells #[.int .i64 0, .slice none 0 0] 28)))).mono ?_)); rintro e wb ⟨ab, rfl, hlb, hbb0⟩; have hbb := bfrom (hba.alloc hba.size (.cells #[.int .i64 0, .slice none 0 0] 28)) hbb0; have hla2 := (hla.now (below1 wa (.cells #[.int .i64 0, .slice none 0 0] 28))).now hbb0; have hnb := (BoxT.new 28 wa (.int .i64 0) (.slice none 0 0)).now hbb0)
       | (go_at_call 41; ((with_reducible refine (HIC.out aa ab wb hla2 hlb).mono ?_)); rintro e wc ⟨A21, cp21, rfl, hlc, hbc0⟩; have hbc := bfrom hbb hbc0; (first | have hnc := hnb.now hbc0 | have hnc : True := trivial); (first | (obtain ⟨p0, p1⟩ := hnc.cells; obtain ⟨q0, q1⟩ := frozenG hnc) | skip))
       | (go_at_call 41; ((with_reducible refine (HIC.out aa ab (wb.alloc (.cells #[.int .i64 0, .slice none 0 0] 28)) (hla2.now (below1 wb (.cells #[.int .i64 0, .slice none 0 0] 28))) (hlb.now (below1 wb (.cells #[.int .i64 0, .slice none 0 0] 28)))).mono ?_)); rintro e wc ⟨A21, cp21, rfl, hlc, hbc0⟩; have hbc := bfrom (hbb.alloc hbb.size (.cells #[.int .i64 0, .slice none 0 0] 28)) hbc0; have hnc := (BoxT.new 28 wb (.int .i64 0) (.slice none 0 0)).now hbc0; simp only [World.size_alloc] at hlc; obtain ⟨p0, p1⟩ := hnc.cells; obtain ⟨q0, q1⟩ := frozenG hnc))
   all_goals
    clear c0 c1 d0 d1
    try clear p0 p1 q0 q1
    first
     | (have hB := box_putG (show BoxT 28 wc wb.heap.size (.int .i64 0) (.slice none 0 0) from hnc) (.int .i64 mm) (.slice A21 ln cp21)
        have hF := (hbc.setCell (p := ⟨wb.heap.size, 0, none⟩) hbb.size (.int .i64 mm)).setCell (p := ⟨wb.heap.size, 1, none⟩) hbb.size (.slice A21 ln cp21)
        have hL := Lies.far (Lies.far hlc (p := ⟨wb.heap.size, 0, none⟩) (Nat.lt_succ_self _) (.int .i64 mm)) (p := ⟨wb.heap.size, 1, none⟩) (Nat.lt_succ_self _) (.slice A21 ln cp21)
        have hP := hbb.size
        obtain ⟨wF, hwF⟩ : ∃ wF, wF = (wc.setCell ⟨wb.heap.size, 0, none⟩ (.int .i64 mm)).setCell ⟨wb.heap.size, 1, none⟩ (.slice A21 ln cp21) := ⟨_, rfl⟩
        rw [← hwF] at hB hF hL ⊢
        clear hwF
        generalize wb.heap.size = pB at hB hP ⊢)
     | (have hB := box_putG (show BoxT 28 wc wa.heap.size (.int .i64 0) (.slice none 0 0) from hnc) (.int .i64 mm) (.slice A21 ln cp21)
        have hab : wa.heap.size < wb.heap.size := (show BoxT 28 wb wa.heap.size (.int .i64 0) (.slice none 0 0) from hnb).lt
        have hF := (hbc.setCell (p := ⟨wa.heap.size, 0, none⟩) hba.size (.int .i64 mm)).setCell (p := ⟨wa.heap.size, 1, none⟩) hba.size (.slice A21 ln cp21)
        have hL := Lies.far (Lies.far hlc (p := ⟨wa.heap.size, 0, none⟩) hab (.int .i64 mm)) (p := ⟨wa.heap.size, 1, none⟩) hab (.slice A21 ln cp21)
        have hP := hba.size
        obtain ⟨wF, hwF⟩ : ∃ wF, wF = (wc.setCell ⟨wa.heap.size, 0, none⟩ (.int .i64 mm)).setCell ⟨wa.heap.size, 1, none⟩ (.slice A21 ln cp21) := ⟨_, rfl⟩
        rw [← hwF] at hB hF hL ⊢
        clear hwF
        generalize wa.heap.size = pB at hB hP ⊢)
     | (have hB := box_putG (show BoxT 28 wc w18.heap.size (.int .i64 0) (.slice none 0 0) from hnc) (.int .i64 mm) (.slice A21 ln cp21)
        have hab : w18.heap.size < wb.heap.size := (show BoxT 28 wb w18.heap.size (.int .i64 0) (.slice none 0 0) from hnb).lt
        have hF := (hbc.setCell (p := ⟨w18.heap.size, 0, none⟩) (Nat.le_refl _) (.int .i64 mm)).setCell (p := ⟨w18.heap.size, 1, none⟩) (Nat.le_refl _) (.slice A21 ln cp21)
        have hL := Lies.far (Lies.far hlc (p := ⟨w18.heap.size, 0, none⟩) hab (.int .i64 mm)) (p := ⟨w18.heap.size, 1, none⟩) hab (.slice A21 ln cp21)
        have hP := Nat.le_refl w18.heap.size
        obtain ⟨wF, hwF⟩ : ∃ wF, wF = (wc.setCell ⟨w18.heap.size, 0, none⟩ (.int .i64 mm)).setCell ⟨w18.heap.size, 1, none⟩ (.slice A21 ln cp21) := ⟨_, rfl⟩
        rw [← hwF] at hB hF hL ⊢
        clear hwF
        obtain ⟨pB, hpB⟩ : ∃ pB, pB = w18.heap.size := ⟨_, rfl⟩
        rw [← hpB] at hB ⊢
        replace hP : w18.heap.size ≤ pB := Nat.le_of_eq hpB.symm
        clear hpB)
     | (have hB := BoxT.new 28 wc (.int .i64 mm) (.slice A21 ln cp21)
        have hF := hbc.alloc hbc.size (.cells #[.int .i64 mm, .slice A21 ln cp21] 28)
        have hL := hlc.now (below1 wc (.cells #[.int .i64 mm, .slice A21 ln cp21] 28))
        have hP := hbc.size
        obtain ⟨wF, hwF⟩ : ∃ wF, wF = wc.alloc (.cells #[.int .i64 mm, .slice A21 ln cp21] 28) := ⟨_, rfl⟩
        rw [← hwF] at hB hF hL ⊢
        clear hwF
        generalize wc.heap.size = pB at hB hP ⊢)
   all_goals
    obtain ⟨lo21, hi21, hL21⟩ : ∃ lo hi, Lies (RSS M lo hi (.slice A21 ln cp21)) lo hi wF := ⟨_, _, hL⟩
    have HR21 := Lib.hid hL21
    have hiL21 := hL21.hi_le
    have hpB21 : pB < wF.heap.size := hB.lt
    have hpL21 : w18.heap.size ≤ pB := hP
    have szF := hF.size
    clear hL hL21 hP hlc hbc0 hbc hnc hbb0 hbb hnb hba0 hba hna hla hlb hla2 KX GX
    obtain ⟨pB21, hpe⟩ : ∃ p, p = pB := ⟨_, rfl⟩
    rw [← hpe] at hB hpB21 hpL21 ⊢
    clear hpe
    obtain ⟨w21, hwe⟩ : ∃ v, v = wF := ⟨_, rfl⟩
    rw [← hwe] at hB hF HR21 hiL21 hpB21 szF ⊢
    clear hwe
    have g21 := bfrom g18 hF
    have q21 := q18.now hF
    have HA21 := Lib.hid (HA18.out.now hF)
    have v21 := v18.now hF
    have MK21 := Lib.hid (MK18.out.now hF)
    clear g18 q18 HA18 v18 MK18 hF 
    have kk21 := hB
    clear hB
    obtain ⟨c0, c1⟩ := q21.cells
    obtain ⟨d0, d1⟩ := kk21.cells
    obtain ⟨v0, v1⟩ := v21.cells
    go_wp2_with fail
    refine (eqGame_v mm A21 A5 ln cp21 cp5 _ HLM.out HR21.out HA21.out).mono ?_
    rintro e w22 ⟨rfl, hb22⟩
    clear c0 c1 d0 d1 v0 v1
    have g22 := bfrom g21 hb22
    have q22 := q21.now hb22
    have HA22 := Lib.hid (HA21.out.now hb22)
    have v22 := v21.now hb22
    have MK22 := Lib.hid (MK21.out.now hb22)
    have k22 := kk21.now hb22
    have z22 := hb22.size
    try simp only [World.size_alloc] at z22
    clear g21 q21 HA21 v21 MK21 kk21 hb22 
    obtain ⟨c0, c1⟩ := v22.cells
    go_wp2_with fail
    refine (heldGame_v mm A8 ln cp8 _ HLM.out MK22.out).mono ?_
    rw [← HN.out]
    rintro e w23 ⟨rfl, hb23⟩
    go_wp2
    go_ret
    exact ⟨rfl, bfrom g22 hb23⟩

end Go.Proofs.Ytipplbcjdcdapaa
