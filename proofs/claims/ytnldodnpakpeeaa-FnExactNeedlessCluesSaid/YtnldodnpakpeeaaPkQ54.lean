/- Texts of Yu, LL1. -/
import Derived.Test.YtnldodnpakpeeaaPkQ44
import Derived.Test.YtnldodnpakpeeaaPkQ53
import Derived.Outline
import Derived.Test.YtnldodnpakpeeaaPkQ01
import Derived.BigQuiet
import Derived.Deep.RegionHeld3
namespace Go.Proofs.Ytnldodnpakpeeaa
open Go.RowKit Vo

set_option maxRecDepth 20000 in
set_option maxHeartbeats 8000000 in
theorem sNeedlessClues_any (m : Int) (b0 : Nat) (n cap : Nat) (C : List Clu) (w : World) (hl : n ≤ 1048576) (hcap : n ≤ cap) (hcm : cap ≤ 9223372036854775807) (hk : KCl w (some ⟨b0, 0, none⟩) n C) :
    Calls Try.prog 17 #[.agg #[.int .i64 m, .slice (some ⟨b0, 0, none⟩) n cap]] w fun e w' => Ans (RS (needO m C)) (puzB m C) w w' e := by
  obtain ⟨P, hP⟩ : ∃ P : World → Ending → Prop, P = fun w' e => Ans (RS (needO m C)) (puzB m C) w w' e := ⟨_, rfl⟩
  suffices h : Calls Try.prog 17 #[.agg #[.int .i64 m, .slice (some ⟨b0, 0, none⟩) n cap]] w fun e w' => P w' e by rw [hP] at h; exact h
  have HNO := Lib.hid (show puzB m C = false → ∀ w' e, Ans (RS []) false w w' e → P w' e from fun h w' e k => by rw [hP]; unfold needO; rw [h]; exact k)
  have HYES := Lib.hid (show puzB m C = true → ∀ w' e, Ans (RS (needL m.toNat C C.length)) true w w' e → P w' e from fun h w' e k => by rw [hP]; unfold needO; rw [h]; exact k)
  clear hP
  obtain ⟨i0, hi0, hz0, hz1, hz2⟩ := infoIntParts
  have hb0 := below1 w (.cells #[.int .i64 m, .slice (some ⟨b0, 0, none⟩) n cap] 28)
  have hx := BoxT.new 28 w (.int .i64 m) (.slice (some ⟨b0, 0, none⟩) n cap)
  obtain ⟨c0, c1⟩ := hx.cells
  have HP := Lib.hid (pzGood_any m _ n cap C _ (by omega) (hk.now hb0))
  have HK := Lib.hid (hk.now hb0)
  have hcl := hk.1
  clear hk
  cases hp : puzB m C with
  | false =>
    have HN := Lib.hid (HNO.out hp)
    rw [hp] at HP
    clear hp hcl
    go_enter Try.func17, Try.ntmps17
    go_wp2_with fail
    refine HP.out.mono ?_
    rintro e w1 ⟨rfl, hb1⟩
    go_wp2
    exact HN.out _ _ ⟨_, rfl, (RS.of_own (L := []) (World.ownsRow_nil w1 w.heap.size 3 1)).lies (Nat.le_refl _), bfrom hb0 hb1⟩
  | true =>
    obtain ⟨q, rfl, h1, h4, hask⟩ := puzB_nat hp
    have HY := Lib.hid (HYES.out hp)
    rw [Int.toNat_natCast, hcl] at HY
    have hn8 : n ≤ 8 := by have := puzB_le hp; omega
    have HASKD := Lib.hid (fun k (hk : k < C.length) => puzB_asks (puzB_drop hp hk) h1 h4)
    rw [hp] at HP
    have HALL := Lib.hid (fun W (hW : Below (w.alloc (.cells #[.int .i64 (q : Nat), .slice (some ⟨b0, 0, none⟩) n cap] 28)).heap.size (w.alloc (.cells #[.int .i64 (q : Nat), .slice (some ⟨b0, 0, none⟩) n cap] 28)) W) => (pzAll_any q n _ cap C W h1 h4 hl (HK.out.now hW) (fun j hj => hask j (by omega))).mono fun e w' h => h.sol h1 h4 hask)
    have HDROP := Lib.hid (fun W k (hk : k < n) B cp (ho : KCl W B (n - 1) (dropC C k)) => (pzAll_any q (n - 1) B cp (dropC C k) W h1 h4 (by omega) ho (fun j hj => HASKD.out k (by omega) j (by rw [dropC_len (by omega)]; omega))).mono fun e w' h => h.sol h1 h4 (HASKD.out k (by omega)))
    have HW := Lib.hid (fun W k (hkn : k < n) (hW : Below (w.alloc (.cells #[.int .i64 (q : Nat), .slice (some ⟨b0, 0, none⟩) n cap] 28)).heap.size (w.alloc (.cells #[.int .i64 (q : Nat), .slice (some ⟨b0, 0, none⟩) n cap] 28)) W) => pzWithout_any b0 n cap k C W hl hkn hcap hcm (HK.out.now hW))
    have HDL := Lib.hid (fun k (hk : k < n) => show (dropC C k).length = n - 1 from by rw [dropC_len (by omega), hcl])
    obtain ⟨R, hR⟩ : ∃ R, R = (solK q C).length := ⟨_, rfl⟩
    rw [← hR] at HALL
    have HYS := Lib.hid (fun j (h : (solK q (dropC C j)).length = R) => needL_yes (m := q) (C := C) (j := j) (by rw [h, hR]))
    have HNS := Lib.hid (fun j (h : ¬ (solK q (dropC C j)).length = R) => needL_no (m := q) (C := C) (j := j) (by rw [← hR]; exact h))
    have HNL := Lib.hid (needL_len q C)
    clear hp hcl hask hR HASKD HNO HYES
    go_enter Try.func17, Try.ntmps17
    go_wp2_with fail
    refine HP.out.mono ?_
    rintro e w1 ⟨rfl, hb1⟩
    have G1 := Lib.hid (bfrom hb0 hb1)
    have X1 := Lib.hid (hx.now hb1)
    have B1 := Lib.hid hb1
    clear c0 c1
    obtain ⟨c0, c1⟩ := X1.out.cells
    go_wp2_with fail
    refine (HALL.out _ hb1).mono ?_
    rintro e w2 ⟨Q0, BQ, cpQ, rfl, _, _, hb2⟩
    have G2 := Lib.hid (bfrom G1.out hb2)
    have X2 := Lib.hid (X1.out.now hb2)
    have B2 := Lib.hid (show Below (w.alloc (.cells #[.int .i64 (q : Nat), .slice (some ⟨b0, 0, none⟩) n cap] 28)).heap.size (w.alloc (.cells #[.int .i64 (q : Nat), .slice (some ⟨b0, 0, none⟩) n cap] 28)) w2 from bfrom hb1 hb2)
    clear c0 c1 hb1 hb2 hx
    obtain ⟨c0, c1⟩ := X2.out.cells
    have hzw2 := G2.out.size
    have hxl2 := X2.out.lt
    go_wp2_with fail
    go_loopw [4, 6, 19] (fun lv _ i wr => ∃ (j l : Nat) (B : Option Addr) (cb : Nat), j ≤ n ∧ i = .int .i64 j ∧ lv = .slice B l cb ∧ l = (needL q C j).length ∧ wr.ownsRow w2.heap.size 3 1 (.slice B l cb) l ((needL q C j).map (Value.int .i64)) ∧ Below w2.heap.size w2 wr) (fun _ _ i _ => n - (intOf i).toNat)
    case atStart => exact ⟨0, 0, none, 0, Nat.zero_le _, rfl, rfl, rfl, World.ownsRow_nil _ _ _ _, Below.refl _ _⟩
    case round =>
      obtain ⟨j, l, B, cb, hj, rfl, rfl, hll, hown, hbr⟩ := hrel
      have HLL := Lib.hid hll
      have HO := Lib.hid hown
      have HBR := Lib.hid hbr
      have hszr := hbr.size
      have hxr := X2.out.now hbr
      clear c0 c1
      obtain ⟨c0, c1⟩ := hxr.cells
      have hl8 : l ≤ 8 := by have := HNL.out j; omega
      clear hll hown hbr
      by_cases hlt : j < n
      · have HC := Lib.hid (fun W (hW : Below wr.heap.size wr W) => HW.out W j hlt (B2.out.trans ((HBR.out.trans (hW.mono hszr)).mono B2.out.size)))
        have HD := Lib.hid (fun W B7 cp7 (ho : KCl W B7 (n - 1) (dropC C j)) => HDROP.out W j hlt B7 cp7 ho)
        have HYJ := Lib.hid (HYS.out j)
        have HNJ := Lib.hid (HNS.out j)
        have HDJ := Lib.hid (HDL.out j hlt)
        have KX := Lib.hid (show ∀ W, Below wr.heap.size wr W → (W.cell? ⟨w.heap.size, 0, none⟩ = some (.int .i64 (q : Nat)) ∧ W.cell? ⟨w.heap.size, 1, none⟩ = some (.slice (some ⟨b0, 0, none⟩) n cap)) from fun W hW => (hxr.now hW).cells)
        obtain ⟨N1, hN1⟩ : ∃ N1, N1 = (solK q (dropC C j)).length := ⟨_, rfl⟩
        rw [← hN1] at HD HYJ HNJ
        clear hN1
        have hoa := HO.out
        go_wp2_with fail
        go_region_held3 (fun W => W.cell? ⟨w.heap.size, 0, none⟩ = some (.int .i64 (q : Nat)) ∧ W.cell? ⟨w.heap.size, 1, none⟩ = some (.slice (some ⟨b0, 0, none⟩) n cap))
          (first | exact ⟨c0, c1⟩ | exact ⟨k0, k1⟩ | exact ⟨k2, k3⟩ | go_keep)
          (first
            | (go_at_call 50; refine (HC.out _ (Below.refl _ _).drew).mono ?_; rintro e w3 ⟨B7, cp7, rfl, hown7, hb3⟩; have b3 := bfrom (Below.refl _ wr).drew hb3; obtain ⟨k0, k1⟩ := KX.out _ b3; have HO7 := Lib.hid (show KCl w3 B7 (n - 1) (dropC C j) from OwnCl.kcl HDJ.out hown7); clear hown7)
            | (go_at_call 57; refine (HD.out _ B7 cp7 HO7.out).mono ?_; rintro e w4 ⟨Q4, B4, cp4, rfl, _, _, hb4⟩; have b4 := bfrom b3 hb4; obtain ⟨k2, k3⟩ := KX.out _ b4)
            | fail)
        have HB4 := Lib.hid (HBR.out.trans (b4.mono hszr))
        have HO4 := Lib.hid (owns_now HO.out b4)
        have hsz4 := HB4.out.size
        clear k0 k1 k2 k3 b3 hb3 b4 hb4 c0 c1 hoa
        by_cases he : N1 = R
        · have HY1 := Lib.hid (HYJ.out he)
          subst he
          go_wp2_with (first
            | (at_builtin; refine wpList_append_lies _ rfl _ _ _ rfl w2.heap.size 3 i0 _ 1 8 Try.underlying35 hi0 hz0 hz1 hz2 rfl (by decide) (.slice B l cb) l ((needL q C j).map (Value.int .i64)) rfl (HO4.out.alloc _) ⟨w4.heap.size, 0, none⟩ 1 1 [.int .i64 (j : Nat)] rfl rfl (World.news_of_block (cs := #[.int .i64 (j : Nat)]) (t := 3) (fr := (0, 0)) (heap_alloc_new w4 _)) (by simp [Value.oneCell']) (by omega) (by unfold maxLen; omega) (by omega) (by simp; omega) (w4.heap.size + 1) (by simp) ?_; intro gg cap3 w7 hown7 hgrow7 hat7 hlt7)
            | fail)
          have HB7 := Lib.hid ((HB4.out.alloc hsz4 (.cells #[.int .i64 (j : Nat)] 3)).grown hgrow7 (by simp; omega) (fun i hi => (HO4.out.lt i hi).1))
          go_roundw
          case rel => exact ⟨j + 1, l + 1, _, cap3, by omega, by go_num, rfl, by rw [HY1.out, List.length_append, ← HLL.out]; rfl, by rw [HY1.out, List.map_append]; exact hown7, HB7.out⟩
          case measure => simp [intOf]; omega
        · have HN1 := Lib.hid (HNJ.out he)
          have hne : ((N1 : Int) == (R : Int)) = false := beq_false_of_ne (by omega)
          clear he
          go_wp2
          go_roundw
          case rel => exact ⟨j + 1, l, B, cb, by omega, by go_num, rfl, by rw [HN1.out, ← HLL.out], by rw [HN1.out]; exact HO4.out, HB4.out⟩
          case measure => simp [intOf]; omega
      · obtain rfl : j = n := by omega
        have HB9 := Lib.hid (G2.out.trans (HBR.out.mono hzw2))
        go_wp2
        refine HY.out _ _ ⟨_, rfl, ?_, HB9.out⟩
        have h := HO.out
        rw [HLL.out] at h ⊢
        exact (RS.of_own (L := needL q C j) (owns_base2 h hzw2)).lies (Nat.le_refl _)
theorem sNeedlessClues_p (m : Int) (b0 : Nat) (n cap : Nat) (C : List Clu) (w : World) (hl : n ≤ 1048576) (hcap : n ≤ cap) (hk : KCl w (some ⟨b0, 0, none⟩) n C) (h2 : cap ≤ n := by exact Nat.le_refl _) :
    Calls Try.prog 17 #[.agg #[.int .i64 m, .slice (some ⟨b0, 0, none⟩) n cap]] w fun e w' => Ans (RS (needO m C)) (puzB m C) w w' e :=
  sNeedlessClues_any m b0 n cap C w hl hcap (by omega) hk
theorem iNeedlessClues_p (m : Int) (A : Option Addr) (n cap : Nat) (C : List Clu) (w : World) (hl : n ≤ 1048576) (_hc : n ≤ cap) (hk : KCl w A n C) :
    Calls Try.prog 18 #[.agg #[.int .i64 m, .slice A n cap]] w fun e w' => Ans (RS (needO m C)) (puzB m C) w w' e :=
  iNeedlessClues_any m A n cap C w hl hk
end Go.Proofs.Ytnldodnpakpeeaa

namespace Go.Proofs.Ytnldodnpakpeeaa
open Go.RowKit Vo

set_option maxRecDepth 20000 in
set_option maxHeartbeats 6000000 in
theorem lawNeedlessClues (m : Int) (A : Option Addr) (n cap : Nat) (L : List Clu) (w : World) (hm : n ≤ 9223372036854775807) (hk : KCl w A n L) :
    Calls Try.prog 4 #[.agg #[.int .i64 m, .slice A n cap]] w fun e w' => e = .returned (.bool true) ∧ Below w.heap.size w w' := by
  have HK := Lib.hid hk
  have HLEN := Lib.hid hk.1
  clear hk
  have hx0 := BoxT.new 24 w (.int .i64 m) (.slice A n cap)
  have hb0 := below1 w (.cells #[.int .i64 m, .slice A n cap] 24)
  have HSZ := Lib.hid (fun W => szPuzzle_any (.int .i64 m) A n cap W hm)
  have HTO := Lib.hid (fun W hn h => toPuzzle_any m A n cap L W hn h)
  obtain ⟨M, hM⟩ : ∃ M, M = needO m L := ⟨_, rfl⟩
  have HLM := Lib.hid (show M.length ≤ 1048576 from by rw [hM]; exact needO_small m L)
  have HM := Lib.hid hM
  clear hM
  obtain ⟨N, hN⟩ : ∃ N : Nat, N = M.length := ⟨_, rfl⟩
  have hNm : N ≤ 3145728 := by have := HLM.out; omega
  have HN := Lib.hid hN
  clear hN
  obtain ⟨ok, hok⟩ : ∃ ok, ok = puzB m L := ⟨_, rfl⟩
  have HOKB := Lib.hid hok
  clear hok
  go_enter Try.func4, Try.ntmps4
  go_wp2_with fail
  refine (HSZ.out _).mono ?_
  rintro e w1 ⟨h, hb1⟩
  rcases h with rfl | ⟨hl, rfl⟩
  · go_wp2
    go_ret
    exact ⟨rfl, bfrom hb0 hb1⟩
  have hge : ¬ 1048576 - (n : Int) < 0 := by omega
  have HLL := Lib.hid (show L.length ≤ 1048576 from by rw [HLEN.out]; exact hl)
  have g1 := bfrom hb0 hb1
  have hx1 := hx0.now hb1
  have hz1 : w.heap.size + 1 ≤ w1.heap.size := by have := hb1.size; simpa using this
  obtain ⟨c0, c1⟩ := hx1.cells
  go_wp2_with fail
  refine (HTO.out _ hl (HK.out.now g1)).mono ?_
  rintro e w2 ⟨rfl, hl2, hb2⟩
  have g2 := bfrom g1 hb2
  have hx2 := hx1.now hb2
  have hz2 := hb2.size
  have HL2 := Lib.hid (show KCl w2 (some ⟨w1.heap.size + 3, 0, none⟩) n L from (Lies.here hl2).kcl)
  clear hl2 c0 c1
  obtain ⟨c0, c1⟩ := hx2.cells
  go_wp2_with fail
  refine (sNeedlessClues_p m _ n n L _ hl (Nat.le_refl _) HL2.out).mono ?_
  rintro e w3 ⟨v3, rfl, hl3, hb3⟩
  rw [← HM.out] at hl3
  rw [← HOKB.out]
  have HH3 := Lib.hid hl3
  have g3 := bfrom g2 hb3
  have hx3 := hx2.now hb3
  have hz3 := hb3.size
  clear hl3 c0 c1
  obtain ⟨c0, c1⟩ := hx3.cells
  go_wp2_with fail
  refine (HTO.out _ hl (HK.out.now g3)).mono ?_
  rintro e w4 ⟨rfl, hl4, hb4⟩
  have hz4 := hl4.hi_le
  have hz4' := hb4.size
  have b4 := below1 w4 (.cells #[.int .i64 m, .slice (some ⟨w3.heap.size + 3, 0, none⟩) n n] 28)
  have g4 := bfrom (bfrom g3 hb4) b4
  have hx4 := (hx3.now hb4).now b4
  have HH34 := Lib.hid ((HH3.out.now hb4).now b4)
  have hy4 := BoxT.new 28 w4 (.int .i64 m) (.slice (some ⟨w3.heap.size + 3, 0, none⟩) n n)
  have HI4 := Lib.hid (hl4.now b4)
  have HL4 := Lib.hid (show KCl _ (some ⟨w3.heap.size + 3, 0, none⟩) n L from ((Lies.here hl4).kcl).now b4)
  clear hl4 c0 c1
  go_wp2_with fail
  refine (iNeedlessClues_p m _ n n L _ hl (Nat.le_refl _) HL4.out).mono ?_
  rintro e w5 ⟨v5, rfl, hl5, hb5⟩
  rw [← HM.out] at hl5
  rw [← HOKB.out]
  have hz5 := hb5.size
  simp only [World.size_alloc] at hl5 hz5
  have b45 := hb5
  have HH5 := Lib.hid hl5
  have g5 := bfrom g4 b45
  have hx5 := hx4.now b45
  have hy5 := hy4.now b45
  have HI5 := Lib.hid (HI4.out.now b45)
  have HH35 := Lib.hid (HH34.out.now b45)
  clear hl5 hx0 hb0 hb1 g1 hx1 hb2 g2 hx2 hb3 HH3 g3 hx3 hb4 b4 g4 hx4 hy4 HH34 hb5 b45 HL2 HL4 HI4 
  go_wp2_with fail
  refine (eqIntS_v _ HLM.out HH5.out.here HH35.out.here).mono ?_
  rintro e w6 ⟨rfl, hb6⟩
  have g6 := bfrom g5 hb6
  have hx6 := hx5.now hb6
  have hy6 := hy5.now hb6
  have HI6 := Lib.hid (HI5.out.now hb6)
  have HH36 := Lib.hid (HH35.out.now hb6)
  have HH56 := Lib.hid (HH5.out.now hb6)
  have hz6 := hb6.size
  clear g5 hx5 hy5 HI5 HH35 HH5 hb6 
  obtain ⟨c0, c1⟩ := hx6.cells
  obtain ⟨d0, d1⟩ := hy6.cells
  go_wp2_with fail
  go_region_held3 (fun w' => w'.cell? ⟨w.heap.size, 0, none⟩ = some (.int .i64 m) ∧ w'.cell? ⟨w.heap.size, 1, none⟩ = some (.slice A n cap) ∧ w'.cell? ⟨w4.heap.size, 0, none⟩ = some (.int .i64 m) ∧ w'.cell? ⟨w4.heap.size, 1, none⟩ = some (.slice (some ⟨w3.heap.size + 3, 0, none⟩) n n))
    (first | exact ⟨c0, c1, d0, d1⟩ | exact ⟨c80, c81, d80, d81⟩ | exact ⟨c90, c91, d90, d91⟩ | go_keep)
    (first
      | (go_at_call 12; refine (HTO.out _ hl (HK.out.now g6.drew)).mono ?_; rintro e w7 ⟨rfl, hl7, hb7⟩; have HL7 := Lib.hid hl7; clear hl7; obtain ⟨c80, c81⟩ := (hx6.drew.now hb7).cells; obtain ⟨d80, d81⟩ := (hy6.drew.now hb7).cells)
      | (go_at_call 14; refine (eqPuzzle_v m _ _ n n n _ HLL.out (HI6.out.drew.now hb7) HL7.out).mono ?_; rintro e w8 ⟨rfl, hb8⟩; obtain ⟨c90, c91⟩ := ((hx6.drew.now hb7).now hb8).cells; obtain ⟨d90, d91⟩ := ((hy6.drew.now hb7).now hb8).cells))
  have b68 := bfrom hb7 hb8
  have g8 := bfrom g6.drew b68
  have hx8 := hx6.drew.now b68
  have hy8 := hy6.drew.now b68
  have HI8 := Lib.hid (HI6.out.drew.now b68)
  have HH38 := Lib.hid (HH36.out.drew.now b68)
  have HH58 := Lib.hid (HH56.out.drew.now b68)
  have hz8 : w6.heap.size ≤ w8.heap.size := b68.size
  clear c0 c1 d0 d1 c80 c81 d80 d81 c90 c91 d90 d91 hx6 hy6 HI6 HH36 HH56 hb7 hb8 b68 g6 HL7 
  obtain ⟨d0, d1⟩ := hy8.cells
  go_wp2_with fail
  refine (markPuzzle_v m _ n n _ HLL.out HI8.out).mono ?_
  rw [HLEN.out]
  rintro e w9 ⟨rfl, t9, _⟩
  have hk0 : ¬ (1 + ((3 * n : Nat) : Int)) < 0 := by omega
  have g9 := Turn.below g8 t9 (by omega) (by omega)
  have hx9 := hx8.turn t9 (by omega)
  have HH59 := Lib.hid (HH58.out.turn t9 (by omega))
  have HH39 := Lib.hid (HH38.out.turn t9 (by omega))
  have hz9 := t9.size
  clear t9 hx8 hy8 HI8 HH38 HH58 g8 d0 d1 
  go_wp2_with fail
  refine (eqIntS_v _ HLM.out HH59.out.here HH39.out.here).mono ?_
  rintro e w10 ⟨rfl, hb10⟩
  have g10 := bfrom g9 hb10
  have hx10 := hx9.now hb10
  have HH510 := Lib.hid (HH59.out.now hb10)
  have HH310 := Lib.hid (HH39.out.now hb10)
  have hz10 := hb10.size
  clear hx9 HH59 HH39 hb10 g9 
  go_wp2_with fail
  refine (markIntS_v 1 _ (by omega) (by omega) HLM.out HH510.out.here).mono ?_
  rw [← HN.out]
  rintro e w11 ⟨rfl, t11, hmk⟩
  have hh11 := HH510.out.hi_le
  have hz11 := t11.size
  have HMK := Lib.hid (hmk.lies (by omega))
  have g11 := Turn.below g10 t11 (by omega) (by omega)
  have hx11 := hx10.turn t11 (by omega)
  have HH311 := Lib.hid (HH310.out.turn t11 (by omega))
  clear hmk t11 hx10 HH510 HH310 g10 hh11 
  go_wp2_with fail
  refine (heldIntS_v 1 _ (by omega) (by omega) HLM.out HMK.out.here).mono ?_
  rw [← HN.out]
  rintro e w12 ⟨rfl, hb12⟩
  have g12 := bfrom g11 hb12
  have hx12 := hx11.now hb12
  have HH312 := Lib.hid (HH311.out.now hb12)
  have HMK12 := Lib.hid (HMK.out.now hb12)
  clear g11 hx11 HH311 HMK hb12 
  obtain ⟨c0, c1⟩ := hx12.cells
  go_wp2_with fail
  refine (HTO.out _ hl (HK.out.now g12)).mono ?_
  rintro e w13 ⟨rfl, hl13, hb13⟩
  have HL13 := Lib.hid (show KCl w13 (some ⟨w12.heap.size + 3, 0, none⟩) n L from (Lies.here hl13).kcl)
  clear hl13 c0 c1
  go_wp2_with fail
  refine (iNeedlessClues_p m _ n n L _ hl (Nat.le_refl _) HL13.out).mono ?_
  rintro e w14 ⟨v14, rfl, hl14, hb14⟩
  rw [← HM.out] at hl14
  rw [← HOKB.out]
  have b124 := bfrom hb13 hb14
  have HH14 := Lib.hid hl14
  have g14 := bfrom g12 b124
  have HH314 := Lib.hid (HH312.out.now b124)
  have HMK14 := Lib.hid (HMK12.out.now b124)
  clear hl14 hb13 hb14 b124 g12 hx12 HH312 HMK12 HL13 
  go_wp2_with fail
  refine (eqIntS_v _ HLM.out HH14.out.here HH314.out.here).mono ?_
  rintro e w15 ⟨rfl, hb15⟩
  have g15 := bfrom g14 hb15
  have HMK15 := Lib.hid (HMK14.out.now hb15)
  go_wp2_with fail
  refine (heldIntS_v 1 _ (by omega) (by omega) HLM.out HMK15.out.here).mono ?_
  rw [← HN.out]
  rintro e w16 ⟨rfl, hb16⟩
  go_wp2
  go_ret
  exact ⟨rfl, bfrom g15 hb16⟩

end Go.Proofs.Ytnldodnpakpeeaa
