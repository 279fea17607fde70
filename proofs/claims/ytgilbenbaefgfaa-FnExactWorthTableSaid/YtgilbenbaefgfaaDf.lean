/- WorthTable, the model's. -/
import Derived.Test.YtgilbenbaefgfaaDd
import Derived.Test.YtgilbenbaefgfaaDe
import Derived.Outline
namespace Go.Proofs.Ytgilbenbaefgfaa
open Go.RowKit Vo

theorem worth_self (p : Nat → Bool) (n i : Nat) : worthP p n i i = true := by
  unfold worthP
  rw [allK_iff]
  intro s _
  unfold worthS
  cases s.testBit i <;> cases p (s ||| 2^i) <;> rfl
theorem bitF_self (p : Nat → Bool) (n i : Nat) : bitF (worthP p n) i i = 1 := by unfold bitF; rw [worth_self]; rfl

set_option maxRecDepth 20000 in
set_option maxHeartbeats 8000000 in
theorem sWorthTable_any (m : Int) (A : Option Addr) (n cap : Nat) (L : List (List Int)) (w : World) (hl : n ≤ 1048576) (hcap : n ≤ cap) (hk : ListsR w A n L) :
    Calls Try.prog 28 #[.agg #[.int .i64 m, .slice A n cap]] w fun e w' => Ans (RSS0 (wtabL m L)) (goodG m L) w w' e := by
  obtain ⟨i0, hi0, hz0, hz1, hz2⟩ := info_parts infoInts
  have HK := Lib.hid (hk.now (below1 w (.cells #[.int .i64 m, .slice A n cap] 28)))
  clear hk
  have hx := BoxT.new 28 w (.int .i64 m) (.slice A n cap)
  have hb0 := below1 w (.cells #[.int .i64 m, .slice A n cap] 28)
  obtain ⟨c0, c1⟩ := hx.cells
  cases hg : goodG m L with
  | false =>
    have HGB := Lib.hid hg
    have HCN := Lib.hid (wtabL_no hg)
    clear hg
    go_enter Try.func28, Try.ntmps28
    go_wp2_with fail
    refine (gmGood_any m A n cap L _ hl hcap HK.out).mono ?_
    rintro e w1 ⟨rfl, hb1⟩
    rw [HGB.out]
    go_wp2
    go_ret2
    rw [HCN.out]
    exact ⟨_, rfl, RSS0.lies (RSS.weak (SSb.rss (SSb.nil _ _) ⟨none, 0, rfl⟩)) (Nat.le_refl _), bfrom hb0 hb1⟩
  | true =>
    obtain ⟨h1, h9, _, hr, _⟩ := goodG_parts hg
    obtain ⟨q, rfl⟩ : ∃ q : Nat, m = q := ⟨m.toNat, by omega⟩
    rw [Int.toNat_natCast] at hr
    have hq9 : q ≤ 9 := by omega
    have HGB := Lib.hid hg
    have HCN := Lib.hid (show wtabL (q : Int) L = rowsT (worthP (wnL (setsN L)) q) q q from wtabL_yes hg)
    have HGA := Lib.hid (fun W h => gmAll_any q A n cap L W hq9 hl hr h)
    have HDW := Lib.hid (fun i j g cap W (hi : i < q) (hj : j < q) h => deWorth_any (wnL (setsN L)) q i j g cap W (by omega) hi hj h)
    have HSELF := Lib.hid (fun i => bitF_self (wnL (setsN L)) q i)
    have hmk := run_make_row' (P := Try.prog) 36 3 (.int .i64 0) 8 Try.underlying36 infoInt rfl .i64 .i64 q (by omega) (by omega)
    clear hg hr
    obtain ⟨N, hN⟩ : ∃ N, N = 2^q := ⟨_, rfl⟩
    rw [← hN] at HGA HDW
    clear hN
    obtain ⟨f, hf⟩ : ∃ f, f = worthP (wnL (setsN L)) q := ⟨_, rfl⟩
    simp only [← hf] at HDW HSELF
    rw [← hf] at HCN
    clear hf
    go_enter Try.func28, Try.ntmps28
    go_wp2_with fail
    refine (gmGood_any q A n cap L _ hl hcap HK.out).mono ?_
    rintro e w1 ⟨rfl, hb1⟩
    rw [HGB.out]
    have g1 := bfrom hb0 hb1
    have hx1 := hx.now hb1
    clear c0 c1
    obtain ⟨c0, c1⟩ := hx1.cells
    go_wp2_with fail
    refine (HGA.out _ (HK.out.now hb1).lists).mono ?_
    rintro e w3 ⟨rfl, hown, hb3⟩
    have HO := Lib.hid hown
    have hol := hown.lt
    have HX3 := Lib.hid (hx1.now hb3)
    have g3 := bfrom g1 hb3
    obtain ⟨tg, htg⟩ : ∃ z, z = w1.heap.size + 1 := ⟨_, rfl⟩
    rw [← htg] at HO hol ⊢
    clear hown hx1 hx c0 c1 htg
    obtain ⟨c0, c1⟩ := HX3.out.cells
    go_wp2
    go_loopw [5, 6, 7] (fun v x _ wr => ∃ (i : Nat) (B : Option Addr) (cp : Nat), i ≤ q ∧ x = .int .i64 i ∧ v = .slice B i cp ∧ SSb w3.heap.size (rowsT f q i) (.slice B i cp) wr ∧ Below w3.heap.size w3 wr) (fun _ x _ _ => q - (intOf x).toNat)
    case atStart => exact ⟨0, none, 0, Nat.zero_le _, rfl, rfl, SSb.nil _ _, Below.refl _ _⟩
    case round =>
      obtain ⟨i, B, cp, hi, rfl, rfl, hssb, hbr⟩ := hrel
      obtain ⟨wo, hwo⟩ : ∃ z, z = wr := ⟨_, rfl⟩
      subst hwo
      have HSS := Lib.hid hssb
      have hszr := hbr.size
      have HXR := Lib.hid (HX3.out.now hbr)
      obtain ⟨d0, d1⟩ := HXR.out.cells
      by_cases hlt : i < q
      · have hlen := rowsT_len f q i
        obtain ⟨xs, G, ho, _⟩ := hssb
        rw [hlen] at ho
        have HXS := Lib.hid ho
        have HLEN2 := Lib.hid hlen
        have HDI := Lib.hid (fun j W (hj : j < q) hb => HDW.out i j tg N W hlt hj (HO.out.below hb hol))
        have HOR := Lib.hid (HO.out.below hbr hol)
        have HST := Lib.hid (show rowsT f q (i+1) = rowsT f q i ++ [perL (bitF f i) q] from rfl)
        clear hlen ho
        go_wp2
        go_loopw [8, 25] (fun _ x wr => ∃ j : Nat, j ≤ q ∧ x = .int .i64 j ∧ Own wr wo.heap.size 3 q (fun t => .int .i64 (if t < j then bitF f i t else 0 : Nat)) ∧ Below wo.heap.size wo wr) (fun _ x _ => q - (intOf x).toNat)
        case atStart => exact ⟨0, Nat.zero_le _, rfl, (Own.of_row (World.rowIs_made wo (.int .i64 0) q 3)).congr fun t _ => by simp, below1 _ _⟩
        case round =>
          obtain ⟨j, hj, rfl, hrow, hbi⟩ := hrel
          have HR := Lib.hid hrow
          have hrl := hrow.lt
          clear hrow
          by_cases hlt2 : j < q
          · have hold := HR.out.cell hlt2
            simp only [Nat.lt_irrefl, if_false] at hold
            have hfr := HR.out.frozen j
            have HSET := Lib.hid (HR.out.set j (.int .i64 1))
            have HDJ := Lib.hid (HDI.out j wr hlt2 (hbr.trans (hbi.mono hszr)))
            have HB := Lib.hid (show bitF f i j = if f i j then 1 else 0 from rfl)
            have HYES := Lib.hid (show bitF f i j = 1 → ∀ wk : World, Own (wk.setCell ⟨wo.heap.size, j, none⟩ (.int .i64 1)) wo.heap.size 3 q (fun t => if t = j then .int .i64 1 else .int .i64 (if t < j then bitF f i t else 0 : Nat)) → Own (wk.setCell ⟨wo.heap.size, j, none⟩ (.int .i64 1)) wo.heap.size 3 q (fun t => .int .i64 (if t < j + 1 then bitF f i t else 0 : Nat)) from fun h wk ho => ho.congr fun t _ => by
              by_cases e : t = j
              · subst e; simp [h]
              · by_cases h2 : t < j
                · simp [e, h2, show t < j + 1 from by omega]
                · simp [e, h2, show ¬ t < j + 1 from by omega])
            have HB3 := Lib.hid (hbi.setCell (p := ⟨wo.heap.size, j, none⟩) (Nat.le_refl _) (.int .i64 1))
            by_cases hij : i = j
            · subst hij
              have HO3 := Lib.hid (HYES.out (HSELF.out i) _ HSET.out)
              go_wp2
              go_roundw
              case rel => exact ⟨i + 1, by omega, by go_num, HO3.out, HB3.out⟩
              case measure => simp [intOf]; omega
            · have hne : ((i : Int) == (j : Int)) = false := beq_false_of_ne (by omega)
              cases hfij : f i j
              · rw [hfij] at HDJ HB
                have HO3 := Lib.hid (show Own wr wo.heap.size 3 q (fun t => .int .i64 (if t < j + 1 then bitF f i t else 0 : Nat)) from HR.out.congr fun t _ => by
                  by_cases e : t = j
                  · subst e; simp [HB.out]
                  · by_cases h2 : t < j
                    · simp [h2, show t < j + 1 from by omega]
                    · simp [h2, show ¬ t < j + 1 from by omega])
                clear hfij hij
                go_wp2_with (go_at_call 42; refine HDJ.out.mono ?_; rintro e w4 ⟨rfl, rfl⟩)
                go_roundw
                case rel => exact ⟨j + 1, by omega, by go_num, HO3.out, hbi⟩
                case measure => simp [intOf]; omega
              · rw [hfij] at HDJ HB
                have HO3 := Lib.hid (HYES.out HB.out _ HSET.out)
                clear hfij hij
                go_wp2_with (go_at_call 42; refine HDJ.out.mono ?_; rintro e w4 ⟨rfl, rfl⟩)
                go_roundw
                case rel => exact ⟨j + 1, by omega, by go_num, HO3.out, HB3.out⟩
                case measure => simp [intOf]; omega
          · obtain rfl : j = q := by omega
            have HPL := Lib.hid (perL_len (bitF f i) j)
            have HRS := Lib.hid (show RS (perL (bitF f i) j) wo.heap.size wr.heap.size (.slice (some ⟨wo.heap.size, 0, none⟩) j j) wr from ⟨_, j, by rw [HPL.out], Or.inr ⟨wo.heap.size, rfl, Nat.le_refl _, hrl, by rw [HPL.out]; exact HR.out.congr fun t ht => by rw [perL_get ht, if_pos ht]⟩⟩)
            have HO5 := Lib.hid (owns_now HXS.out hbi)
            have b5 := hbr.trans (hbi.mono hszr)
            have hsz5 := b5.size
            go_wp2_with (at_builtin; refine wpList_append_lies _ rfl _ _ _ rfl w3.heap.size 36 i0 _ 1 24 Try.underlying22 hi0 hz0 hz1 hz2 rfl (by decide) (.slice B i cp) i xs rfl (HO5.out.alloc _) ⟨wr.heap.size, 0, none⟩ 1 1 [.slice (some ⟨wo.heap.size, 0, none⟩) j j] rfl rfl (World.news_of_block (cs := #[.slice (some ⟨wo.heap.size, 0, none⟩) j j]) (t := 36) (fr := (0, 0)) (heap_alloc_new wr _)) (by simp [Value.oneCell']) (by omega) (by unfold maxLen; omega) (by omega) (by simp; omega) (wr.heap.size + 1) (by simp) ?_; intro gg cap4 w6 hown6 hgrow6 hat hlt6)
            have b6 : Below w3.heap.size w3 w6 := (b5.alloc (by omega) (.cells #[.slice (some ⟨wo.heap.size, 0, none⟩) j j] 36)).grown hgrow6 (by simp; omega) fun i hi => owns_le HO5.out hi
            have HP := Lib.hid (SSb.pushR (l := perL (bitF f i) j) HSS.out HLEN2.out.symm hszr hbi HRS.out (Nat.le_succ _) _ (below1 wr (.cells #[.slice (some ⟨wo.heap.size, 0, none⟩) j j] 36)) (by simp) xs HXS.out hown6 hgrow6 hat)
            go_roundw
            case rel => exact ⟨i + 1, some ⟨gg, 0, none⟩, cap4, by omega, by go_num, by simp, by rw [HST.out]; exact HP.out, b6⟩
            case measure => simp [intOf]; omega
      · obtain rfl : i = q := by omega
        go_wp2
        go_ret2
        rw [HCN.out]
        exact ⟨_, rfl, RSS0.lies (RSS.weak (SSb.rss (SSb.less HSS.out g3.size) ⟨B, cp, by rw [rowsT_len]; rfl⟩)) (Nat.le_refl _), bfrom g3 hbr⟩
end Go.Proofs.Ytgilbenbaefgfaa
