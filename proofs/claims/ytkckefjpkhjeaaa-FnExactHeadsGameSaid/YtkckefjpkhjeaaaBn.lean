/- Contract of the model's HeadsGame. -/
import Derived.Test.YtkckefjpkhjeaaaBm
import Derived.Test.YtkckefjpkhjeaaaS3
import Derived.BigQuiet
import Derived.Deep.RegionHeld3
import Derived.Outline
namespace Go.Proofs.Ytkckefjpkhjeaaa
open Go.RowKit Vo

theorem grown_reflH (w : World) (r : Option Nat) : w.grownBy w r := ⟨rfl, rfl, rfl, Nat.le_refl _, fun _ _ _ => rfl⟩
theorem grown_setH {w wr : World} {g : Nat} (h : w.grownBy wr (some g)) (o : Nat) (u : Value) : w.grownBy (wr.setCell ⟨g, o, none⟩ u) (some g) :=
  ⟨h.os, h.tape, h.output, by have := h.size; simpa [World.setCell] using this, fun k hk hne => (Below.heap_setCell wr ⟨g, o, none⟩ u k (fun e => hne (by rw [e]))).trans (h.block k hk hne)⟩
theorem headsB_split (q : Int) (ws : List Int) (n : Nat) (h : Int) : headsB q ws n h = (goodB q ws n && inB h 0 n) := by
  unfold headsB inB
  congr 1
  rw [Bool.eq_iff_iff]
  simp

set_option maxRecDepth 20000 in
set_option maxHeartbeats 8000000 in
theorem sHeadsGame_ans (q : Int) (A : Option Addr) (n cap : Nat) (ws : List Int) (h : Int) (w : World) (hm : n ≤ 9223372036854775807) (hk : Known w A n ws) (_hw : (Lit.int .i64 h).wf = true) :
    Calls Try.prog 35 #[.agg #[.int .i64 q, .slice A n cap], .int .i64 h] w fun e w' => AnsG RSS0 (okM (headsB q ws n h) n) (okG (headsB q ws n h) ((inOrder n).filter (leastP (headsP q ws n h) n))) (headsB q ws n h) w w' e := by
  have HK := Lib.hid hk
  clear hk
  have hb0 : Below w.heap.size w ((w.alloc (.cells #[.int .i64 q, .slice A n cap] 47)).alloc (.cells #[.int .i64 0, .slice none 0 0] 37)) := (below1 w _).alloc (by simp) _
  have hx := (Box.new w (.int .i64 q) (.slice A n cap)).alloc (.cells #[.int .i64 0, .slice none 0 0] 37)
  have hr := BoxT.new 37 (w.alloc (.cells #[.int .i64 q, .slice A n cap] 47)) (.int .i64 0) (.slice none 0 0)
  simp only [World.size_alloc] at hr
  have KF := Lib.hid (show ∀ W, BoxT 37 W (w.heap.size + 1) (.int .i64 0) (.slice none 0 0) → (W.frozen? ⟨w.heap.size + 1, 0, none⟩ = false ∧ W.frozen? ⟨w.heap.size + 1, 1, none⟩ = false) from fun W h => by unfold BoxT at h; exact ⟨by simp [World.frozen?, h], by simp [World.frozen?, h]⟩)
  obtain ⟨c0, c1⟩ := hx.cells
  cases hok : headsB q ws n h with
  | true =>
    have hsp := hok
    rw [headsB_split, Bool.and_eq_true] at hsp
    obtain ⟨hgb, hib⟩ := hsp
    have hgood : Vo.Good q ws n := of_decide_eq_true hgb
    obtain ⟨b, off, rfl, hsl⟩ := HK.out.get hgood.lo
    have h9 : n < 10 := by have := hgood.hi; omega
    have h512 := pow_lt (n := n) (by omega)
    have HSL := Lib.hid hsl
    have HOK := Lib.hid hgood.ok
    have HGB := Lib.hid hgb
    have HIB := Lib.hid hib
    have HM := Lib.hid (okM_yes (m := (n : Int)) (show true = true from rfl))
    have HG := Lib.hid (okG_yes (S := (inOrder n).filter (leastP (headsP q ws n h) n)) (show true = true from rfl))
    rw [HM.out, HG.out]
    clear HM HG hok hgb hib hgood hsl
    have HWW := Lib.hid (fun W hs => voWins_any q b off n cap ws W h9 HOK.out hs)
    have HPS := Lib.hid (show ∀ s, headsP q ws n h s = (decide (h ≤ (((mem s 9).length : Nat) : Int)) && winB q ws n s) from fun _ => rfl)
    have HV := Lib.hid (fun g2 cap2 W => gmOf_any (headsP q ws n h) n g2 cap2 W h9)
    simp only [WinsAt] at HWW
    obtain ⟨N, hN⟩ : ∃ N, N = 2 ^ n := ⟨_, rfl⟩
    simp only [← hN] at HWW HV
    rw [← hN] at h512
    clear hN
    obtain ⟨L, hL⟩ : ∃ L, L = setsL ((inOrder n).filter (leastP (headsP q ws n h) n)) := ⟨_, rfl⟩
    simp only [← hL] at HV
    rw [← hL]
    clear hL
    obtain ⟨ln, hln⟩ : ∃ z, z = L.length := ⟨_, rfl⟩
    simp only [← hln] at HV
    have HLN := Lib.hid hln
    clear hln
    obtain ⟨X, hX⟩ : ∃ z, z = winB q ws n := ⟨_, rfl⟩
    obtain ⟨Y, hY⟩ : ∃ z, z = headsP q ws n h := ⟨_, rfl⟩
    rw [← hX] at HWW HPS
    rw [← hY] at HV HPS
    clear hX hY
    go_enter Try.func35, Try.ntmps35
    go_wp2_with (first
      | (go_at_call 76; refine (voGood_any q _ n cap ws _ hm (HK.out.now hb0)).mono ?_; rintro e w1 ⟨rfl, hb1⟩; rw [HGB.out]; have hx1 := hx.now hb1; obtain ⟨d0, d1⟩ := hx1.cells; have HR1 := Lib.hid (hr.now hb1); have g1 := bfrom hb0 hb1)
      | (go_at_call 77; refine (l1In_any h 0 n _).mono ?_; rintro e w2 ⟨rfl, rfl⟩; rw [HIB.out])
      | (go_at_call 78; refine (HWW.out _ (HSL.out.now g1)).mono ?_; rintro e w3 ⟨g, cp, rfl, hg, hown, hb3⟩; have HO3 := Lib.hid hown; clear hown)
      | fail)
    have hx3 := hx1.now hb3
    have HX3 := Lib.hid hx3
    have HR3 := Lib.hid (HR1.out.now hb3)
    have hz1 := g1.size
    have hzr := HR1.out.lt
    have hgl := HO3.out.lt
    clear hx hr c0 c1 d0 d1 hx1 hx3
    go_loopw [7, 24] (fun _ i wr => ∃ t : Nat, t ≤ N ∧ i = .int .i64 t ∧ Own wr g 4 N (fun s => .bool (if s < t then Y s else X s)) ∧ w3.grownBy wr (some g)) (fun _ i _ => N - (intOf i).toNat)
    case atStart => exact ⟨0, Nat.zero_le _, rfl, HO3.out.congr fun s _ => by simp, grown_reflH _ _⟩
    case round =>
      obtain ⟨t, ht, rfl, hownt, hgr⟩ := hrel
      have HOT := Lib.hid hownt
      have HGR := Lib.hid hgr
      have hzt := hgr.size
      clear hownt hgr
      by_cases hlt2 : t < N
      · have f0 := HOT.out.cell hlt2
        rw [if_neg (Nat.lt_irrefl t)] at f0
        have f2 := HOT.out.frozen t
        have hglr := HOT.out.lt
        have hYT := HPS.out t
        have HVL := Lib.hid (fun W => voList_any t W (by omega))
        simp only [IntsAt] at HVL
        obtain ⟨l, hl⟩ : ∃ z, z = (mem t 9).length := ⟨_, rfl⟩
        rw [← hl] at hYT
        simp only [← hl] at HVL
        clear hl
        have hlt2' : (t : Int) < (N : Int) := by omega
        have HS := Lib.hid (show ∀ W, Below wr.heap.size wr W → Own (W.setCell ⟨g, t, none⟩ (.bool (Y t))) g 4 N (fun s => .bool (if s < t + 1 then Y s else X s)) from fun W hb => ((HOT.out.below hb hglr).set t (.bool (Y t))).congr fun s hs => by
          by_cases e : s = t
          · subst e; rw [if_pos rfl, if_pos (by omega)]
          · rw [if_neg e]
            by_cases h : s < t
            · rw [if_pos h, if_pos (by omega)]
            · rw [if_neg h, if_neg (by omega)])
        have HG2 := Lib.hid (show ∀ W, Below wr.heap.size wr W → w3.grownBy (W.setCell ⟨g, t, none⟩ (.bool (Y t))) (some g) from fun W hb => grown_setH (HGR.out.trans ⟨hb.os, hb.tape, hb.output, hb.size, fun k hk _ => hb.block k hk⟩) t _)
        obtain ⟨x, hx⟩ : ∃ x, x = X t := ⟨_, rfl⟩
        obtain ⟨y, hy⟩ : ∃ y, y = Y t := ⟨_, rfl⟩
        rw [← hx] at f0 hYT
        rw [← hy] at HS HG2 hYT
        clear hx hy
        cases x with
        | false =>
          simp at hYT
          subst hYT
          go_wp2
          go_roundw
          case rel => exact ⟨t + 1, by omega, by go_num, HS.out wr (Below.refl _ _), HG2.out wr (Below.refl _ _)⟩
          case measure => simp [intOf]; omega
        | true =>
          by_cases hh : h ≤ (l : Int)
          · have hd : decide (h ≤ (l : Int)) = true := decide_eq_true hh
            rw [hd] at hYT
            simp at hYT
            subst hYT
            go_wp2_with (first | (go_at_call 79; refine (HVL.out _).mono ?_; rintro e w5 ⟨A5, cap5, rfl, _, hb5⟩; have k0 := (hb5.cell (p := ⟨g, t, none⟩) hglr).trans f0; have k2 := (hb5.frozen (p := ⟨g, t, none⟩) hglr).trans f2) | fail)
            go_roundw
            case rel => exact ⟨t + 1, by omega, by go_num, HS.out _ hb5, HG2.out _ hb5⟩
            case measure => simp [intOf]; omega
          · have hd : decide (h ≤ (l : Int)) = false := decide_eq_false hh
            rw [hd] at hYT
            simp at hYT
            subst hYT
            go_wp2_with (first | (go_at_call 79; refine (HVL.out _).mono ?_; rintro e w5 ⟨A5, cap5, rfl, _, hb5⟩; have k0 := (hb5.cell (p := ⟨g, t, none⟩) hglr).trans f0; have k2 := (hb5.frozen (p := ⟨g, t, none⟩) hglr).trans f2) | fail)
            go_roundw
            case rel => exact ⟨t + 1, by omega, by go_num, HS.out _ hb5, HG2.out _ hb5⟩
            case measure => simp [intOf]; omega
      · obtain rfl : N = t := by omega
        have hz3 := hb3.size
        have HOF := Lib.hid (show Own wr g 4 N (fun j => .bool (Y j)) from HOT.out.congr fun s hs => by rw [if_pos hs])
        have HB5 := Lib.hid (show Below w.heap.size w wr from (g1.trans (hb3.mono (by omega))).grown HGR.out (by omega) (fun k hk => by cases hk; omega))
        have hx5 := (HX3.out).grown HGR.out (by simp; omega)
        obtain ⟨d0, d1⟩ := hx5.cells
        have HR5 := Lib.hid (HR3.out.grown HGR.out (by simp; omega))
        go_wp2_with (first
          | (go_at_call 71; refine (HV.out g cp _ HOF.out).mono ?_; rintro e w6 ⟨B, cB, rfl, hl6, hb6⟩; have HL6 := Lib.hid hl6; clear hl6; have hr6 := HR5.out.now hb6; obtain ⟨f0, f1⟩ := KF.out _ hr6; obtain ⟨p0, p1⟩ := hr6.cells)
          | fail)
        have hz6 := hb6.size
        refine bodyPost_ret (v := .tuple #[.agg #[.int .i64 n, .slice B ln cB], .bool true]) (by simp [results, Try.results35, go_sem, p0, p1]) rfl ⟨B, cB, by rw [HLN.out], ?_, ?_⟩
        · rw [← HLN.out]
          exact Lies.rss0_wide (Lies.far (Lies.far HL6.out (by first | omega | (simp; omega)) _) (by first | omega | (simp; omega)) _) (by omega) (by first | exact Nat.le_refl _ | simp) (by first | exact Nat.le_refl _ | simp)
        · exact ((bfrom HB5.out hb6).setCell (by simp) _).setCell (by simp) _
  | false =>
    have HOK := Lib.hid hok
    have HM := Lib.hid (okM_no (m := (n : Int)) (show false = false from rfl))
    have HG := Lib.hid (okG_no (S := (inOrder n).filter (leastP (headsP q ws n h) n)) (show false = false from rfl))
    rw [HM.out, HG.out]
    clear HM HG
    cases hgb : goodB q ws n with
    | false =>
      have HGB := Lib.hid hgb
      clear hgb hok
      go_enter Try.func35, Try.ntmps35
      go_wp2_with (first
        | (go_at_call 76; refine (voGood_any q A n cap ws _ hm (HK.out.now hb0)).mono ?_; rintro e w1 ⟨rfl, hb1⟩; rw [HGB.out]; have g1 := bfrom hb0 hb1; have hr1 := hr.now hb1; obtain ⟨f0, f1⟩ := KF.out _ hr1; obtain ⟨p0, p1⟩ := hr1.cells)
        | fail)
      refine bodyPost_ret (v := .tuple #[.agg #[.int .i64 0, .slice none 0 0], .bool false]) (by simp [results, Try.results35, go_sem, p0, p1]) rfl ?_
      exact AnsG.none_ RSS0.none_ ((g1.setCell (by simp) _).setCell (by simp) _)
    | true =>
      have HGB := Lib.hid hgb
      have hib : inB h 0 n = false := by rw [headsB_split, hgb] at hok; simpa using hok
      have HIB := Lib.hid hib
      clear hgb hok hib
      go_enter Try.func35, Try.ntmps35
      go_wp2_with (first
        | (go_at_call 76; refine (voGood_any q A n cap ws _ hm (HK.out.now hb0)).mono ?_; rintro e w1 ⟨rfl, hb1⟩; rw [HGB.out]; have g1 := bfrom hb0 hb1; have hr1 := hr.now hb1; obtain ⟨f0, f1⟩ := KF.out _ hr1; obtain ⟨p0, p1⟩ := hr1.cells; obtain ⟨d0, d1⟩ := (hx.now hb1).cells)
        | (go_at_call 77; refine (l1In_any h 0 n _).mono ?_; rintro e w2 ⟨rfl, rfl⟩; rw [HIB.out])
        | fail)
      refine bodyPost_ret (v := .tuple #[.agg #[.int .i64 0, .slice none 0 0], .bool false]) (by simp [results, Try.results35, go_sem, p0, p1]) rfl ?_
      exact AnsG.none_ RSS0.none_ ((g1.setCell (by simp) _).setCell (by simp) _)

theorem headsGame_few (q : Int) (ws : List Int) (n : Nat) (h : Int) : tot (okG (headsB q ws n h) ((inOrder n).filter (leastP (headsP q ws n h) n))) + (okG (headsB q ws n h) ((inOrder n).filter (leastP (headsP q ws n h) n))).length ≤ 1048576 :=
  okG_few fun hh => by
    unfold headsB at hh
    rw [Bool.and_eq_true] at hh
    have hg : Vo.Good q ws n := of_decide_eq_true hh.1
    exact inOrder_few (by have := hg.hi; omega)
end Go.Proofs.Ytkckefjpkhjeaaa
