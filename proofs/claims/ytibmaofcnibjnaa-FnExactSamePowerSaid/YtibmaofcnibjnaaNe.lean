/- SamePower: the model's side. -/
import Derived.Test.YtibmaofcnibjnaaNc
import Derived.Deep.RegionWith
import Derived.BigQuiet
import Derived.Deep.QuietTactic
import Derived.Outline
namespace Go.Proofs.Ytibmaofcnibjnaa
open Go.RowKit Vo

theorem newsTwoP (w : World) (x y : Value) (t u : TypeId) : ∀ j z, [y][j]? = some z → ((w.alloc (.cells #[x] t)).alloc (.cells #[y] u)).cell? ((⟨w.heap.size + 1, 0, none⟩ : Addr).add j) = some z := by
  intro j z hj
  have h := World.news_of_block (w := (w.alloc (.cells #[x] t)).alloc (.cells #[y] u)) (cs := #[y]) (t := u) (fr := (0, 0)) (B := w.heap.size + 1) (by
    have h := heap_alloc_new (w.alloc (.cells #[x] t)) (.cells #[y] u)
    rw [World.size_alloc] at h
    exact h)
  exact h j z (by simpa using hj)

/-- A row of numbers of the members. -/
theorem perL_own {w : World} {base g cap n : Nat} {F : Nat → Nat} (h : w.ownsRow base 3 1 (.slice (some ⟨g, 0, none⟩) (perL F n).length cap) (perL F n).length ((perL F n).map (Value.int .i64))) : Own w g 3 n (fun k => .int .i64 (F k : Nat)) := by
  have hl : (perL F n).length = n := by simp [perL]
  rw [hl] at h
  refine Own.of_own h (fun i hi => ?_)
  simp [perL, hi]
theorem owns_headM {w : World} {base : Nat} {e : TypeId} {size : Nat} {A : Option Addr} {cap n m : Nat} {xs : List Value} (h : w.ownsRow base e size (.slice A n cap) m xs) (hm : m = n) (hn : 0 < n) : ∃ g, A = some ⟨g, 0, none⟩ ∧ base ≤ g := by
  subst hm
  obtain ⟨g, c, hv, hg, _⟩ := owns_headN2 h hn
  obtain ⟨rfl, _⟩ : A = some ⟨g, 0, none⟩ ∧ cap = c := by simpa using hv
  exact ⟨g, rfl, hg⟩

set_option maxRecDepth 20000 in
set_option maxHeartbeats 8000000 in
theorem sSamePower_any (q : Int) (A : Option Addr) (n cap : Nat) (ws : List Int) (w : World) (hm : n ≤ 9223372036854775807) (hk : Known w A n ws) :
    Calls Try.prog 32 #[.agg #[.int .i64 q, .slice A n cap]] w fun e w' => Ans (RSS0 (samL q ws n)) (goodB q ws n) w w' e := by
  obtain ⟨P, hP⟩ : ∃ P : World → Ending → Prop, P = fun w' e => Ans (RSS0 (samL q ws n)) (goodB q ws n) w w' e := ⟨_, rfl⟩
  suffices h : Calls Try.prog 32 #[.agg #[.int .i64 q, .slice A n cap]] w fun e w' => P w' e by rw [hP] at h; exact h
  have HNO := Lib.hid (show goodB q ws n = false → ∀ w' e, Ans (RSS0 []) false w w' e → P w' e from fun h w' e k => by rw [hP, h, samL_no h]; exact k)
  have HYES := Lib.hid (show goodB q ws n = true → ∀ w' e, Ans (RSS0 (samK (powF q ws n) n)) true w w' e → P w' e from fun h w' e k => by rw [hP, h, samL_yes h]; exact k)
  clear hP
  have hx := Box.new w (.int .i64 q) (.slice A n cap)
  have hb0 := below1 w (.cells #[.int .i64 q, .slice A n cap] 24)
  obtain ⟨c0, c1⟩ := hx.cells
  have HI := Lib.hid (voGood_any q A n cap ws _ hm (hk.now hb0))
  have HK := Lib.hid hk
  clear hk
  cases hg : goodB q ws n with
  | false =>
    rw [hg] at HI
    have HN := Lib.hid (HNO.out hg)
    clear hg
    go_enter Try.func32, Try.ntmps32
    go_wp2_with fail
    refine HI.out.mono ?_
    rintro e w1 ⟨rfl, hb1⟩
    go_wp2
    exact HN.out _ _ (Ans.noneSS0 (bfrom hb0 hb1))
  | true =>
    have hG : Vo.Good q ws n := by
      by_cases h : Vo.Good q ws n
      · exact h
      · rw [goodB_false h] at hg; cases hg
    rw [hg] at HI
    have HY := Lib.hid (HYES.out hg)
    obtain ⟨b, off, rfl, hsl⟩ := HK.out.get hG.lo
    have HSL := Lib.hid hsl
    have HOK := Lib.hid hG.ok
    have hn9 := hG.hi
    have hn1 := hG.lo
    have hn10 : n < 10 := by omega
    obtain ⟨i0, hi0, hz0, hz1, hz2⟩ := info_parts infoInts
    obtain ⟨m0, hm0, hmz0, hmz1, hmz2⟩ := info_parts infoInt
    obtain ⟨f, hf⟩ : ∃ f, f = powF q ws n := ⟨_, rfl⟩
    have HF1 := Lib.hid (show (fun k => cnt (swP (winB q ws n) k) (2^n)) = fun k => (f k).1 from by rw [hf]; rfl)
    have HF2 := Lib.hid (show (fun k => pivN (winB q ws n) n k (2^n)) = fun k => (f k).2 from by rw [hf]; rfl)
    rw [← hf] at HY
    clear hg hG hsl HNO HYES hf HK
    go_enter Try.func32, Try.ntmps32
    go_wp2_with fail
    refine HI.out.mono ?_
    rintro e w1 ⟨rfl, hb1⟩
    have g1 := bfrom hb0 hb1
    have hx1 := hx.now hb1
    clear c0 c1 hx
    obtain ⟨c0, c1⟩ := hx1.cells
    have hs1 := Lib.hid (HSL.out.now g1)
    go_wp2_with fail
    refine (voWins_any q b off n cap ws _ hn10 HOK.out hs1.out).mono ?_
    rintro e w2 ⟨g, cap2, rfl, hg, hown, hb2⟩
    have HO2 := Lib.hid hown
    have hx2 := hx1.now hb2
    have HX2 := Lib.hid hx2
    have HG2 := Lib.hid (bfrom g1 hb2)
    clear hown c0 c1 hx1 hb1 hb0 g1
    obtain ⟨c0, c1⟩ := hx2.cells
    have HC3 := Lib.hid (fun W (hW : Below w2.heap.size w2 W) => pwCounts_any (winB q ws n) n g cap2 W hn10 (Own.below HO2.out hW HO2.out.lt))
    have HC4 := Lib.hid (fun W (hW : Below w2.heap.size w2 W) => pwPivots_any (winB q ws n) n g cap2 W hn10 (Own.below HO2.out hW HO2.out.lt))
    have KX := Lib.hid (show ∀ W, Below w2.heap.size w2 W → W.cell? ⟨w.heap.size, 0, none⟩ = some (.int .i64 q) ∧ W.cell? ⟨w.heap.size, 1, none⟩ = some (.slice (some ⟨b, off, none⟩) n cap) from fun W hW => (hx2.now hW).cells)
    rw [HF1.out] at HC3
    rw [HF2.out] at HC4
    have hxl := hx2.lt
    clear hx2
    go_wp2_with fail
    go_region_held3 (fun W => W.cell? ⟨w.heap.size, 0, none⟩ = some (.int .i64 q) ∧ W.cell? ⟨w.heap.size, 1, none⟩ = some (.slice (some ⟨b, off, none⟩) n cap))
      (first | exact ⟨c0, c1⟩ | exact KX.out _ b4 | exact KX.out _ b3 | go_keep)
      (first
        | (go_at_call 63; refine (HC3.out _ (by first | exact b4 | exact (Below.refl _ _).drew)).mono ?_; rintro e w3 ⟨A3, cap3, rfl, hown3, hb3⟩; have HO3 := Lib.hid hown3; have b3 : Below w2.heap.size w2 w3 := bfrom (by first | exact b4 | exact (Below.refl _ w2).drew) hb3; clear hown3)
        | (go_at_call 64; refine (HC4.out _ (by first | exact b3 | exact (Below.refl _ _).drew)).mono ?_; rintro e w4 ⟨A4, cap4, rfl, hown4, hb4⟩; have HO4 := Lib.hid hown4; have b4 : Below w2.heap.size w2 w4 := bfrom (by first | exact b3 | exact (Below.refl _ w2).drew) hb4; clear hown4)
        | fail)
    have ho3 := owns_now HO3.out hb4
    have hl3 : (perL (fun k => (f k).1) n).length = n := perL_len _ _
    have hl4 : (perL (fun k => (f k).2) n).length = n := perL_len _ _
    obtain ⟨g3, rfl, hg3⟩ := owns_headM ho3 rfl (by omega)
    obtain ⟨g4, rfl, hg4⟩ := owns_headM HO4.out rfl (by omega)
    have HR3 := Lib.hid (perL_own ho3)
    have HR4 := Lib.hid (perL_own HO4.out)
    rw [hl3, hl4]
    have HX4 := Lib.hid (HX2.out.now b4)
    have HG4 := Lib.hid (bfrom HG2.out b4)
    have hxl4 := HX4.out.lt
    have hr3 := HR3.out.lt
    have hr4 := HR4.out.lt
    clear ho3 hl3 hl4 hg3 hg4 HO3 HO4 HC3 HC4 KX b3 b4 hb3 hb4 c0 c1 HO2 HX2 hg hb2 HF1 HF2 hs1 HSL HOK
    obtain ⟨c0, c1⟩ := HX4.out.cells
    go_wp2_with fail
    go_loopw [7, 8, 9, 10, 11, 30] (fun ov _ _ _ _ i wr => ∃ (j lp : Nat) (G : Option Addr) (cg : Nat), j ≤ n ∧ i = .int .i64 j ∧ lp = (samP f j).length ∧ ov = .slice G lp cg ∧ GR w4.heap.size (samK f j) (.slice G lp cg) wr ∧ Below w4.heap.size w4 wr) (fun _ _ _ _ _ i _ => n - (intOf i).toNat)
    case atStart => exact ⟨0, 0, none, 0, Nat.zero_le _, rfl, rfl, rfl, GR.nil _ _, Below.refl _ _⟩
    case round =>
      obtain ⟨j, lp, G, cg, hj, rfl, hlp, rfl, hgr, hbr⟩ := hrel
      obtain ⟨v1, v2, v3, v4⟩ := sam_inv f j
      obtain ⟨wA, rfl⟩ : ∃ wA, wA = wr := ⟨_, rfl⟩
      have HV4 := Lib.hid v4
      have HLP := Lib.hid hlp
      have HKL := Lib.hid (show (samK f j).length = lp from by rw [hlp]; exact v1)
      have hlp9 : lp ≤ j := by omega
      have HGR := Lib.hid hgr
      have HBR := Lib.hid hbr
      have hszr := hbr.size
      clear v1 v2 v3 v4 hgr hbr hlp
      by_cases hlt : j < n
      · have HR3A := Lib.hid (HR3.out.below HBR.out hr3)
        have HR4A := Lib.hid (HR4.out.below HBR.out hr4)
        go_wp2_with fail
        -- is there a group of this power?
        go_loopw [9, 10, 11, 35] (fun at_ _ _ i wr => ∃ t : Nat, t ≤ lp ∧ i = .int .i64 t ∧ at_ = .int .i64 (if samI f j < t then (samI f j : Nat) else -1) ∧ Below wA.heap.size wA wr) (fun _ _ _ i _ => lp - (intOf i).toNat)
        case atStart => exact ⟨0, Nat.zero_le _, rfl, by simp, Below.refl _ _⟩
        case round =>
          obtain ⟨t, ht, rfl, rfl, hbi⟩ := hrel
          have HBI := Lib.hid hbi
          have hszi := hbi.size
          clear hbi
          by_cases hltt : t < lp
          · obtain ⟨h, q1, q2, q3, q4⟩ := HV4.out t (by rw [← HLP.out]; exact hltt)
            obtain ⟨xs, hxs, hx1, hx2⟩ := HGR.out
            rw [HKL.out] at hxs
            obtain ⟨gv, cv, hv, hgv, _, _⟩ := owns_headN2 hxs (by omega)
            obtain ⟨rfl, rfl⟩ : G = some ⟨gv, 0, none⟩ ∧ cg = cv := by simpa using hv
            obtain ⟨x, hxt, hxo, hxn⟩ := hx1 t (by rw [HKL.out]; exact hltt)
            have hpos : 0 < ((samK f j).getD t []).length := by
              rcases Nat.eq_zero_or_pos ((samK f j).getD t []).length with hz | hz
              · rw [List.getElem?_eq_none (by omega)] at q2; cases q2
              · exact hz
            obtain ⟨gx, cx, rfl, _, _, _⟩ := owns_headN2 hxo hpos
            have hxi := owns_now hxo HBI.out
            have hcg : wr.cell? ⟨gv, t, none⟩ = some (.slice (some ⟨gx, 0, none⟩) ((samK f j).getD t []).length cx) := by
              have := owns_now hxs HBI.out
              rw [this.cellAt t (by have := this.1; simp at this; omega)]
              exact hxt
            have hcx : wr.cell? ⟨gx, 0, none⟩ = some (.int .i64 (h : Nat)) := by
              rw [hxi.cellAt 0 (by omega), List.getElem?_map, q2]
              rfl
            have hhn : h < n := by omega
            have a3 := HR3A.out.below HBI.out HR3A.out.lt
            have a4 := HR4A.out.below HBI.out HR4A.out.lt
            have d1 := a3.cell hhn
            have d2 := a3.cell hlt
            have d3 := a4.cell hhn
            have d4 := a4.cell hlt
            obtain ⟨ll, hll⟩ : ∃ z, z = ((samK f j).getD t []).length := ⟨_, rfl⟩
            rw [← hll] at hcg hpos
            have hl0 : (0 : Int) < (ll : Int) := by omega
            have HUQ := Lib.hid (show f h = f j → samI f j = t from fun e => samI_uniq (by rw [← HLP.out]; exact hltt) (by rw [← q3]; exact e))
            have HNI := Lib.hid (show f h ≠ f j → samI f j ≠ t from fun e e2 => e (by
              have := samI_at (f := f) (j := j) (by rw [e2, ← HLP.out]; exact hltt)
              rw [e2, ← q3] at this
              exact this))
            obtain ⟨⟨f1, f2⟩, hfh⟩ : ∃ p, p = f h := ⟨_, rfl⟩
            obtain ⟨⟨k1, k2⟩, hfk⟩ : ∃ p, p = f j := ⟨_, rfl⟩
            rw [← hfh] at d1 d3 HUQ HNI
            rw [← hfk] at d2 d4 HUQ HNI
            simp only at d1 d2 d3 d4
            obtain ⟨I, hI⟩ : ∃ I, I = samI f j := ⟨_, rfl⟩
            rw [← hI] at HUQ HNI ⊢
            have HII := Lib.hid hI
            clear hxs hx1 hx2 hv hxt hxo hxn hxi a3 a4 q1 q2 q3 q4 hll hfh hfk hI
            by_cases e1 : f1 = k1
            · by_cases e2 : f2 = k2
              · have hIt := HUQ.out (by rw [e1, e2])
                have HIT := Lib.hid hIt
                subst e1 e2
                obtain ⟨av, hav⟩ : ∃ av : Int, av = if I < t then (I : Int) else -1 := ⟨_, rfl⟩
                rw [← hav]
                clear hav hIt
                go_wp2_with fail
                go_region_held3 (fun W => W.cell? ⟨gx, 0, none⟩ = some (.int .i64 (h : Nat)) ∧ W.cell? ⟨g3, h, none⟩ = some (.int .i64 (f1 : Nat)) ∧ W.cell? ⟨g3, j, none⟩ = some (.int .i64 (f1 : Nat)) ∧ W.cell? ⟨g4, h, none⟩ = some (.int .i64 (f2 : Nat)) ∧ W.cell? ⟨g4, j, none⟩ = some (.int .i64 (f2 : Nat)))
                  (first | exact ⟨hcx, d1, d2, d3, d4⟩ | go_keep)
                  (first | fail)
                all_goals
                  go_wp2
                  go_roundw
                  case rel => exact ⟨t + 1, by omega, by go_num, by rw [HIT.out, if_pos (by omega)], by first | exact HBI.out | exact HBI.out.drew | exact below_drewN HBI.out _⟩
                  case measure => simp [intOf]; omega
              · have hIt := HNI.out (fun e => e2 (by simpa using congrArg Prod.snd e))
                have heq : ((f2 : Int) == (k2 : Int)) = false := beq_false_of_ne (by omega)
                have HST := Lib.hid (show (if I < t then (I : Int) else -1) = if I < t + 1 then (I : Int) else -1 from by
                  by_cases hc : I < t
                  · rw [if_pos hc, if_pos (by omega)]
                  · rw [if_neg hc, if_neg (by omega)])
                obtain ⟨av, hav⟩ : ∃ av : Int, av = if I < t then (I : Int) else -1 := ⟨_, rfl⟩
                rw [← hav] at HST ⊢
                subst e1
                clear hav hIt e2
                go_wp2_with fail
                go_region_held3 (fun W => W.cell? ⟨gx, 0, none⟩ = some (.int .i64 (h : Nat)) ∧ W.cell? ⟨g3, h, none⟩ = some (.int .i64 (f1 : Nat)) ∧ W.cell? ⟨g3, j, none⟩ = some (.int .i64 (f1 : Nat)) ∧ W.cell? ⟨g4, h, none⟩ = some (.int .i64 (f2 : Nat)) ∧ W.cell? ⟨g4, j, none⟩ = some (.int .i64 (k2 : Nat)))
                  (first | exact ⟨hcx, d1, d2, d3, d4⟩ | go_keep)
                  (first | fail)
                all_goals
                  go_wp2
                  go_roundw
                  case rel => exact ⟨t + 1, by omega, by go_num, by rw [← HST.out], by first | exact HBI.out | exact HBI.out.drew | exact below_drewN HBI.out _⟩
                  case measure => simp [intOf]; omega
            · have hIt := HNI.out (fun e => e1 (by simpa using congrArg Prod.fst e))
              have heq : ((f1 : Int) == (k1 : Int)) = false := beq_false_of_ne (by omega)
              have HST := Lib.hid (show (if I < t then (I : Int) else -1) = if I < t + 1 then (I : Int) else -1 from by
                by_cases hc : I < t
                · rw [if_pos hc, if_pos (by omega)]
                · rw [if_neg hc, if_neg (by omega)])
              obtain ⟨av, hav⟩ : ∃ av : Int, av = if I < t then (I : Int) else -1 := ⟨_, rfl⟩
              rw [← hav] at HST ⊢
              clear hav hIt e1
              go_wp2_with fail
              go_quiet (fail)
              all_goals
                go_wp2
                go_roundw
                case rel => exact ⟨t + 1, by omega, by go_num, by rw [← HST.out], by first | exact HBI.out | exact HBI.out.drew | exact below_drewN HBI.out _⟩
                case measure => simp [intOf]; omega
          · obtain rfl : t = lp := by omega
            have HB5 := Lib.hid (HBR.out.trans (HBI.out.mono hszr))
            have HGR5 := Lib.hid (HGR.out.now HBI.out)
            have hz5 := HB5.out.size
            by_cases hI : samI f j < t
            · rw [if_pos hI]
              obtain ⟨I, hIe⟩ : ∃ I, I = samI f j := ⟨_, rfl⟩
              rw [← hIe] at hI ⊢
              obtain ⟨e1, e2⟩ := samS_old (f := f) (j := j) (by rw [← hIe, ← HLP.out]; exact hI)
              rw [← hIe] at e2
              have HE1 := Lib.hid e1
              have HE2 := Lib.hid e2
              obtain ⟨xs, hxs, hx1, hx2⟩ := HGR5.out
              rw [HKL.out] at hxs
              obtain ⟨gv, cv, hv, hgv, _, _⟩ := owns_headN2 hxs (by omega)
              obtain ⟨rfl, rfl⟩ : G = some ⟨gv, 0, none⟩ ∧ cg = cv := by simpa using hv
              obtain ⟨x, hxt, hxo, hxn⟩ := hx1 I (by rw [HKL.out]; exact hI)
              obtain ⟨Bx, cx, rfl⟩ := owns_slice' hxo
              obtain ⟨ll, hll⟩ : ∃ z, z = ((samK f j).getD I []).length := ⟨_, rfl⟩
              have hl9 : ll ≤ 9 := by obtain ⟨_, _, _, _, q4⟩ := HV4.out I (by rw [← HLP.out]; exact hI); omega
              have HLL := Lib.hid hll
              rw [← hll] at hxt hxo hxn
              have hxnv : (Value.slice (some ⟨gv, 0, none⟩) t cg).ownBlock = none ∨ (Value.slice (some ⟨gv, 0, none⟩) t cg).ownBlock ≠ (Value.slice Bx ll cx).ownBlock := owns_apartP hxs hxo (by decide)
              have hxcl : wr.cell? ⟨gv, I, none⟩ = some (.slice Bx ll cx) := (hxs.cellAt I (by have := hxs.1; simp at this; omega)).trans hxt
              have HKC := Lib.hid (fun w6 (h : (wr.alloc (.cells #[.int .i64 (j : Nat)] 3)).grownBy w6 (Value.slice Bx ll cx).ownBlock) => (((hxs.alloc _).kept h hxnv).cellAt I (by have := hxs.1; simp at this; omega)).trans hxt)
              have HKF := Lib.hid (fun w6 (h : (wr.alloc (.cells #[.int .i64 (j : Nat)] 3)).grownBy w6 (Value.slice Bx ll cx).ownBlock) => ((hxs.alloc _).kept h hxnv).frozenAt I)
              have HXO := Lib.hid hxo
              have hti : ¬ (I : Int) < 0 := by omega
              clear hxs hx1 hx2 hxt hxo hxn hxnv hv hll hIe e1 e2
              go_wp2_with (first
                | (at_builtin; refine wpList_append_lies _ rfl _ _ _ rfl w4.heap.size 3 m0 _ 1 8 Try.underlying22 hm0 hmz0 hmz1 hmz2 rfl (by decide) (.slice Bx ll cx) ll (((samK f j).getD I []).map (Value.int .i64)) rfl (HXO.out.alloc _) ⟨wr.heap.size, 0, none⟩ 1 1 [.int .i64 (j : Nat)] rfl rfl (World.news_of_block (cs := #[.int .i64 (j : Nat)]) (t := 3) (fr := (0, 0)) (heap_alloc_new wr _)) (by simp [Value.oneCell']) (by omega) (by unfold maxLen; omega) (by omega) (by simp; omega) (wr.heap.size + 1) (by simp) ?_; intro g6 cap6 w6 hown6 hgrow6 hat6 hlt6; have kc6 := HKC.out w6 hgrow6; have kf6 := HKF.out w6 hgrow6)
                | fail)
              have HQ := Lib.hid (GR.at (k := (j : Nat)) (t := I) (by rw [HKL.out]; exact hI) HGR5.out rfl HKL.out.symm HLL.out (below1 wr (.cells #[.int .i64 (j : Nat)] 3)) hxcl hown6 hgrow6 (by rcases hat6 with h | h; exact Or.inl h; exact Or.inr (by rw [h]; simp)))
              have b6 : Below w4.heap.size w4 w6 := (HB5.out.alloc hz5 (.cells #[.int .i64 (j : Nat)] 3)).grown hgrow6 (by simp; omega) fun i hi => owns_le HXO.out hi
              go_roundw
              case rel => exact ⟨j + 1, t, some ⟨gv, 0, none⟩, cg, by omega, by go_num, by rw [HE1.out]; exact HLP.out, rfl, by rw [HE2.out]; exact HQ.out, b6.setCell hgv _⟩
              case measure => simp [intOf]; omega
            · rw [if_neg hI]
              obtain ⟨e1, e2⟩ := samS_new (f := f) (j := j) (by rw [← HLP.out]; exact hI)
              have HE1 := Lib.hid e1
              have HE2 := Lib.hid e2
              obtain ⟨xs, hxs, hx1, hx2⟩ := HGR5.out
              rw [HKL.out] at hxs
              have HXS := Lib.hid hxs
              have HLIT := Lib.hid ((World.ownsRow_lit (base := w4.heap.size) (e := 3) (size := 1) wr #[.int .i64 (j : Nat)] 1 hz5 (by unfold maxLen; omega) rfl).alloc (.cells #[(.slice (some ⟨wr.heap.size, 0, none⟩) 1 1)] 22))
              clear hxs hx1 hx2 e1 e2 hI
              go_wp2_with (first
                | (at_builtin; refine wpList_append_lies _ rfl _ _ _ rfl w4.heap.size 22 i0 _ 1 24 Try.underlying48 hi0 hz0 hz1 hz2 rfl (by decide) (.slice G t cg) t xs rfl ((HXS.out.alloc _).alloc _) ⟨wr.heap.size + 1, 0, none⟩ 1 1 [(.slice (some ⟨wr.heap.size, 0, none⟩) 1 1)] rfl rfl (newsTwoP wr _ _ _ _) (by simp [Value.oneCell']) (by omega) (by unfold maxLen; omega) (by omega) (by simp; omega) (wr.heap.size + 2) (by simp) ?_; intro g7 cap7 w7 hown7 hgrow7 hat7 hlt7)
                | fail)
              have HP := Lib.hid (GR.push (l := [(j : Int)]) HGR5.out HKL.out.symm ((below1 wr (.cells #[.int .i64 (j : Nat)] 3)).alloc (by simp) (.cells #[(.slice (some ⟨wr.heap.size, 0, none⟩) 1 1)] 22)) HLIT.out (Or.inr fun g hg => by simp [Value.ownBlock] at hg; subst hg; simp; omega) xs HXS.out hown7 hgrow7 (by rcases hat7 with h | h; exact Or.inl h; exact Or.inr (by rw [h]; simp)))
              have b7 : Below w4.heap.size w4 w7 := ((HB5.out.alloc hz5 (.cells #[.int .i64 (j : Nat)] 3)).alloc (by simp; omega) (.cells #[(.slice (some ⟨wr.heap.size, 0, none⟩) 1 1)] 22)).grown hgrow7 (by simp; omega) fun i hi => owns_le HXS.out hi
              go_roundw
              case rel => exact ⟨j + 1, t + 1, some ⟨g7, 0, none⟩, cap7, by omega, by go_num, by rw [HE1.out, List.length_append, ← HLP.out]; rfl, rfl, by rw [HE2.out]; exact HP.out, b7⟩
              case measure => simp [intOf]; omega
      · obtain rfl : j = n := by omega
        have HB9 := Lib.hid (HG4.out.trans (HBR.out.mono HG4.out.size))
        have hzz := HG4.out.size
        go_wp2
        have h := HGR.out.rss ⟨G, cg, by rw [HKL.out]⟩
        exact HY.out _ _ ⟨_, rfl, (RSS.wide h hzz (Nat.le_refl _)).weak.lies (Nat.le_refl _), HB9.out⟩
end Go.Proofs.Ytibmaofcnibjnaa
