/- SamePower: the program's side. -/
import Derived.Test.YtibmaofcnibjnaaNb
import Derived.Outline
namespace Go.Proofs.Ytibmaofcnibjnaa
open Go.RowKit Vo

def samL (q : Int) (ws : List Int) (n : Nat) : List (List Int) := if goodB q ws n then samK (powF q ws n) n else []
theorem samL_yes {q : Int} {ws : List Int} {n : Nat} (h : goodB q ws n = true) : samL q ws n = samK (powF q ws n) n := by unfold samL; rw [h]; rfl
theorem samL_no {q : Int} {ws : List Int} {n : Nat} (h : goodB q ws n = false) : samL q ws n = [] := by unfold samL; rw [h]; rfl
theorem owns_blockP {w : World} {base : Nat} {e : TypeId} {size : Nat} {v : Value} {n : Nat} {xs : List Value} (h : w.ownsRow base e size v n xs) {k : Nat} (hk : v.ownBlock = some k) : ∃ c, w.heap[k]? = some (.cells c e (0, 0)) := by
  rcases h.2 with ⟨hv, _⟩ | ⟨g, cap, cur, hv, _, hh, _⟩
  · rw [hv] at hk; simp [Value.ownBlock] at hk
  · rw [hv] at hk
    have : g = k := by simpa [Value.ownBlock] using hk
    exact ⟨cur, this ▸ hh⟩
theorem owns_apartP {w : World} {base base' : Nat} {e e' : TypeId} {size size' : Nat} {v v' : Value} {n n' : Nat} {xs xs' : List Value} (h : w.ownsRow base e size v n xs) (h' : w.ownsRow base' e' size' v' n' xs') (he : e ≠ e') : v.ownBlock = none ∨ v.ownBlock ≠ v'.ownBlock := by
  cases hk : v.ownBlock with
  | none => exact Or.inl rfl
  | some k =>
    refine Or.inr fun e0 => ?_
    obtain ⟨c1, h1⟩ := owns_blockP h hk
    obtain ⟨c2, h2⟩ := owns_blockP h' e0.symm
    rw [h1] at h2
    injection h2 with h2
    injection h2 with _ h2
    exact he h2

theorem GR.past {base base' : Nat} {K : List (List Int)} {v : Value} {w w' : World} (h : GR base K v w) {e : TypeId} {size : Nat} {vc : Value} {n : Nat} {xs : List Value} (hc : w.ownsRow base' e size vc n xs) (h1 : 22 ≠ e) (h2 : 3 ≠ e) (hg : w.grownBy w' vc.ownBlock) : GR base K v w' := by
  obtain ⟨ys, ho, a, b⟩ := h
  refine ⟨ys, ho.kept hg (owns_apartP ho hc h1), fun i hi => ?_, b⟩
  obtain ⟨x, hx, hr, hn⟩ := a i hi
  exact ⟨x, hx, hr.kept hg (owns_apartP hr hc h2), hn⟩
set_option maxRecDepth 20000 in
set_option maxHeartbeats 8000000 in
theorem iSamePower_any (q : Int) (A : Option Addr) (n cap : Nat) (ws : List Int) (w : World) (hm : n ≤ 9223372036854775807) (hk : Known w A n ws) :
    Calls Try.prog 34 #[.agg #[.int .i64 q, .slice A n cap]] w fun e w' => Ans (RSS (samL q ws n)) (goodB q ws n) w w' e := by
  obtain ⟨P, hP⟩ : ∃ P : World → Ending → Prop, P = fun w' e => Ans (RSS (samL q ws n)) (goodB q ws n) w w' e := ⟨_, rfl⟩
  suffices h : Calls Try.prog 34 #[.agg #[.int .i64 q, .slice A n cap]] w fun e w' => P w' e by rw [hP] at h; exact h
  have HNO := Lib.hid (show goodB q ws n = false → ∀ w' e, Ans (RSS []) false w w' e → P w' e from fun h w' e k => by rw [hP, h, samL_no h]; exact k)
  have HYES := Lib.hid (show goodB q ws n = true → ∀ w' e, Ans (RSS (samK (powF q ws n) n)) true w w' e → P w' e from fun h w' e k => by rw [hP, h, samL_yes h]; exact k)
  clear hP
  have hx := Box.new w (.int .i64 q) (.slice A n cap)
  have hb0 := below1 w (.cells #[.int .i64 q, .slice A n cap] 24)
  obtain ⟨c0, c1⟩ := hx.cells
  have HI := Lib.hid (isCommittee_any q A n cap ws _ hm (hk.now hb0))
  have HK := Lib.hid hk
  clear hk
  cases hg : goodB q ws n with
  | false =>
    rw [hg] at HI
    have HN := Lib.hid (HNO.out hg)
    clear hg
    go_enter Try.func34, Try.ntmps34
    go_wp2_with fail
    refine HI.out.mono ?_
    rintro e w1 ⟨rfl, hb1⟩
    go_wp2
    exact HN.out _ _ (Ans.noneSS (bfrom hb0 hb1))
  | true =>
    have hG : Vo.Good q ws n := by
      by_cases h : Vo.Good q ws n
      · exact h
      · rw [goodB_false h] at hg; cases hg
    rw [hg] at HI
    have HY := Lib.hid (HYES.out hg)
    obtain ⟨b, off, rfl, hsl⟩ := HK.out.get hG.lo
    have HSL := Lib.hid hsl
    have HOK := Lib.hid hG.ok
    have hn9 := hG.hi
    have HP1 := Lib.hid (fun W k (hk : k < n) (hW : Below w.heap.size w W) => powerOf_any q b off n cap ws k W (by omega) hk HOK.out (HSL.out.now hW))
    obtain ⟨i0, hi0, hz0, hz1, hz2⟩ := info_parts infoInts
    obtain ⟨m0, hm0, hmz0, hmz1, hmz2⟩ := info_parts infoInt
    obtain ⟨p0, hp0, hpz0, hpz1, hpz2⟩ := info_parts infoPow
    obtain ⟨f, hf⟩ : ∃ f, f = powF q ws n := ⟨_, rfl⟩
    rw [← hf] at HP1 HY
    clear hg hG hsl HNO HYES hf HK HSL HOK
    go_enter Try.func34, Try.ntmps34
    go_wp2_with fail
    refine HI.out.mono ?_
    rintro e w1 ⟨rfl, hb1⟩
    have g1 := bfrom hb0 hb1
    have hx1 := hx.now hb1
    clear c0 c1 hx
    obtain ⟨c0, c1⟩ := hx1.cells
    have hzg := g1.size
    have HG1 := Lib.hid g1
    have HX1 := Lib.hid hx1
    go_wp2_with (go_at_call 66; refine (members_any _ _ n cap _).mono ?_; rintro e w2 ⟨rfl, hb2⟩)
    have hx2 := hx1.now hb2
    have HX2 := Lib.hid hx2
    have HG2 := Lib.hid (bfrom g1 hb2)
    have hxl := hx2.lt
    clear c0 c1 hx1 hx2 HX1 hb1 hb0 g1 HG1
    go_loopw [4, 5, 6, 7, 8, 14] (fun pv gv _ _ _ i wr => ∃ (j lp : Nat) (B G : Option Addr) (cb cg : Nat), j ≤ n ∧ i = .int .i64 j ∧ lp = (samP f j).length ∧ pv = .slice B lp cb ∧ gv = .slice G lp cg ∧ wr.ownsRow w2.heap.size 83 2 (.slice B lp cb) lp (powV (samP f j)) ∧ GR w2.heap.size (samK f j) (.slice G lp cg) wr ∧ Below w2.heap.size w2 wr) (fun _ _ _ _ _ i _ => n - (intOf i).toNat)
    case atStart => exact ⟨0, 0, none, none, 0, 0, Nat.zero_le _, rfl, rfl, rfl, rfl, World.ownsRow_nil _ _ _ _, GR.nil _ _, Below.refl _ _⟩
    case round =>
      obtain ⟨j, lp, B, G, cb, cg, hj, rfl, hlp, rfl, rfl, hpo, hgr, hbr⟩ := hrel
      obtain ⟨v1, v2, v3, v4⟩ := sam_inv f j
      have HV4 := Lib.hid v4
      have HLP := Lib.hid hlp
      have HKL := Lib.hid (show (samK f j).length = lp from by rw [hlp]; exact v1)
      have hlp9 : lp ≤ j := by omega
      have HPO := Lib.hid hpo
      have HGR := Lib.hid hgr
      have HBR := Lib.hid hbr
      have hszr := hbr.size
      clear v1 v2 v3 v4 hpo hgr hbr hlp
      by_cases hlt : j < n
      · obtain ⟨c0, c1⟩ := (HX2.out.now HBR.out).cells
        have HPW := Lib.hid (HP1.out wr j hlt (HG2.out.trans (HBR.out.mono HG2.out.size)))
        obtain ⟨⟨p1, p2⟩, hp⟩ : ∃ p, p = f j := ⟨_, rfl⟩
        have HPE := Lib.hid hp
        rw [← hp] at HPW
        clear hp
        simp only at HPW
        go_wp2_with fail
        refine HPW.out.mono ?_
        rintro e w3 ⟨rfl, hb3⟩
        have b3 := below1 w3 (.cells #[.int .i64 (p1 : Nat), .int .i64 (p2 : Nat)] 83)
        have hxp := BoxT.new 83 w3 (.int .i64 (p1 : Nat)) (.int .i64 (p2 : Nat))
        have HPO4 := Lib.hid (owns_now (owns_now HPO.out hb3) b3)
        have HGR4 := Lib.hid ((HGR.out.now hb3).now b3)
        have HB4 := Lib.hid (HBR.out.trans ((bfrom hb3 b3).mono hszr))
        obtain ⟨d0, d1⟩ := hxp.cells
        have HXP := Lib.hid hxp
        have HIX := Lib.hid (indexP_any w2.heap.size lp cb B (samP f j) (p1, p2) (w3.alloc (.cells #[.int .i64 (p1 : Nat), .int .i64 (p2 : Nat)] 83)) HLP.out (by omega) HPO4.out)
        obtain ⟨w4, hw4⟩ : ∃ w4, w4 = w3.alloc (.cells #[.int .i64 (p1 : Nat), .int .i64 (p2 : Nat)] 83) := ⟨_, rfl⟩
        rw [← hw4] at HPO4 HGR4 HB4 d0 d1 HXP HIX
        clear hxp b3 c0 c1
        go_wp2_with fail
        rw [← hw4]
        clear hw4 hb3
        refine HIX.out.mono ?_
        rintro e w5 ⟨h, hb5⟩
        have HPO5 := Lib.hid (owns_now HPO4.out hb5)
        have HGR5 := Lib.hid (HGR4.out.now hb5)
        have HB5 := Lib.hid (HB4.out.trans (hb5.mono HB4.out.size))
        have hxp5 := HXP.out.now hb5
        have hz5 := HB5.out.size
        clear d0 d1
        obtain ⟨d0, d1⟩ := hxp5.cells
        clear hb5 HIX
        rcases h with ⟨t, ht, rfl, hte, _⟩ | ⟨rfl, hno⟩
        · -- an old group
          have hI : samI f j = t := samI_uniq (by rw [← HLP.out]; exact ht) (by rw [hte]; exact HPE.out)
          obtain ⟨e1, e2⟩ := samS_old (f := f) (j := j) (by rw [hI, ← HLP.out]; exact ht)
          rw [hI] at e2
          have HE1 := Lib.hid e1
          have HE2 := Lib.hid e2
          obtain ⟨xs, hxs, hx1, hx2⟩ := HGR5.out
          rw [HKL.out] at hxs
          obtain ⟨gv, cv, hv, hgv, _, _⟩ := owns_headN2 hxs (by omega)
          obtain ⟨rfl, rfl⟩ : G = some ⟨gv, 0, none⟩ ∧ cg = cv := by simpa using hv
          obtain ⟨x, hxt, hxo, hxn⟩ := hx1 t (by rw [HKL.out]; exact ht)
          obtain ⟨Bx, cx, rfl⟩ := owns_slice' hxo
          obtain ⟨ll, hll⟩ : ∃ z, z = ((samK f j).getD t []).length := ⟨_, rfl⟩
          have hl9 : ll ≤ 9 := by obtain ⟨_, _, _, _, q4⟩ := HV4.out t (by rw [← HLP.out]; exact ht); omega
          have HLL := Lib.hid hll
          rw [← hll] at hxt hxo hxn
          have hxnv : (Value.slice (some ⟨gv, 0, none⟩) lp cg).ownBlock = none ∨ (Value.slice (some ⟨gv, 0, none⟩) lp cg).ownBlock ≠ (Value.slice Bx ll cx).ownBlock := owns_apartP hxs hxo (by decide)
          have hxcl : w5.cell? ⟨gv, t, none⟩ = some (.slice Bx ll cx) := (hxs.cellAt t (by have := hxs.1; simp at this; omega)).trans hxt
          have HKC := Lib.hid (fun w6 (h : (w5.alloc (.cells #[.int .i64 (j : Nat)] 3)).grownBy w6 (Value.slice Bx ll cx).ownBlock) => (((hxs.alloc _).kept h hxnv).cellAt t (by have := hxs.1; simp at this; omega)).trans hxt)
          have HKF := Lib.hid (fun w6 (h : (w5.alloc (.cells #[.int .i64 (j : Nat)] 3)).grownBy w6 (Value.slice Bx ll cx).ownBlock) => ((hxs.alloc _).kept h hxnv).frozenAt t)
          have HXO := Lib.hid hxo
          have HPG := Lib.hid (owns_apartP HPO5.out hxs (by decide))
          have HPK := Lib.hid (fun w6 (h : (w5.alloc (.cells #[.int .i64 (j : Nat)] 3)).grownBy w6 (Value.slice Bx ll cx).ownBlock) => (HPO5.out.alloc (.cells #[.int .i64 (j : Nat)] 3)).kept h (owns_apartP HPO5.out hxo (by decide)))
          have hti : ¬ (t : Int) < 0 := by omega
          clear hxs hx1 hx2 hxt hxo hxn hxnv hv hll hI e1 e2 hte
          go_wp2_with (first
            | (at_builtin; refine wpList_append_lies _ rfl _ _ _ rfl w2.heap.size 3 m0 _ 1 8 Try.underlying22 hm0 hmz0 hmz1 hmz2 rfl (by decide) (.slice Bx ll cx) ll (((samK f j).getD t []).map (Value.int .i64)) rfl (HXO.out.alloc _) ⟨w5.heap.size, 0, none⟩ 1 1 [.int .i64 (j : Nat)] rfl rfl (World.news_of_block (cs := #[.int .i64 (j : Nat)]) (t := 3) (fr := (0, 0)) (heap_alloc_new w5 _)) (by simp [Value.oneCell']) (by omega) (by unfold maxLen; omega) (by omega) (by simp; omega) (w5.heap.size + 1) (by simp) ?_; intro g6 cap6 w6 hown6 hgrow6 hat6 hlt6; have kc6 := HKC.out w6 hgrow6; have kf6 := HKF.out w6 hgrow6)
            | fail)
          have HPO6 := Lib.hid (HPK.out w6 hgrow6)
          have HQ := Lib.hid (GR.at (k := (j : Nat)) (t := t) (by rw [HKL.out]; exact ht) HGR5.out rfl HKL.out.symm HLL.out (below1 w5 (.cells #[.int .i64 (j : Nat)] 3)) hxcl hown6 hgrow6 (by rcases hat6 with h | h; exact Or.inl h; exact Or.inr (by rw [h]; simp)))
          have b6 : Below w2.heap.size w2 w6 := (HB5.out.alloc hz5 (.cells #[.int .i64 (j : Nat)] 3)).grown hgrow6 (by simp; omega) fun i hi => owns_le HXO.out hi
          go_roundw
          case rel => exact ⟨j + 1, lp, B, some ⟨gv, 0, none⟩, cb, cg, by omega, by go_num, by rw [HE1.out]; exact HLP.out, rfl, rfl, by rw [HE1.out]; exact ownsRow_setCell_other HPO6.out (a := ⟨gv, t, none⟩) (by rcases HPG.out with e | e; (rw [e]; simp); exact e) _, by rw [HE2.out]; exact HQ.out, b6.setCell hgv _⟩
          case measure => simp [intOf]; omega
        · -- a new group
          have HI2 := Lib.hid (samI_none (f := f) (j := j) (fun i hi => by rw [← HPE.out]; exact hno i (by rw [HLP.out]; exact hi)))
          obtain ⟨e1, e2⟩ := samS_new HI2.out
          have HE1 := Lib.hid e1
          have HE2 := Lib.hid e2
          obtain ⟨xs, hxs, hx1, hx2⟩ := HGR5.out
          rw [HKL.out] at hxs
          have HXS := Lib.hid hxs
          have hxl : xs.length = lp := by have := hxs.1; simpa using this
          have hlpn : ¬ (lp : Int) < 0 := by omega
          have hlps : (lp : Int) < (lp : Int) + 1 := by omega
          clear hxs hx1 hx2 e1 e2 hno
          go_wp2_with (first
            | (at_builtin; refine wpList_append_lies _ rfl _ _ _ rfl w2.heap.size 83 p0 _ 2 16 Try.underlying81 hp0 hpz0 hpz1 hpz2 rfl (by decide) (.slice B lp cb) lp (powV (samP f j)) rfl (HPO5.out.alloc _) ⟨w5.heap.size, 0, none⟩ 1 1 [.int .i64 (p1 : Nat), .int .i64 (p2 : Nat)] rfl rfl (World.news_of_block (cs := #[.int .i64 (p1 : Nat), .int .i64 (p2 : Nat)]) (t := 83) (fr := (0, 0)) (heap_alloc_new w5 _)) (by simp [Value.oneCell']) (by omega) (by unfold maxLen; omega) (by omega) (by simp; omega) (w5.heap.size + 1) (by simp) ?_; intro g6 cap6 w6 hown6 hgrow6 hat6 hlt6; have HO6 := Lib.hid hown6; have b6 := (HB5.out.alloc hz5 (.cells #[.int .i64 (p1 : Nat), .int .i64 (p2 : Nat)] 83)).grown hgrow6 (by simp; omega) fun i hi => owns_le HPO5.out hi; have hz6 := b6.size; have HXS6 := Lib.hid ((HXS.out.alloc (.cells #[.int .i64 (p1 : Nat), .int .i64 (p2 : Nat)] 83)).kept hgrow6 (owns_apartP HXS.out HPO5.out (by decide))); have HGR6 := Lib.hid (GR.past (HGR5.out.now (below1 w5 (.cells #[.int .i64 (p1 : Nat), .int .i64 (p2 : Nat)] 83))) (HPO5.out.alloc (.cells #[.int .i64 (p1 : Nat), .int .i64 (p2 : Nat)] 83)) (by decide) (by decide) hgrow6); clear hown6 hgrow6 hat6)
            | (at_builtin; refine wpList_append_lies _ rfl _ _ _ rfl w2.heap.size 22 i0 _ 1 24 Try.underlying48 hi0 hz0 hz1 hz2 rfl (by decide) (.slice G lp cg) lp xs rfl (HXS6.out.alloc _) ⟨w6.heap.size, 0, none⟩ 1 1 [.slice none 0 0] rfl rfl (World.news_of_block (cs := #[.slice none 0 0]) (t := 22) (fr := (0, 0)) (heap_alloc_new w6 _)) (by simp [Value.oneCell']) (by omega) (by unfold maxLen; omega) (by omega) (by simp; omega) (w6.heap.size + 1) (by simp) ?_; intro g7 cap7 w7 hown7 hgrow7 hat7 hlt7; have kc7 := (hown7.cellAt lp (by omega)).trans (by rw [List.getElem?_append_right (by omega), hxl]; simp : _ = some (Value.slice none 0 0)); have b7 := (b6.alloc hz6 (.cells #[.slice none 0 0] 22)).grown hgrow7 (by simp; omega) fun i hi => owns_le HXS6.out hi; have hz7 := b7.size; have HKC := Lib.hid (fun w8 (h : (w7.alloc (.cells #[.int .i64 (j : Nat)] 3)).grownBy w8 none) => ((hown7.alloc _).kept h (Or.inr (by simp [Value.ownBlock]))).cellAt lp (by omega)); have HKF := Lib.hid (fun w8 (h : (w7.alloc (.cells #[.int .i64 (j : Nat)] 3)).grownBy w8 none) => ((hown7.alloc _).kept h (Or.inr (by simp [Value.ownBlock]))).frozenAt lp); have HO7 := Lib.hid ((HO6.out.alloc (.cells #[.slice none 0 0] 22)).kept hgrow7 (owns_apartP HO6.out HXS6.out (by decide))); have HPG := Lib.hid (owns_apartP HO7.out hown7 (by decide)))
            | (at_builtin; refine wpList_append_lies _ rfl _ _ _ rfl w2.heap.size 3 m0 _ 1 8 Try.underlying22 hm0 hmz0 hmz1 hmz2 rfl (by decide) (.slice none 0 0) 0 [] rfl ((World.ownsRow_nil w7 w2.heap.size 3 1).alloc _) ⟨w7.heap.size, 0, none⟩ 1 1 [.int .i64 (j : Nat)] rfl rfl (World.news_of_block (cs := #[.int .i64 (j : Nat)]) (t := 3) (fr := (0, 0)) (heap_alloc_new w7 _)) (by simp [Value.oneCell']) (by omega) (by unfold maxLen; omega) (by omega) (by simp; omega) (w7.heap.size + 1) (by simp) ?_; intro g8 cap8 w8 hown8 hgrow8 hat8 hlt8; have kc8 := HKC.out w8 hgrow8; have kf8 := HKF.out w8 hgrow8)
            | fail)
          have HP := Lib.hid (GR.push (l := []) HGR6.out HKL.out.symm (below1 w6 (.cells #[.slice none 0 0] 22)) (World.ownsRow_nil _ _ _ _) (Or.inl rfl) xs HXS6.out hown7 hgrow7 (by rcases hat7 with h | h; exact Or.inl h; exact Or.inr (by rw [h]; simp)))
          have hlen1 : (samK f j ++ [[]]).length = lp + 1 := by rw [List.length_append, HKL.out]; rfl
          have hget1 : (samK f j ++ [[]]).getD lp [] = [] := by rw [← HKL.out]; exact getD_app_last
          have HQ := Lib.hid (GR.at (k := (j : Nat)) (t := lp) (l := 0) (by rw [hlen1]; omega) HP.out rfl hlen1.symm (by rw [hget1]; rfl) (below1 w7 (.cells #[.int .i64 (j : Nat)] 3)) kc7 (by rw [hget1]; exact hown8) hgrow8 (by rcases hat8 with h | h; exact Or.inl h; exact Or.inr (by rw [h]; simp)))
          have hset : (samK f j ++ [[]]).set lp ((samK f j ++ [[]]).getD lp [] ++ [(j : Int)]) = samK f (j+1) := by
            rw [HE2.out, hget1, ← HKL.out]
            rw [List.set_append_right _ _ (Nat.le_refl _), Nat.sub_self]
            rfl
          rw [hset] at HQ
          have b8 : Below w2.heap.size w2 w8 := (b7.alloc hz7 (.cells #[.int .i64 (j : Nat)] 3)).grown hgrow8 (by simp; omega) fun i hi => by cases hi
          have hg7 : w2.heap.size ≤ g7 := (hown7.lt g7 rfl).1
          have HO8 := Lib.hid ((HO7.out.alloc (.cells #[.int .i64 (j : Nat)] 3)).kept hgrow8 (Or.inr (by simp [Value.ownBlock])))
          go_roundw
          case rel => exact ⟨j + 1, lp + 1, some ⟨g6, 0, none⟩, some ⟨g7, 0, none⟩, cap6, cap7, by omega, by go_num, by rw [HE1.out, List.length_append, ← HLP.out]; rfl, rfl, rfl, by rw [HE1.out, powV_snoc, ← HPE.out]; exact ownsRow_setCell_other HO8.out (a := ⟨g7, lp, none⟩) (by rcases HPG.out with e | e; (rw [e]; simp); exact e) _, HQ.out, b8.setCell hg7 _⟩
          case measure => simp [intOf]; omega
      · obtain rfl : j = n := by omega
        have HB9 := Lib.hid (HG2.out.trans (HBR.out.mono HG2.out.size))
        have hzz := HG2.out.size
        go_wp2
        have h := HGR.out.rss ⟨G, cg, by rw [HKL.out]⟩
        exact HY.out _ _ ⟨_, rfl, (RSS.wide h hzz (Nat.le_refl _)).lies (Nat.le_refl _), HB9.out⟩
end Go.Proofs.Ytibmaofcnibjnaa
