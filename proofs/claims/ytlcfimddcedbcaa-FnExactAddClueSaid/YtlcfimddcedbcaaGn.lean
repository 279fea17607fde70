/- A clue more: the model's side. -/
import Derived.Test.YtlcfimddcedbcaaGm
import Derived.Maps.AppendAt
import Derived.Deep.AppendLies
import Derived.Deep.RegionHeld3
import Derived.Outline
namespace Go.Proofs.Ytlcfimddcedbcaa
open Go.RowKit Vo

theorem owns_sliceN {w : World} {base : Nat} {e : TypeId} {size : Nat} {v : Value} {n : Nat} {xs : List Value} (h : w.ownsRow base e size v n xs) : ∃ B cp, v = .slice B n cp := by
  rcases h.2 with ⟨h, hz⟩ | ⟨q, cp', cur, hv, _⟩
  · exact ⟨none, 0, by rw [h, hz]⟩
  · exact ⟨_, _, hv⟩
section
variable {P : Program} (w : World)
theorem wp_append_atN {o : Oper} {a : Act} {K : Act → World → Prop} {Q : Exit → Act → World → Prop} (s x : Operand) (t : TypeId)
    (ho : o.op = .call { callee := .builtin .append, args := #[s, x], argTypes := #[t, t] })
    (base : Nat) (e : TypeId) (i : TypeInfo) (z : Value) (size bytes : Nat) (ht : P.underlying t = some (.slice e)) (hi : P.info? e = some i) (hz : i.zero = some z)
    (hsize : i.size = size) (hby : i.bytes = bytes) (hzs : z.cells.size = size) (hsz : 0 < size)
    (v : Value) (n : Nat) (xs : List Value) (hs : a.eval s = v) (hown : w.ownsRow base e size v n xs)
    (ad : Addr) (m c : Nat) (news : List Value) (hx : a.eval x = .slice (some ad) m c) (hl : news.length = m * size) (hnews : ∀ j u, news[j]? = some u → w.cell? (ad.add j) = some u) (h1 : ∀ u ∈ news, u.oneCell' = true)
    (h63 : n + m ≤ maxLen) (hbytes : (n + m) * bytes ≤ 140737488355328) (hbase : base ≤ w.heap.size)
    (h : ∀ B cp w', w'.ownsRow base e size (.slice B (n + m) cp) (n + m) (xs ++ news) → w.grownBy w' v.ownBlock → ((Value.slice B (n + m) cp).ownBlock = v.ownBlock ∨ (Value.slice B (n + m) cp).ownBlock = some w.heap.size) → K (a.put o.dst (.slice B (n + m) cp)) w') : o.wp P a w K Q := by
  obtain ⟨v', w', hr, h2, h3, _, h5⟩ := run_append_own_at (P := P) w base t o.type e i z size bytes ht hi hz hsize hby hzs hsz v n xs hown ad m c news hl hnews h1 h63 hbytes hbase
  unfold Oper.wp execOp
  simp only [ho, resolve, invoke, builtin, Sem.run_bind, Sem.run_pure, Result.andThen_ok, List.map_toArray, List.map_cons, List.map_nil, hs, hx, hr]
  obtain ⟨B, cp, rfl⟩ := owns_sliceN h2
  exact h B cp w' h2 h3 h5
theorem step_append_atN {ops : Array Oper} {o : Oper} {a : Act} {K : Act → World → Prop} {Q : Exit → Act → World → Prop} {E : Prop} (hgd : o.guard = none) (s x : Operand) (t : TypeId)
    (ho : o.op = .call { callee := .builtin .append, args := #[s, x], argTypes := #[t, t] })
    (base : Nat) (e : TypeId) (i : TypeInfo) (z : Value) (size bytes : Nat) (ht : P.underlying t = some (.slice e)) (hi : P.info? e = some i) (hz : i.zero = some z)
    (hsize : i.size = size) (hby : i.bytes = bytes) (hzs : z.cells.size = size) (hsz : 0 < size)
    (v : Value) (n : Nat) (xs : List Value) (hs : a.eval s = v) (hown : w.ownsRow base e size v n xs)
    (ad : Addr) (m c : Nat) (news : List Value) (hx : a.eval x = .slice (some ad) m c) (hl : news.length = m * size) (hnews : ∀ j u, news[j]? = some u → w.cell? (ad.add j) = some u) (h1 : ∀ u ∈ news, u.oneCell' = true)
    (h63 : n + m ≤ maxLen) (hbytes : (n + m) * bytes ≤ 140737488355328) (hbase : base ≤ w.heap.size)
    (h : ∀ B cp w', w'.ownsRow base e size (.slice B (n + m) cp) (n + m) (xs ++ news) → w.grownBy w' v.ownBlock → ((Value.slice B (n + m) cp).ownBlock = v.ownBlock ∨ (Value.slice B (n + m) cp).ownBlock = some w.heap.size) → K (a.put o.dst (.slice B (n + m) cp)) w') :
    if Region.wanted o (yielded ops a.tmps) = true then Oper.wp P o a w K Q else E := by
  have hw : Region.wanted o (yielded ops a.tmps) = true := by simp [Region.wanted, hgd]
  rw [if_pos hw]
  exact wp_append_atN w s x t ho base e i z size bytes ht hi hz hsize hby hzs hsz v n xs hs hown ad m c news hx hl hnews h1 h63 hbytes hbase h
theorem step_append_newN {ops : Array Oper} {o : Oper} {a : Act} {K : Act → World → Prop} {Q : Exit → Act → World → Prop} {E : Prop} (hgd : o.guard = none) (s x : Operand) (t : TypeId)
    (ho : o.op = .call { callee := .builtin .append, args := #[s, x], argTypes := #[t, t] })
    (base : Nat) (e : TypeId) (i : TypeInfo) (z : Value) (size bytes : Nat) (ht : P.underlying t = some (.slice e)) (hi : P.info? e = some i) (hz : i.zero = some z)
    (hsize : i.size = size) (hby : i.bytes = bytes) (hzs : z.cells.size = size) (hsz : 0 < size)
    (v : Value) (hs : a.eval s = v) (hown : w.ownsRow base e size v 0 [])
    (ad : Addr) (m c : Nat) (news : List Value) (hx : a.eval x = .slice (some ad) m c) (hl : news.length = m * size) (hnews : ∀ j u, news[j]? = some u → w.cell? (ad.add j) = some u) (h1 : ∀ u ∈ news, u.oneCell' = true)
    (h63 : m ≤ maxLen) (hbytes : m * bytes ≤ 140737488355328) (hbase : base ≤ w.heap.size)
    (h : ∀ B cp w', w'.ownsRow base e size (.slice B m cp) m news → w.grownBy w' v.ownBlock → ((Value.slice B m cp).ownBlock = v.ownBlock ∨ (Value.slice B m cp).ownBlock = some w.heap.size) → K (a.put o.dst (.slice B m cp)) w') :
    if Region.wanted o (yielded ops a.tmps) = true then Oper.wp P o a w K Q else E :=
  step_append_atN w hgd s x t ho base e i z size bytes ht hi hz hsize hby hzs hsz v 0 [] hs hown ad m c news hx hl hnews h1 (by omega) (by rw [Nat.zero_add]; exact hbytes) hbase
    (by simp only [Nat.zero_add, List.nil_append]; exact h)
end
theorem anyU_snoc (p : Clu → Bool) (C : List Clu) (c : Clu) : anyU p (C ++ [c]) (C ++ [c]).length = (anyU p C C.length || p c) := by
  have h : ∀ k, k ≤ C.length → anyU p (C ++ [c]) k = anyU p C k := by
    intro k hk
    induction k with
    | zero => rfl
    | succ k ih => simp only [anyU]; rw [ih (by omega), cAt_left (by omega)]
  rw [List.length_append, List.length_cons, List.length_nil]
  simp only [anyU]
  rw [h _ (Nat.le_refl _), cAt_last]
theorem puzB_snoc {n : Nat} {C : List Clu} (c : Clu) (h : puzB (n : Int) C = true) : puzB (n : Int) (C ++ [c]) = (clueB n c && !decide (C.length = 8)) := by
  have h1 := puzB_le h
  have h2 : inB (n : Int) 1 4 = true := by
    cases hb : inB (n : Int) 1 4 with
    | true => rfl
    | false => rw [puzB_size hb] at h; cases h
  by_cases h8 : C.length = 8
  · rw [puzB_long (by simp; omega), decide_eq_true h8]; simp
  · rw [puzB_at h2 h1] at h
    rw [puzB_at h2 (by simp; omega), anyU_snoc, decide_eq_false h8]
    simp at h
    simp [h]

theorem owns_headN {w : World} {base : Nat} {e : TypeId} {size : Nat} {v : Value} {n : Nat} {xs : List Value} (h : w.ownsRow base e size v n xs) (hn : 0 < n) : ∃ g cap, v = .slice (some ⟨g, 0, none⟩) n cap ∧ base ≤ g ∧ n ≤ cap ∧ cap ≤ maxLen := by
  obtain ⟨h1, h2⟩ := h
  rcases h2 with ⟨_, h2⟩ | ⟨g', cap, cur, hv, hg', hh, h3, h4, r⟩
  · omega
  · exact ⟨g', cap, hv, hg', h3, h4⟩
theorem isSome_setN {w : World} {p a : Addr} {u : Value} (h : (w.cell? a).isSome = true) : ((w.setCell p u).cell? a).isSome = true := by
  by_cases e : p = a
  · subst e; rw [World.cell?_setCell_same' w p u h]; rfl
  · rw [World.cell?_setCell_other w p a u e]; exact h
theorem own_empty {W : World} {base B : Nat} (hb : base ≤ B) (h : W.heap[B]? = some (.cells #[] 45)) : W.ownsRow base 45 3 (.slice (some ⟨B, 0, none⟩) 0 0) 0 [] :=
  ⟨rfl, Or.inr ⟨B, 0, #[], rfl, hb, h, Nat.le_refl _, by unfold maxLen; omega, rfl, rfl⟩⟩
theorem clu_news {W : World} {n b0 : Nat} {C : List Clu} (h : KCl W (some ⟨b0, 0, none⟩) n C) : ∀ (j : Nat) (u : Value), (cluesV C)[j]? = some u → W.cell? ((⟨b0, 0, none⟩ : Addr).add j) = some u := by
  intro j u hj
  have hj3 : j < 3 * C.length := by
    have := (List.getElem?_eq_some_iff.1 hj).1
    rwa [cluesV_len] at this
  rw [cluesV_get C hj3] at hj
  injection hj with hj
  rw [← hj]
  have hl := h.1
  obtain ⟨b, off, hA, hcl⟩ := h.get (by omega)
  injection hA with hA
  injection hA with h1 h2
  subst h1 h2
  have := hcl.cell j (by omega)
  rw [show (⟨b0, 0, none⟩ : Addr).add j = ⟨b0, 0 + j, none⟩ from by unfold Addr.add; split <;> simp_all]
  exact this

set_option maxRecDepth 20000 in
set_option maxHeartbeats 8000000 in
theorem sAddClue_any (m : Int) (b0 : Nat) (n cap : Nat) (C : List Clu) (x y z : Int) (w : World) (hl : n ≤ 1048576) (hk : KCl w (some ⟨b0, 0, none⟩) n C) :
    Calls Try.prog 43 #[.agg #[.int .i64 m, .slice (some ⟨b0, 0, none⟩) n cap], .agg #[.int .i64 x, .int .i64 y, .int .i64 z]] w fun e w' => AnsP (if addB m C (x, y, z) then m else 0) (if addB m C (x, y, z) then C ++ [(x, y, z)] else []) (addB m C (x, y, z)) w w' e := by
  obtain ⟨P, hP⟩ : ∃ P : World → Ending → Prop, P = fun w' e => AnsP (if addB m C (x, y, z) then m else 0) (if addB m C (x, y, z) then C ++ [(x, y, z)] else []) (addB m C (x, y, z)) w w' e := ⟨_, rfl⟩
  suffices h : Calls Try.prog 43 #[.agg #[.int .i64 m, .slice (some ⟨b0, 0, none⟩) n cap], .agg #[.int .i64 x, .int .i64 y, .int .i64 z]] w fun e w' => P w' e by rw [hP] at h; exact h
  have HNO := Lib.hid (show addB m C (x, y, z) = false → ∀ w' e, AnsP 0 [] false w w' e → P w' e from fun h w' e k => by rw [hP, h]; exact k)
  have HYES := Lib.hid (show addB m C (x, y, z) = true → ∀ w' e, AnsP m (C ++ [(x, y, z)]) true w w' e → P w' e from fun h w' e k => by rw [hP, h]; exact k)
  clear hP
  have hlen := hk.1
  have hb0 : Below w.heap.size w (((w.alloc (.cells #[.int .i64 m, .slice (some ⟨b0, 0, none⟩) n cap] 55)).alloc (.cells #[.int .i64 x, .int .i64 y, .int .i64 z] 45)).alloc (.cells #[.int .i64 0, .slice none 0 0] 55)) := ((below1 w _).alloc (by simp) _).alloc (by simp; omega) _
  have hx := ((BoxT.new 55 w (.int .i64 m) (.slice (some ⟨b0, 0, none⟩) n cap)).alloc (.cells #[.int .i64 x, .int .i64 y, .int .i64 z] 45)).alloc (.cells #[.int .i64 0, .slice none 0 0] 55)
  have hy := (Bx3.new 45 (w.alloc (.cells #[.int .i64 m, .slice (some ⟨b0, 0, none⟩) n cap] 55)) (.int .i64 x) (.int .i64 y) (.int .i64 z)).alloc (.cells #[.int .i64 0, .slice none 0 0] 55)
  have hr := BoxT.new 55 ((w.alloc (.cells #[.int .i64 m, .slice (some ⟨b0, 0, none⟩) n cap] 55)).alloc (.cells #[.int .i64 x, .int .i64 y, .int .i64 z] 45)) (.int .i64 0) (.slice none 0 0)
  simp only [World.size_alloc] at hr hy
  obtain ⟨i0, hi0, hz0, hz1, hz2⟩ := info_parts infoClue
  have HK := Lib.hid (hk.now hb0)
  have HG := Lib.hid (pzGood_any m _ n cap C _ (by omega) HK.out)
  have HADD := Lib.hid (show addB m C (x, y, z) = (puzB m C && puzB m (C ++ [(x, y, z)])) from rfl)
  obtain ⟨c0, c1⟩ := hx.cells
  cases hp : puzB m C with
  | false =>
    rw [hp] at HG HADD
    clear hk hp
    go_enter Try.func43, Try.ntmps43
    go_wp2_with fail
    refine HG.out.mono ?_
    rintro e w1 ⟨rfl, hb1⟩
    have g1 := bfrom hb0 hb1
    have hr1 := hr.now hb1
    obtain ⟨r0, r1⟩ := hr1.cells
    obtain ⟨f0, f1⟩ := box_soft2 hr1
    clear c0 c1 hx hy hr hb1 hb0 hr1
    go_wp2
    refine bodyPost_ret (v := .tuple #[.agg #[.int .i64 0, .slice none 0 0], .bool false]) (by simp [results, Try.results43, go_sem, r0, r1]) rfl (HNO.out (by rw [HADD.out]; rfl) _ _ (ansP_no ((g1.setCell (by simp; omega) _).setCell (by simp; omega) _)))
  | true =>
    have hm : ∃ q : Nat, m = q ∧ 1 ≤ q ∧ q ≤ 4 := by
      cases hb : inB m 1 4 with
      | false => rw [puzB_size hb] at hp; cases hp
      | true => simp [inB] at hb; exact ⟨m.toNat, by omega, by omega, by omega⟩
    obtain ⟨q, rfl, hq1, hq4⟩ := hm
    have hn8 : n ≤ 8 := by have := puzB_le hp; omega
    have HS := Lib.hid (puzB_snoc (x, y, z) hp)
    rw [hp] at HG HADD
    rw [HS.out, hlen] at HADD
    have HC := Lib.hid (fun W => pzClue_any q x y z W hq1 hq4)
    generalize clueB q (x, y, z) = r at *
    clear hk hp HS
    cases r with
    | false =>
      go_enter Try.func43, Try.ntmps43
      go_wp2_with fail
      refine HG.out.mono ?_
      rintro e w1 ⟨rfl, hb1⟩
      have g1 := bfrom hb0 hb1
      have hr1 := hr.now hb1
      obtain ⟨y0, y1, y2⟩ := (hy.now hb1).cells
      obtain ⟨x0, x1⟩ := (hx.now hb1).cells
      go_wp2_with (go_at_call 68; refine (HC.out _).mono ?_; rintro e w2 ⟨rfl, hb2⟩; have g2 := bfrom g1 hb2; have hr2 := hr1.now hb2; obtain ⟨r0, r1⟩ := hr2.cells; obtain ⟨f0, f1⟩ := box_soft2 hr2)
      refine bodyPost_ret (v := .tuple #[.agg #[.int .i64 0, .slice none 0 0], .bool false]) (by simp [results, Try.results43, go_sem, r0, r1]) rfl (HNO.out (by rw [HADD.out]; rfl) _ _ (ansP_no ((g2.setCell (by simp; omega) _).setCell (by simp; omega) _)))
    | true =>
      by_cases h8 : n = 8
      · have HA := Lib.hid (show addB (q : Int) C (x, y, z) = false from by rw [HADD.out, decide_eq_true h8]; rfl)
        clear HADD HYES
        subst h8
        go_enter Try.func43, Try.ntmps43
        go_wp2_with fail
        refine HG.out.mono ?_
        rintro e w1 ⟨rfl, hb1⟩
        have g1 := bfrom hb0 hb1
        have hr1 := hr.now hb1
        obtain ⟨y0, y1, y2⟩ := (hy.now hb1).cells
        obtain ⟨x0, x1⟩ := (hx.now hb1).cells
        go_wp2_with (go_at_call 68; refine (HC.out _).mono ?_; rintro e w2 ⟨rfl, hb2⟩; have g2 := bfrom g1 hb2; have hr2 := hr1.now hb2; obtain ⟨r0, r1⟩ := hr2.cells; obtain ⟨f0, f1⟩ := box_soft2 hr2; obtain ⟨x20, x21⟩ := ((hx.now hb1).now hb2).cells)
        refine bodyPost_ret (v := .tuple #[.agg #[.int .i64 0, .slice none 0 0], .bool false]) (by simp [results, Try.results43, go_sem, r0, r1]) rfl (HNO.out HA.out _ _ (ansP_no ((g2.setCell (by simp; omega) _).setCell (by simp; omega) _)))
      · have HA := Lib.hid (show addB (q : Int) C (x, y, z) = true from by rw [HADD.out, decide_eq_false h8]; rfl)
        clear HADD HNO
        have hn7 : n ≤ 7 := by omega
        have hne : ¬ (n : Int) = 8 := by omega
        have HLEN := Lib.hid hlen
        clear h8 hlen
        go_enter Try.func43, Try.ntmps43
        go_wp2_with fail
        refine HG.out.mono ?_
        rintro e w1 ⟨rfl, hb1⟩
        obtain ⟨y0, y1, y2⟩ := (hy.now hb1).cells
        obtain ⟨x0, x1⟩ := (hx.now hb1).cells
        go_wp2_with fail
        refine (HC.out _).mono ?_
        rintro e w2 ⟨rfl, hb2⟩
        have b12 := bfrom hb1 hb2
        have g2 := bfrom hb0 b12
        have hx2 := hx.now b12
        have hy2 := hy.now b12
        have hr2 := hr.now b12
        have hzw := b12.size
        simp only [World.size_alloc] at hzw
        have HK2 := Lib.hid (HK.out.now b12)
        clear hx hy hr hb0 hb1 hb2 b12 c0 c1 x0 x1 y0 y1 y2 HK HG HC
        obtain ⟨x0, x1⟩ := hx2.cells
        have K := Lib.hid (show ∀ W, Below w2.heap.size w2 W → W.cell? ⟨w.heap.size, 0, none⟩ = some (.int .i64 (q : Nat)) ∧ W.cell? ⟨w.heap.size, 1, none⟩ = some (.slice (some ⟨b0, 0, none⟩) n cap) ∧ (W.cell? ⟨w.heap.size + 1, 0, none⟩ = some (.int .i64 x) ∧ W.cell? ⟨w.heap.size + 1, 1, none⟩ = some (.int .i64 y) ∧ W.cell? ⟨w.heap.size + 1, 2, none⟩ = some (.int .i64 z)) ∧ (W.cell? ⟨w.heap.size + 1 + 1, 0, none⟩ = some (.int .i64 0) ∧ W.cell? ⟨w.heap.size + 1 + 1, 1, none⟩ = some (.slice none 0 0)) ∧ W.frozen? ⟨w.heap.size + 1 + 1, 0, none⟩ = false ∧ W.frozen? ⟨w.heap.size + 1 + 1, 1, none⟩ = false from fun W h => ⟨(hx2.now h).cells.1, (hx2.now h).cells.2, (hy2.now h).cells, (hr2.now h).cells, (box_soft2 (hr2.now h))⟩)
        obtain ⟨c0, c1, ⟨c2, c3, c4⟩, ⟨c5, c6⟩, c7, c8⟩ := K.out _ (Below.refl _ _)
        go_wp2_with fail
        have KS := Lib.hid (show ∀ W, Below w2.heap.size w2 W → W.cell? ⟨w.heap.size, 0, none⟩ = some (.int .i64 (q : Nat)) ∧ W.cell? ⟨w.heap.size, 1, none⟩ = some (.slice (some ⟨b0, 0, none⟩) n cap) ∧ (W.cell? ⟨w.heap.size + 1, 0, none⟩ = some (.int .i64 x) ∧ W.cell? ⟨w.heap.size + 1, 1, none⟩ = some (.int .i64 y) ∧ W.cell? ⟨w.heap.size + 1, 2, none⟩ = some (.int .i64 z)) ∧ ((W.cell? ⟨w.heap.size + 1 + 1, 0, none⟩).isSome = true ∧ (W.cell? ⟨w.heap.size + 1 + 1, 1, none⟩).isSome = true) ∧ W.frozen? ⟨w.heap.size + 1 + 1, 0, none⟩ = false ∧ W.frozen? ⟨w.heap.size + 1 + 1, 1, none⟩ = false from fun W h => by
          obtain ⟨a0, a1, a2, ⟨a3, a4⟩, a5, a6⟩ := K.out W h
          exact ⟨a0, a1, a2, ⟨by rw [a3]; rfl, by rw [a4]; rfl⟩, a5, a6⟩)
        have B1 := Lib.hid (((Below.refl w2.heap.size w2).alloc (by first | exact Nat.le_refl _ | (show w2.heap.size ≤ (w2.alloc _).heap.size; simp)) (.cells #[] 45)))
        have B2 := Lib.hid (((((Below.refl w2.heap.size w2).drew)).alloc (by first | exact Nat.le_refl _ | (show w2.heap.size ≤ (w2.alloc _).heap.size; simp)) (.cells #[] 45)))
        have B3 := Lib.hid (((((Below.refl w2.heap.size w2).alloc (by first | exact Nat.le_refl _ | (show w2.heap.size ≤ (w2.alloc _).heap.size; simp)) (.cells #[] 45))).drew))
        have B4 := Lib.hid (((Below.refl w2.heap.size w2).alloc (by first | exact Nat.le_refl _ | (show w2.heap.size ≤ (w2.alloc _).heap.size; simp)) (.cells #[.int .i64 x, .int .i64 y, .int .i64 z] 45)))
        have B5 := Lib.hid (((((Below.refl w2.heap.size w2).drew)).alloc (by first | exact Nat.le_refl _ | (show w2.heap.size ≤ (w2.alloc _).heap.size; simp)) (.cells #[.int .i64 x, .int .i64 y, .int .i64 z] 45)))
        have B6 := Lib.hid (((((Below.refl w2.heap.size w2).alloc (by first | exact Nat.le_refl _ | (show w2.heap.size ≤ (w2.alloc _).heap.size; simp)) (.cells #[.int .i64 x, .int .i64 y, .int .i64 z] 45))).drew))
        have B7 := Lib.hid (((((Below.refl w2.heap.size w2).alloc (by first | exact Nat.le_refl _ | (show w2.heap.size ≤ (w2.alloc _).heap.size; simp)) (.cells #[] 45))).alloc (by first | exact Nat.le_refl _ | (show w2.heap.size ≤ (w2.alloc _).heap.size; simp)) (.cells #[.int .i64 x, .int .i64 y, .int .i64 z] 45)))
        have B8 := Lib.hid (((((((Below.refl w2.heap.size w2).drew)).alloc (by first | exact Nat.le_refl _ | (show w2.heap.size ≤ (w2.alloc _).heap.size; simp)) (.cells #[] 45))).alloc (by first | exact Nat.le_refl _ | (show w2.heap.size ≤ (w2.alloc _).heap.size; simp)) (.cells #[.int .i64 x, .int .i64 y, .int .i64 z] 45)))
        have B9 := Lib.hid (((((((Below.refl w2.heap.size w2).alloc (by first | exact Nat.le_refl _ | (show w2.heap.size ≤ (w2.alloc _).heap.size; simp)) (.cells #[] 45))).drew)).alloc (by first | exact Nat.le_refl _ | (show w2.heap.size ≤ (w2.alloc _).heap.size; simp)) (.cells #[.int .i64 x, .int .i64 y, .int .i64 z] 45)))
        have B10 := Lib.hid (((((((Below.refl w2.heap.size w2).alloc (by first | exact Nat.le_refl _ | (show w2.heap.size ≤ (w2.alloc _).heap.size; simp)) (.cells #[] 45))).alloc (by first | exact Nat.le_refl _ | (show w2.heap.size ≤ (w2.alloc _).heap.size; simp)) (.cells #[.int .i64 x, .int .i64 y, .int .i64 z] 45))).drew))
        have B11 := Lib.hid (((((Below.refl w2.heap.size w2).alloc (by first | exact Nat.le_refl _ | (show w2.heap.size ≤ (w2.alloc _).heap.size; simp)) (.cells #[.int .i64 x, .int .i64 y, .int .i64 z] 45))).alloc (by first | exact Nat.le_refl _ | (show w2.heap.size ≤ (w2.alloc _).heap.size; simp)) (.cells #[] 45)))
        have B12 := Lib.hid (((((((Below.refl w2.heap.size w2).drew)).alloc (by first | exact Nat.le_refl _ | (show w2.heap.size ≤ (w2.alloc _).heap.size; simp)) (.cells #[.int .i64 x, .int .i64 y, .int .i64 z] 45))).alloc (by first | exact Nat.le_refl _ | (show w2.heap.size ≤ (w2.alloc _).heap.size; simp)) (.cells #[] 45)))
        have B13 := Lib.hid (((((((Below.refl w2.heap.size w2).alloc (by first | exact Nat.le_refl _ | (show w2.heap.size ≤ (w2.alloc _).heap.size; simp)) (.cells #[.int .i64 x, .int .i64 y, .int .i64 z] 45))).drew)).alloc (by first | exact Nat.le_refl _ | (show w2.heap.size ≤ (w2.alloc _).heap.size; simp)) (.cells #[] 45)))
        have B14 := Lib.hid (((((((Below.refl w2.heap.size w2).alloc (by first | exact Nat.le_refl _ | (show w2.heap.size ≤ (w2.alloc _).heap.size; simp)) (.cells #[.int .i64 x, .int .i64 y, .int .i64 z] 45))).alloc (by first | exact Nat.le_refl _ | (show w2.heap.size ≤ (w2.alloc _).heap.size; simp)) (.cells #[] 45))).drew))
        have hAa : (w2.alloc (.cells #[] 45)).heap[w2.heap.size]? = some (.cells #[] 45) := heap_alloc_new w2 _
        have hAb : ((w2.alloc (.cells #[] 45)).alloc (.cells #[.int .i64 x, .int .i64 y, .int .i64 z] 45)).heap[w2.heap.size]? = some (.cells #[] 45) := (Below.heap_alloc (w2.alloc (.cells #[] 45)) (.cells #[.int .i64 x, .int .i64 y, .int .i64 z] 45) w2.heap.size (by simp)).trans (heap_alloc_new w2 _)
        have hCb : ((w2.alloc (.cells #[] 45)).alloc (.cells #[.int .i64 x, .int .i64 y, .int .i64 z] 45)).heap[w2.heap.size + 1]? = some (.cells #[.int .i64 x, .int .i64 y, .int .i64 z] 45) := by have h := heap_alloc_new (w2.alloc (.cells #[] 45)) (.cells #[.int .i64 x, .int .i64 y, .int .i64 z] 45); rw [World.size_alloc] at h; exact h
        have hAc : ((w2.alloc (.cells #[.int .i64 x, .int .i64 y, .int .i64 z] 45)).alloc (.cells #[] 45)).heap[w2.heap.size + 1]? = some (.cells #[] 45) := by have h := heap_alloc_new (w2.alloc (.cells #[.int .i64 x, .int .i64 y, .int .i64 z] 45)) (.cells #[] 45); rw [World.size_alloc] at h; exact h
        have hCc : ((w2.alloc (.cells #[.int .i64 x, .int .i64 y, .int .i64 z] 45)).alloc (.cells #[] 45)).heap[w2.heap.size]? = some (.cells #[.int .i64 x, .int .i64 y, .int .i64 z] 45) := (Below.heap_alloc (w2.alloc (.cells #[.int .i64 x, .int .i64 y, .int .i64 z] 45)) (.cells #[] 45) w2.heap.size (by simp)).trans (heap_alloc_new w2 _)
        have hLb : w2.heap.size + 1 < ((w2.alloc (.cells #[] 45)).alloc (.cells #[.int .i64 x, .int .i64 y, .int .i64 z] 45)).heap.size := by simp
        have hLc : w2.heap.size < ((w2.alloc (.cells #[.int .i64 x, .int .i64 y, .int .i64 z] 45)).alloc (.cells #[] 45)).heap.size := by simp; omega
        go_region_held3 (fun w' => w'.cell? ⟨w.heap.size, 0, none⟩ = some (.int .i64 (q : Nat)) ∧ w'.cell? ⟨w.heap.size, 1, none⟩ = some (.slice (some ⟨b0, 0, none⟩) n cap) ∧ (w'.cell? ⟨w.heap.size + 1, 0, none⟩ = some (.int .i64 x) ∧ w'.cell? ⟨w.heap.size + 1, 1, none⟩ = some (.int .i64 y) ∧ w'.cell? ⟨w.heap.size + 1, 2, none⟩ = some (.int .i64 z)) ∧ ((w'.cell? ⟨w.heap.size + 1 + 1, 0, none⟩).isSome = true ∧ (w'.cell? ⟨w.heap.size + 1 + 1, 1, none⟩).isSome = true) ∧ w'.frozen? ⟨w.heap.size + 1 + 1, 0, none⟩ = false ∧ w'.frozen? ⟨w.heap.size + 1 + 1, 1, none⟩ = false)
          (first | exact KS.out _ (Below.refl _ _) | exact KS.out _ B1.out | exact KS.out _ B2.out | exact KS.out _ B3.out | exact KS.out _ B4.out | exact KS.out _ B5.out | exact KS.out _ B6.out | exact KS.out _ B7.out | exact KS.out _ B8.out | exact KS.out _ B9.out | exact KS.out _ B10.out | exact KS.out _ B11.out | exact KS.out _ B12.out | exact KS.out _ B13.out | exact KS.out _ B14.out | exact KS.out _ b5 | exact KS.out _ (b5.alloc b5.size _) | exact KS.out _ b7 | ((try dsimp only); (repeat' apply And.intro); all_goals (first | exact (box_far2 (box_far2 (hx2.now b7) (p := ⟨w.heap.size + 1 + 1, 0, none⟩) (by simp; omega) _) (p := ⟨w.heap.size + 1 + 1, 1, none⟩) (by simp; omega) _).cells.1 | exact (box_far2 (box_far2 (hx2.now b7) (p := ⟨w.heap.size + 1 + 1, 0, none⟩) (by simp; omega) _) (p := ⟨w.heap.size + 1 + 1, 1, none⟩) (by simp; omega) _).cells.2 | exact isSome_setN (isSome_setN (Option.isSome_iff_exists.2 ⟨_, d5⟩)) | exact isSome_setN (isSome_setN (Option.isSome_iff_exists.2 ⟨_, d6⟩)) | go_keep)) | go_keep)
          (first
            | (refine step_append_newN _ ?_ (.tmp 25) (.tmp 27) _ ?_ w2.heap.size 45 i0 (.agg #[.int .i64 0, .int .i64 0, .int .i64 0]) 3 24 Try.underlying53 hi0 hz0 hz1 hz2 rfl ?_ (.slice (some ⟨w2.heap.size, 0, none⟩) 0 0) ?_ (own_empty (Nat.le_refl _) hAa) ⟨b0, 0, none⟩ n cap (cluesV C) ?_ ?_ (clu_news (HK2.out.now (by first | exact B1.out | exact B2.out | exact B3.out | exact B4.out | exact B5.out | exact B6.out | exact B7.out | exact B8.out | exact B9.out | exact B10.out | exact B11.out | exact B12.out | exact B13.out | exact B14.out))) (cluesV_one C) ?_ ?_ (Below.size (B := w2.heap.size) (w := w2) (by first | exact B1.out | exact B2.out | exact B3.out | exact B4.out | exact B5.out | exact B6.out | exact B7.out | exact B8.out | exact B9.out | exact B10.out | exact B11.out | exact B12.out | exact B13.out | exact B14.out)) ?_; (rfl); (rfl); (omega); (rfl); (rfl); (rw [cluesV_len, HLEN.out]; omega); (unfold maxLen; omega); (omega); intro B cp w5 hown5 hgrow5 hob5; have b5 : Below w2.heap.size w2 w5 := Below.grown (by first | exact B1.out | exact B2.out | exact B3.out | exact B4.out | exact B5.out | exact B6.out | exact B7.out | exact B8.out | exact B9.out | exact B10.out | exact B11.out | exact B12.out | exact B13.out | exact B14.out) hgrow5 (Below.size (B := w2.heap.size) (w := w2) (by first | exact B1.out | exact B2.out | exact B3.out | exact B4.out | exact B5.out | exact B6.out | exact B7.out | exact B8.out | exact B9.out | exact B10.out | exact B11.out | exact B12.out | exact B13.out | exact B14.out)) (fun j hj => by have : w2.heap.size = j := (by simpa [Value.ownBlock] using hj); omega); have hC5 : True := trivial)
            | (refine step_append_newN _ ?_ (.tmp 25) (.tmp 27) _ ?_ w2.heap.size 45 i0 (.agg #[.int .i64 0, .int .i64 0, .int .i64 0]) 3 24 Try.underlying53 hi0 hz0 hz1 hz2 rfl ?_ (.slice (some ⟨w2.heap.size, 0, none⟩) 0 0) ?_ (own_empty (Nat.le_refl _) hAb) ⟨b0, 0, none⟩ n cap (cluesV C) ?_ ?_ (clu_news (HK2.out.now (by first | exact B1.out | exact B2.out | exact B3.out | exact B4.out | exact B5.out | exact B6.out | exact B7.out | exact B8.out | exact B9.out | exact B10.out | exact B11.out | exact B12.out | exact B13.out | exact B14.out))) (cluesV_one C) ?_ ?_ (Below.size (B := w2.heap.size) (w := w2) (by first | exact B1.out | exact B2.out | exact B3.out | exact B4.out | exact B5.out | exact B6.out | exact B7.out | exact B8.out | exact B9.out | exact B10.out | exact B11.out | exact B12.out | exact B13.out | exact B14.out)) ?_; (rfl); (rfl); (omega); (rfl); (rfl); (rw [cluesV_len, HLEN.out]; omega); (unfold maxLen; omega); (omega); intro B cp w5 hown5 hgrow5 hob5; have b5 : Below w2.heap.size w2 w5 := Below.grown (by first | exact B1.out | exact B2.out | exact B3.out | exact B4.out | exact B5.out | exact B6.out | exact B7.out | exact B8.out | exact B9.out | exact B10.out | exact B11.out | exact B12.out | exact B13.out | exact B14.out) hgrow5 (Below.size (B := w2.heap.size) (w := w2) (by first | exact B1.out | exact B2.out | exact B3.out | exact B4.out | exact B5.out | exact B6.out | exact B7.out | exact B8.out | exact B9.out | exact B10.out | exact B11.out | exact B12.out | exact B13.out | exact B14.out)) (fun j hj => by have : w2.heap.size = j := (by simpa [Value.ownBlock] using hj); omega); have hC5 : w5.heap[w2.heap.size + 1]? = some (.cells #[.int .i64 x, .int .i64 y, .int .i64 z] 45) := (hgrow5.block (w2.heap.size + 1) hLb (by simp [Value.ownBlock])).trans hCb)
            | (refine step_append_newN _ ?_ (.tmp 25) (.tmp 27) _ ?_ w2.heap.size 45 i0 (.agg #[.int .i64 0, .int .i64 0, .int .i64 0]) 3 24 Try.underlying53 hi0 hz0 hz1 hz2 rfl ?_ (.slice (some ⟨w2.heap.size + 1, 0, none⟩) 0 0) ?_ (own_empty (Nat.le_succ _) hAc) ⟨b0, 0, none⟩ n cap (cluesV C) ?_ ?_ (clu_news (HK2.out.now (by first | exact B1.out | exact B2.out | exact B3.out | exact B4.out | exact B5.out | exact B6.out | exact B7.out | exact B8.out | exact B9.out | exact B10.out | exact B11.out | exact B12.out | exact B13.out | exact B14.out))) (cluesV_one C) ?_ ?_ (Below.size (B := w2.heap.size) (w := w2) (by first | exact B1.out | exact B2.out | exact B3.out | exact B4.out | exact B5.out | exact B6.out | exact B7.out | exact B8.out | exact B9.out | exact B10.out | exact B11.out | exact B12.out | exact B13.out | exact B14.out)) ?_; (rfl); (rfl); (omega); (rfl); (rfl); (rw [cluesV_len, HLEN.out]; omega); (unfold maxLen; omega); (omega); intro B cp w5 hown5 hgrow5 hob5; have b5 : Below w2.heap.size w2 w5 := Below.grown (by first | exact B1.out | exact B2.out | exact B3.out | exact B4.out | exact B5.out | exact B6.out | exact B7.out | exact B8.out | exact B9.out | exact B10.out | exact B11.out | exact B12.out | exact B13.out | exact B14.out) hgrow5 (Below.size (B := w2.heap.size) (w := w2) (by first | exact B1.out | exact B2.out | exact B3.out | exact B4.out | exact B5.out | exact B6.out | exact B7.out | exact B8.out | exact B9.out | exact B10.out | exact B11.out | exact B12.out | exact B13.out | exact B14.out)) (fun j hj => by have : w2.heap.size + 1 = j := (by simpa [Value.ownBlock] using hj); omega); have hC5 : w5.heap[w2.heap.size]? = some (.cells #[.int .i64 x, .int .i64 y, .int .i64 z] 45) := (hgrow5.block w2.heap.size hLc (by simp [Value.ownBlock])).trans hCc)
            | (refine step_append_atN _ ?_ (.tmp 28) (.tmp 30) _ ?_ w2.heap.size 45 i0 (.agg #[.int .i64 0, .int .i64 0, .int .i64 0]) 3 24 Try.underlying53 hi0 hz0 hz1 hz2 rfl ?_ (.slice B n cp) n (cluesV C) ?_ hown5 ⟨w2.heap.size + 1, 0, none⟩ 1 1 [.int .i64 x, .int .i64 y, .int .i64 z] ?_ rfl (World.news_of_block (cs := #[.int .i64 x, .int .i64 y, .int .i64 z]) (t := 45) (fr := (0, 0)) hC5) ?_ ?_ ?_ b5.size ?_; (rfl); (rfl); (omega); (rfl); (rfl); (simp [Value.oneCell']); (unfold maxLen; omega); (omega); intro B7 cp7 w7 hown7 hgrow7 hob7; have b7 : Below w2.heap.size w2 w7 := Below.grown b5 hgrow7 b5.size (fun j hj => owns_le hown5 hj); obtain ⟨d0, d1, ⟨d2, d3, d4⟩, ⟨d5, d6⟩, d7, d8⟩ := K.out _ b7)
            | (refine step_append_atN _ ?_ (.tmp 28) (.tmp 30) _ ?_ w2.heap.size 45 i0 (.agg #[.int .i64 0, .int .i64 0, .int .i64 0]) 3 24 Try.underlying53 hi0 hz0 hz1 hz2 rfl ?_ (.slice B n cp) n (cluesV C) ?_ hown5 ⟨w2.heap.size, 0, none⟩ 1 1 [.int .i64 x, .int .i64 y, .int .i64 z] ?_ rfl (World.news_of_block (cs := #[.int .i64 x, .int .i64 y, .int .i64 z]) (t := 45) (fr := (0, 0)) hC5) ?_ ?_ ?_ b5.size ?_; (rfl); (rfl); (omega); (rfl); (rfl); (simp [Value.oneCell']); (unfold maxLen; omega); (omega); intro B7 cp7 w7 hown7 hgrow7 hob7; have b7 : Below w2.heap.size w2 w7 := Below.grown b5 hgrow7 b5.size (fun j hj => owns_le hown5 hj); obtain ⟨d0, d1, ⟨d2, d3, d4⟩, ⟨d5, d6⟩, d7, d8⟩ := K.out _ b7)
            | (refine step_append_atN _ ?_ (.tmp 28) (.tmp 30) _ ?_ w2.heap.size 45 i0 (.agg #[.int .i64 0, .int .i64 0, .int .i64 0]) 3 24 Try.underlying53 hi0 hz0 hz1 hz2 rfl ?_ (.slice B n cp) n (cluesV C) ?_ (hown5.alloc _) ⟨w5.heap.size, 0, none⟩ 1 1 [.int .i64 x, .int .i64 y, .int .i64 z] ?_ rfl (World.news_of_block (cs := #[.int .i64 x, .int .i64 y, .int .i64 z]) (t := 45) (fr := (0, 0)) (heap_alloc_new w5 _)) ?_ ?_ ?_ (b5.alloc b5.size (.cells #[.int .i64 x, .int .i64 y, .int .i64 z] 45)).size ?_; (rfl); (rfl); (omega); (rfl); (rfl); (simp [Value.oneCell']); (unfold maxLen; omega); (omega); intro B7 cp7 w7 hown7 hgrow7 hob7; have b7 : Below w2.heap.size w2 w7 := Below.grown (b5.alloc b5.size (.cells #[.int .i64 x, .int .i64 y, .int .i64 z] 45)) hgrow7 (b5.alloc b5.size (.cells #[.int .i64 x, .int .i64 y, .int .i64 z] 45)).size (fun j hj => owns_le hown5 hj); obtain ⟨d0, d1, ⟨d2, d3, d4⟩, ⟨d5, d6⟩, d7, d8⟩ := K.out _ b7)
            | fail)
        all_goals
          obtain ⟨gg, cp', hv, hge, _, _⟩ := owns_headN hown7 (by omega)
          obtain ⟨rfl, rfl⟩ : B7 = some ⟨gg, 0, none⟩ ∧ cp7 = cp' := by simpa using hv
          have HO7 := Lib.hid (show OwnCl w7 w.heap.size (.slice (some ⟨gg, 0, none⟩) (n + 1) cp7) (C ++ [(x, y, z)]) from by unfold OwnCl; rw [cluesV_snoc, List.length_append, HLEN.out]; exact owns_base2 hown7 g2.size)
          have G7 := Lib.hid (g2.trans (b7.mono g2.size))
          have hz7 := G7.out.size
          have hb72 := b7.size
          clear hown5 hgrow5 hob5 b5 hown7 hgrow7 hob7 hv c0 c1 c2 c3 c4 c5 c6 c7 c8 d0 d1 d2 d3 d4 hC5 b7 hAa hAb hCb hAc hCc hLb hLc
          go_wp2
          refine bodyPost_ret (v := .tuple #[.agg #[.int .i64 (q : Nat), .slice (some ⟨gg, 0, none⟩) (n + 1) cp7], .bool true]) (by simp [results, Try.results43, go_sem, d5, d6]) rfl (HYES.out HA.out _ _ (ansP_yes (by simp [HLEN.out]) (owns_far_ (owns_far_ HO7.out (by simp; omega) _) (by simp; omega) _) ((G7.out.setCell (by simp; omega) _).setCell (by simp; omega) _)))
theorem addL_len (m : Int) (C : List Clu) (x y z : Int) : (if addB m C (x, y, z) then C ++ [(x, y, z)] else []).length ≤ 1048576 := by
  split
  · rename_i h
    unfold addB at h
    rw [Bool.and_eq_true] at h
    have := puzB_le h.2
    omega
  · simp
end Go.Proofs.Ytlcfimddcedbcaa
