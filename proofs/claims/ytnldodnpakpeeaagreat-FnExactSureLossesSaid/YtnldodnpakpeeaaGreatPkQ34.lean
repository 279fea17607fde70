/- Texts of Gf, Gm. -/
import Derived.Test.YtnldodnpakpeeaaGreatPkQ14
import Derived.Laws.CopyOwn
import Derived.Deep.OwnRows
import Derived.Outline
namespace Go.Proofs.YtnldodnpakpeeaaGreat
open Go.RowKit Vo

theorem run_copy_k {P : Program} (w : World) (dT sT ty elem : TypeId) (k g o dLen dCap : Nat) (a : Addr) (sLen sCap : Nat) (cur : Array Value) (t : TypeId) (cs : List Value)
    (hu : P.underlying dT = some (.slice elem)) (hs : (P.info? elem).map (·.size) = some k)
    (hg : w.heap[g]? = some (.cells cur t (0, 0))) (hn : cs.length = Nat.min sLen dLen * k)
    (hsrc : ∀ j v, cs[j]? = some v → w.cell? (a.add j) = some v) (hfit : o + cs.length ≤ cur.size) (h1 : ∀ v ∈ cs, v.oneCell' = true) :
    (Builtin.copy_ #[dT, sT] ty #[.slice (some ⟨g, o, none⟩) dLen dCap, .slice (some a) sLen sCap]).run P w =
      .ok (goInt (Nat.min sLen dLen)) (w.setRow g (cur.toList.take o ++ cs ++ cur.toList.drop (o + cs.length)).toArray) := by
  have hl := run_loadCells_list (P := P) w a cs hsrc
  have hst := run_storeCells_at P g o t cs 0 cur w hg (by simpa using hfit) h1
  cases hq : P.info? elem with
  | none => simp [hq] at hs
  | some i =>
    have hi : i.size = k := by simpa [hq] using hs
    simp [Builtin.copy_, run_underlying hu, Builtin.lenOf, Builtin.firstCells, sizeOf, typeInfo, hq, hi, ← hn, hl, hst]
theorem run_copy_0 {P : Program} (w : World) (dT sT ty elem : TypeId) (k : Nat) (d a : Option Addr) (dLen dCap sLen sCap : Nat) (hu : P.underlying dT = some (.slice elem)) (hs : (P.info? elem).map (·.size) = some k) (hn : Nat.min sLen dLen = 0) :
    (Builtin.copy_ #[dT, sT] ty #[.slice d dLen dCap, .slice a sLen sCap]).run P w = .ok (goInt 0) w := by
  cases hq : P.info? elem with
  | none => simp [hq] at hs
  | some i =>
    have hl : ∀ (x : Addr), (loadCells x 0).run P w = .ok #[] w := fun x => by simpa using run_loadCells_list (P := P) w x [] (by simp)
    cases d <;> cases a <;> simp [Builtin.copy_, run_underlying hu, Builtin.lenOf, Builtin.firstCells, sizeOf, typeInfo, hq, hn, storeCells, hl]

/-- copy(dst, src) of n elements of k cells each into a row of its own of just as many. -/
theorem wpList_copy_all {P : Program} {w : World} {ops : Array Oper} {rest : List Oper} {o : Oper} {a : Act} {Q : Exit → Act → World → Prop} (hgd : o.guard = none) (d s : Operand) (dT sT : TypeId)
    (ho : o.op = .call { callee := .builtin .copy, args := #[d, s], argTypes := #[dT, sT] }) (elem : TypeId) (hu : P.underlying dT = some (.slice elem)) (k : Nat) (hsz : (P.info? elem).map (·.size) = some k)
    (n sCap : Nat) (sp : Option Addr) (g : Nat) (hd : a.eval d = .slice (some ⟨g, 0, none⟩) n n) (hs : a.eval s = .slice sp n sCap)
    (cur : Array Value) (t : TypeId) (hg : w.heap[g]? = some (.cells cur t (0, 0))) (hcur : cur.size = n * k) (cs : List Value) (hn : cs.length = n * k)
    (hpos : 0 < n → ∃ ad, sp = some ad ∧ ∀ j v, cs[j]? = some v → w.cell? (ad.add j) = some v)
    (h1 : ∀ v ∈ cs, v.oneCell' = true) (B : Nat) (w0 : World) (hb : Below B w0 w) (hBg : B ≤ g)
    (h : ∀ w', Hid (w'.heap[g]? = some (.cells cs.toArray t (0, 0))) → Below B w0 w' → wpList P ops Q rest (a.put o.dst (goInt n)) w') :
    wpList P ops Q (o :: rest) a w := by
  have hmin : Nat.min n n = n := Nat.min_self n
  by_cases h0 : n = 0
  · subst h0
    refine wpList_plain hgd fun K hK => ?_
    have hrun := run_copy_0 (P := P) w dT sT o.type elem k (some ⟨g, 0, none⟩) sp 0 0 0 sCap hu hsz rfl
    unfold Oper.wp
    simp [execOp, ho, resolve, invoke, builtin, hd, hs, hrun, Result.andThen]
    refine hK _ _ (h w ?_ hb)
    show _ = _
    have e : cs = [] := List.eq_nil_of_length_eq_zero (by omega)
    have e2 : cur = #[] := Array.eq_empty_of_size_eq_zero (by omega)
    rw [hg, e, e2]
  · obtain ⟨ad, rfl, hsrc⟩ := hpos (by omega)
    refine wpList_plain hgd fun K hK => ?_
    have hrun := run_copy_k (P := P) w dT sT o.type elem k g 0 n n ad n sCap cur t cs hu hsz hg (by rw [hmin]; exact hn) hsrc (by omega) h1
    rw [hmin] at hrun
    unfold Oper.wp
    simp [execOp, ho, resolve, invoke, builtin, hd, hs, hrun, Result.andThen]
    have e : (cs ++ cur.toList.drop cs.length).toArray = cs.toArray := by
      rw [List.drop_eq_nil_of_le (by simp; omega), List.append_nil]
    refine hK _ _ (h _ ?_ (below_setRow hb hBg _))
    show _ = _
    have := setRow_heap w g cur (cs ++ cur.toList.drop cs.length).toArray t _ hg
    simpa [e] using this

theorem owns_far_ {w : World} {base : Nat} {e : TypeId} {size : Nat} {g n m cap : Nat} {xs : List Value} (h : w.ownsRow base e size (.slice (some ⟨g, 0, none⟩) n cap) m xs) {p : Addr} (hp : g ≠ p.block) (u : Value) : (w.setCell p u).ownsRow base e size (.slice (some ⟨g, 0, none⟩) n cap) m xs := by
  obtain ⟨h1, h2⟩ := h
  refine ⟨h1, ?_⟩
  rcases h2 with h2 | ⟨g', cap', cur, hv, hg, hh, r⟩
  · exact Or.inl h2
  · have hv' := hv
    injection hv' with hv1
    injection hv1 with hv1
    injection hv1 with hv1
    subst hv1
    exact Or.inr ⟨g, cap', cur, hv, hg, (Below.heap_setCell w p u g hp).trans hh, r⟩
/-- The cells of some clues. -/
def cluesV (C : List Clu) : List Value := (List.range (3 * C.length)).map fun i => .int .i64 (clF C i)
theorem cluesV_len (C : List Clu) : (cluesV C).length = 3 * C.length := by simp [cluesV]
theorem cluesV_get (C : List Clu) {i : Nat} (h : i < 3 * C.length) : (cluesV C)[i]? = some (.int .i64 (clF C i)) := by simp [cluesV, h]
theorem cluesV_one (C : List Clu) : ∀ v ∈ cluesV C, v.oneCell' = true := fun v hv => by
  unfold cluesV at hv
  obtain ⟨i, _, rfl⟩ := List.mem_map.1 hv
  rfl
theorem cAt_left {C D : List Clu} {i : Nat} (h : i < C.length) : cAt (C ++ D) i = cAt C i := by
  unfold cAt
  rw [List.getD_eq_getElem?_getD, List.getD_eq_getElem?_getD, List.getElem?_append_left h]
theorem cAt_last (C : List Clu) (c : Clu) : cAt (C ++ [c]) C.length = c := by simp [cAt]
theorem cluesV_snoc (C : List Clu) (c : Clu) : cluesV (C ++ [c]) = cluesV C ++ [.int .i64 c.1, .int .i64 c.2.1, .int .i64 c.2.2] := by
  apply List.ext_getElem?
  intro i
  by_cases hi : i < 3 * C.length
  · rw [cluesV_get _ (by simp; omega), List.getElem?_append_left (by rw [cluesV_len]; exact hi), cluesV_get _ hi]
    unfold clF
    rw [cAt_left (by omega)]
  · rw [List.getElem?_append_right (by rw [cluesV_len]; omega), cluesV_len]
    obtain ⟨r, rfl⟩ : ∃ r, i = C.length * 3 + r := ⟨i - C.length * 3, by omega⟩
    rw [show C.length * 3 + r - 3 * C.length = r by omega]
    match r with
    | 0 => rw [cluesV_get _ (by simp; omega), Nat.add_zero, clF_0, cAt_last]; rfl
    | 1 => rw [cluesV_get _ (by simp; omega), clF_1, cAt_last]; rfl
    | 2 => rw [cluesV_get _ (by simp; omega), clF_2, cAt_last]; rfl
    | k + 3 => rw [List.getElem?_eq_none (by rw [cluesV_len]; simp; omega)]; simp
/-- Clues in a row of the call's own. -/
def OwnCl (w : World) (base : Nat) (v : Value) (C : List Clu) : Prop := w.ownsRow base 62 3 v C.length (cluesV C)
theorem OwnCl.cls {w : World} {base g n cap : Nat} {C : List Clu} (hn : C.length = n) (h : OwnCl w base (.slice (some ⟨g, 0, none⟩) n cap) C) : base ≤ g ∧ Cls w g n C := by
  subst hn
  unfold OwnCl at h
  obtain ⟨h1, h2⟩ := h
  rcases h2 with ⟨h2, _⟩ | ⟨g', cap', cur, hv, hg, hh, h3, h4, h5, h6⟩
  · cases h2
  · injection hv with hv1 hv2 hv3
    injection hv1 with hv1
    injection hv1 with hv1
    subst hv1
    refine ⟨hg, cur, hh, by rw [h5]; omega, fun i hi => ?_⟩
    rw [← cluesV_get C hi, ← h6, List.getElem?_take, if_pos (by omega)]
    simp
theorem OwnCl.rcl {w : World} {base n cap : Nat} {A : Option Addr} {C : List Clu} (hn : C.length = n) (h : OwnCl w base (.slice A n cap) C) : Lies (RCl C base w.heap.size (.slice A n cap)) base w.heap.size w := by
  refine RCl.lies ?_ (Nat.le_refl _)
  subst hn
  refine ⟨A, cap, rfl, ?_⟩
  by_cases h0 : C.length = 0
  · exact Or.inl h0
  · cases A with
    | none =>
      unfold OwnCl at h
      rcases h.2 with ⟨_, h2⟩ | ⟨g', cap', cur, hv, _⟩
      · exact absurd h2 h0
      · cases hv
    | some ad =>
      obtain ⟨g', hA⟩ : ∃ g, ad = ⟨g, 0, none⟩ := by
        unfold OwnCl at h
        rcases h.2 with ⟨hv, _⟩ | ⟨g', cap', cur, hv, _⟩
        · cases hv
        · injection hv with hv; injection hv with hv; exact ⟨g', hv⟩
      subst hA
      obtain ⟨h1, h2⟩ := OwnCl.cls rfl h
      exact Or.inr ⟨g', rfl, h1, Own.lt h2, h2⟩

theorem infoClue3 : (Tryz.prog.info? 62).map (·.size) = some 3 := by kernel_rfl

set_option maxRecDepth 20000 in
set_option maxHeartbeats 4000000 in
theorem readPuzzle_yes (m : Int) (A : Option Addr) (n cap : Nat) (C : List Clu) (w : World) (hl : n ≤ 1048576) (hk : KCl w A n C) (hp : puzB m C = true) :
    Calls Tryz.prog 57 #[.agg #[.int .i64 m, .slice A n cap]] w fun e w' => ∃ g, e = .returned (.tuple #[.agg #[.int .i64 m, .slice (some ⟨g, 0, none⟩) n n], .bool true]) ∧ OwnCl w' w.heap.size (.slice (some ⟨g, 0, none⟩) n n) C ∧ Below w.heap.size w w' := by
  have hmk := run_make_clus n hl
  have hlen := hk.1
  have hb2 : Below w.heap.size w ((w.alloc (.cells #[.int .i64 m, .slice A n cap] 31)).alloc (.cells #[.int .i64 0, .slice none 0 0] 31)) := (below1 w _).alloc (by simp) _
  have hx := (BoxT.new 31 w (.int .i64 m) (.slice A n cap)).alloc (.cells #[.int .i64 0, .slice none 0 0] 31)
  have hr := BoxT.new 31 (w.alloc (.cells #[.int .i64 m, .slice A n cap] 31)) (.int .i64 0) (.slice none 0 0)
  simp only [World.size_alloc] at hr
  obtain ⟨c0, c1⟩ := hx.cells
  have HK := Lib.hid (hk.now hb2)
  have HP := Lib.hid (iIsPuzzle_any m A n cap C _ (by omega) HK.out)
  rw [hp] at HP
  have HCL := Lib.hid (cluesV_len C)
  have HC1 := Lib.hid (cluesV_one C)
  have HCG := Lib.hid (fun i (h : i < 3 * C.length) => cluesV_get C h)
  obtain ⟨cs, hcs⟩ : ∃ cs, cs = cluesV C := ⟨_, rfl⟩
  rw [← hcs] at HCL HC1 HCG
  have HCS := Lib.hid hcs
  have HLEN := Lib.hid hlen
  clear hk hp hcs hlen
  go_enter Tryz.func57, Tryz.ntmps57
  go_wp2_with fail
  refine HP.out.mono ?_
  rintro e w1 ⟨rfl, hb1⟩
  have hx1 := hx.now hb1
  have hr1 := hr.now hb1
  have hz1 := hb1.size
  simp only [World.size_alloc] at hz1
  have b1 := bfrom hb2 hb1
  have bm := below1 w1 (.cells (madeCells #[.int .i64 0, .int .i64 0, .int .i64 0] (n * 3)) 62)
  have HK3 := Lib.hid ((HK.out.now hb1).now bm)
  have hx3 := hx1.now bm
  have hr3 := hr1.now bm
  have b3 := bfrom b1 bm
  have hg3 := Lib.hid (heap_alloc_new w1 (.cells (madeCells #[.int .i64 0, .int .i64 0, .int .i64 0] (n * 3)) 62))
  have HMS := Lib.hid (show (madeCells #[.int .i64 0, .int .i64 0, .int .i64 0] (n * 3)).size = n * 3 from size_madeCells _ _)
  clear c0 c1 hx hr hb1 hb2 bm b1
  obtain ⟨c0, c1⟩ := hx1.cells
  obtain ⟨d0, d1⟩ := hx3.cells
  go_wp2_with (with_reducible refine wpList_copy_all rfl _ _ 29 29 rfl 62 Tryz.underlying29 3 infoClue3 n cap A w1.heap.size rfl rfl _ 62 hg3.out HMS.out cs ?hn ?hpos HC1.out w1.heap.size _ (Below.refl _ _) (Nat.le_refl _) ?_)
  case hn => rw [HCL.out, HLEN.out]; omega
  case hpos =>
    intro h0
    obtain ⟨b, off, rfl, hcl⟩ := HK3.out.get (by omega)
    refine ⟨_, rfl, fun j v hv => ?_⟩
    have hj : j < 3 * C.length := by
      have := (List.getElem?_eq_some_iff.1 hv).1
      rw [HCL.out] at this
      exact this
    rw [HCG.out j hj] at hv
    injection hv with hv
    rw [← hv]
    have := hcl.cell j (by rw [← HLEN.out]; exact hj)
    rw [show (⟨b, off, none⟩ : Addr).add j = ⟨b, off + j, none⟩ from by unfold Addr.add; split <;> simp_all]
    exact this
  intro w4 hg4 hb4
  have HG4 := Lib.hid (show OwnCl w4 w.heap.size (.slice (some ⟨w1.heap.size, 0, none⟩) n n) C from by
    rw [show OwnCl w4 w.heap.size (.slice (some ⟨w1.heap.size, 0, none⟩) n n) C = w4.ownsRow w.heap.size 62 3 (.slice (some ⟨w1.heap.size, 0, none⟩) n n) n (cluesV C) from by unfold OwnCl; rw [HLEN.out]]
    refine ⟨by rw [cluesV_len, HLEN.out]; omega, Or.inr ⟨w1.heap.size, n, cs.toArray, rfl, by omega, hg4.out, Nat.le_refl _, by unfold maxLen; omega, by rw [List.size_toArray, HCL.out, HLEN.out]; omega, ?_⟩⟩
    rw [List.take_of_length_le (by rw [HCL.out, HLEN.out]; omega)]
    exact HCS.out)
  have hx4 := hx3.of_below hb4 (by omega)
  have hr4 := hr3.of_below hb4 (by omega)
  have b4 := b3.trans (hb4.mono (by omega))
  have hz4 := b4.size
  have hlt : w1.heap.size < w4.heap.size := (Array.getElem?_eq_some_iff.1 hg4.out).1
  have hf4 : w4.frozen? ⟨w.heap.size + 1, 0, none⟩ = false ∧ w4.frozen? ⟨w.heap.size + 1, 1, none⟩ = false := by
    have := hr4
    unfold BoxT at this; exact ⟨by simp [World.frozen?, this], by simp [World.frozen?, this]⟩
  obtain ⟨f0, f1⟩ := hf4
  obtain ⟨r0, r1⟩ := hr4.cells
  clear hg4 c0 c1 d0 d1
  obtain ⟨c0, c1⟩ := hx4.cells
  go_wp2
  refine bodyPost_ret (v := .tuple #[.agg #[.int .i64 m, .slice (some ⟨w1.heap.size, 0, none⟩) n n], .bool true]) (by simp [results, Tryz.results57, go_sem, r0, r1]) rfl ⟨w1.heap.size, rfl, ?_, ?_⟩
  · exact owns_far_ (owns_far_ HG4.out (by simp; omega) _) (by simp; omega) _
  · exact (b4.setCell (by simp) _).setCell (by simp) _
end Go.Proofs.YtnldodnpakpeeaaGreat

namespace Go.Proofs.YtnldodnpakpeeaaGreat
open Go.RowKit Vo

theorem owns_base2 {w : World} {base base' : Nat} {e : TypeId} {size : Nat} {v : Value} {n : Nat} {xs : List Value} (h : w.ownsRow base e size v n xs) (hb : base' ≤ base) : w.ownsRow base' e size v n xs := by
  obtain ⟨h1, h2⟩ := h
  refine ⟨h1, ?_⟩
  rcases h2 with h2 | ⟨g', cap', cur, hv, hg, hh, r⟩
  · exact Or.inl h2
  · exact Or.inr ⟨g', cap', cur, hv, Nat.le_trans hb hg, hh, r⟩
theorem box_put2 {t : TypeId} {w : World} {g : Nat} {u v : Value} (h : BoxT t w g u v) (b : Value) : BoxT t (w.setCell ⟨g, 1, none⟩ b) g u b := by
  unfold BoxT at *
  simp [World.setCell, Array.getElem?_modify, h]
theorem box_far2 {t : TypeId} {w : World} {g : Nat} {u v : Value} (h : BoxT t w g u v) {p : Addr} (hp : g ≠ p.block) (b : Value) : BoxT t (w.setCell p b) g u v := by
  unfold BoxT at *; exact (Below.heap_setCell w p b g hp).trans h
theorem box_soft2 {t : TypeId} {w : World} {g : Nat} {u v : Value} (h : BoxT t w g u v) : w.frozen? ⟨g, 0, none⟩ = false ∧ w.frozen? ⟨g, 1, none⟩ = false := by
  unfold BoxT at h; exact ⟨by simp [World.frozen?, h], by simp [World.frozen?, h]⟩

set_option maxRecDepth 20000 in
set_option maxHeartbeats 4000000 in
theorem readPuzzle_no (m : Int) (A : Option Addr) (n cap : Nat) (C : List Clu) (w : World) (hl : n ≤ 1048576) (hk : KCl w A n C) (hp : puzB m C = false) :
    Calls Tryz.prog 57 #[.agg #[.int .i64 m, .slice A n cap]] w fun e w' => e = .returned (.tuple #[.agg #[.int .i64 0, .slice none 0 0], .bool false]) ∧ Below w.heap.size w w' := by
  have hb2 : Below w.heap.size w ((w.alloc (.cells #[.int .i64 m, .slice A n cap] 31)).alloc (.cells #[.int .i64 0, .slice none 0 0] 31)) := (below1 w _).alloc (by simp) _
  have hx := (BoxT.new 31 w (.int .i64 m) (.slice A n cap)).alloc (.cells #[.int .i64 0, .slice none 0 0] 31)
  have hr := BoxT.new 31 (w.alloc (.cells #[.int .i64 m, .slice A n cap] 31)) (.int .i64 0) (.slice none 0 0)
  simp only [World.size_alloc] at hr
  obtain ⟨c0, c1⟩ := hx.cells
  have HK := Lib.hid (hk.now hb2)
  have HP := Lib.hid (iIsPuzzle_any m A n cap C _ (by omega) HK.out)
  rw [hp] at HP
  clear hk hp
  go_enter Tryz.func57, Tryz.ntmps57
  go_wp2_with fail
  refine HP.out.mono ?_
  rintro e w1 ⟨rfl, hb1⟩
  have hr1 := hr.now hb1
  have b1 := bfrom hb2 hb1
  have hz1 := b1.size
  obtain ⟨f0, f1⟩ := box_soft2 hr1
  obtain ⟨r0, r1⟩ := hr1.cells
  clear c0 c1 hx hr hb1 hb2
  go_wp2
  refine bodyPost_ret (v := .tuple #[.agg #[.int .i64 0, .slice none 0 0], .bool false]) (by simp [results, Tryz.results57, go_sem, r0, r1]) rfl ⟨rfl, ?_⟩
  exact (b1.setCell (by simp) _).setCell (by simp) _

def addB (m : Int) (C : List Clu) (c : Clu) : Bool := puzB m C && puzB m (C ++ [c])
theorem puzB_le {m : Int} {C : List Clu} (h : puzB m C = true) : C.length ≤ 8 := by
  rcases Nat.lt_or_ge 8 C.length with h1 | h1
  · rw [puzB_long (by omega)] at h; cases h
  · exact h1
/-- What readPuzzle gives, be it a puzzle or not. -/
theorem readPuzzle_any (m : Int) (A : Option Addr) (n cap : Nat) (C : List Clu) (w : World) (hl : n ≤ 1048576) (hk : KCl w A n C) :
    Calls Tryz.prog 57 #[.agg #[.int .i64 m, .slice A n cap]] w fun e w' => ∃ (m' : Int) (A' : Option Addr) (n' cp' : Nat) (C' : List Clu), e = .returned (.tuple #[.agg #[.int .i64 m', .slice A' n' cp'], .bool (puzB m C)]) ∧ C'.length = n' ∧ n' ≤ 8 ∧ OwnCl w' w.heap.size (.slice A' n' cp') C' ∧ Below w.heap.size w w' ∧ (puzB m C = true → m' = m ∧ C' = C) := by
  cases hp : puzB m C with
  | false =>
    refine (readPuzzle_no m A n cap C w hl hk hp).mono ?_
    rintro e w' ⟨rfl, hb⟩
    exact ⟨0, none, 0, 0, [], rfl, rfl, by omega, World.ownsRow_nil _ _ _ _, hb, fun h => by cases h⟩
  | true =>
    refine (readPuzzle_yes m A n cap C w hl hk hp).mono ?_
    rintro e w' ⟨g, rfl, ho, hb⟩
    exact ⟨m, _, n, n, C, rfl, hk.1, by have := puzB_le hp; have := hk.1; omega, ho, hb, fun _ => ⟨rfl, rfl⟩⟩
theorem ansP_no {w w' : World} (hb : Below w.heap.size w w') : AnsP 0 [] false w w' (.returned (.tuple #[.agg #[.int .i64 0, .slice none 0 0], .bool false])) :=
  ⟨none, 0, rfl, RCl.lies ⟨none, 0, rfl, Or.inl rfl⟩ (Nat.le_refl _), hb⟩
theorem ansP_yes {w w' : World} {m : Int} {C : List Clu} {A : Option Addr} {n cap : Nat} (hn : C.length = n) (ho : OwnCl w' w.heap.size (.slice A n cap) C) (hb : Below w.heap.size w w') : AnsP m C true w w' (.returned (.tuple #[.agg #[.int .i64 m, .slice A n cap], .bool true])) := by
  subst hn
  exact ⟨A, cap, rfl, OwnCl.rcl rfl ho, hb⟩

end Go.Proofs.YtnldodnpakpeeaaGreat
