/- Texts of Gm, Gn. -/
import Derived.Test.YtnldodnpakpeeaaPkQ14
import Derived.Outline
import Derived.Maps.AppendAt
import Derived.Deep.AppendLies
import Derived.Deep.RegionHeld3
namespace Go.Proofs.Ytnldodnpakpeeaa
open Go.RowKit Vo

theorem owns_base2 {w : World} {base base' : Nat} {e : TypeId} {size : Nat} {v : Value} {n : Nat} {xs : List Value} (h : w.ownsRow base e size v n xs) (hb : base' ≤ base) : w.ownsRow base' e size v n xs := by
  obtain ⟨h1, h2⟩ := h
  refine ⟨h1, ?_⟩
  rcases h2 with h2 | ⟨g', cap', cur, hv, hg, hh, r⟩
  · exact Or.inl h2
  · exact Or.inr ⟨g', cap', cur, hv, Nat.le_trans hb hg, hh, r⟩
theorem box_put2 {t : TypeId} {w : World} {g : Nat} {u v : Value} (h : BoxT t w g u v) (b : Value) : BoxT t (w.setCell ⟨g, 1, none⟩ b) g u b := by
  unfold BoxT at *
  simp [World.setCell, Array.getElem?_modify, h]
theorem box_far2 {t : TypeId} {w : World} {g : Nat} {u v : Value} (h : BoxT t w g u v) {p : Addr} (hp : g ≠ p.block) (b : Value) : BoxT t (w.setCell p b) g u v := by
  unfold BoxT at *; exact (Below.heap_setCell w p b g hp).trans h
theorem box_soft2 {t : TypeId} {w : World} {g : Nat} {u v : Value} (h : BoxT t w g u v) : w.frozen? ⟨g, 0, none⟩ = false ∧ w.frozen? ⟨g, 1, none⟩ = false := by
  unfold BoxT at h; exact ⟨by simp [World.frozen?, h], by simp [World.frozen?, h]⟩

set_option maxRecDepth 20000 in
set_option maxHeartbeats 4000000 in
theorem readPuzzle_no (m : Int) (A : Option Addr) (n cap : Nat) (C : List Clu) (w : World) (hl : n ≤ 1048576) (hk : KCl w A n C) (hp : puzB m C = false) :
    Calls Try.prog 52 #[.agg #[.int .i64 m, .slice A n cap]] w fun e w' => e = .returned (.tuple #[.agg #[.int .i64 0, .slice none 0 0], .bool false]) ∧ Below w.heap.size w w' := by
  have hb2 : Below w.heap.size w ((w.alloc (.cells #[.int .i64 m, .slice A n cap] 28)).alloc (.cells #[.int .i64 0, .slice none 0 0] 28)) := (below1 w _).alloc (by simp) _
  have hx := (BoxT.new 28 w (.int .i64 m) (.slice A n cap)).alloc (.cells #[.int .i64 0, .slice none 0 0] 28)
  have hr := BoxT.new 28 (w.alloc (.cells #[.int .i64 m, .slice A n cap] 28)) (.int .i64 0) (.slice none 0 0)
  simp only [World.size_alloc] at hr
  obtain ⟨c0, c1⟩ := hx.cells
  have HK := Lib.hid (hk.now hb2)
  have HP := Lib.hid (iIsPuzzle_any m A n cap C _ (by omega) HK.out)
  rw [hp] at HP
  clear hk hp
  go_enter Try.func52, Try.ntmps52
  go_wp2_with fail
  refine HP.out.mono ?_
  rintro e w1 ⟨rfl, hb1⟩
  have hr1 := hr.now hb1
  have b1 := bfrom hb2 hb1
  have hz1 := b1.size
  obtain ⟨f0, f1⟩ := box_soft2 hr1
  obtain ⟨r0, r1⟩ := hr1.cells
  clear c0 c1 hx hr hb1 hb2
  go_wp2
  refine bodyPost_ret (v := .tuple #[.agg #[.int .i64 0, .slice none 0 0], .bool false]) (by simp [results, Try.results52, go_sem, r0, r1]) rfl ⟨rfl, ?_⟩
  exact (b1.setCell (by simp) _).setCell (by simp) _

def addB (m : Int) (C : List Clu) (c : Clu) : Bool := puzB m C && puzB m (C ++ [c])
theorem puzB_le {m : Int} {C : List Clu} (h : puzB m C = true) : C.length ≤ 8 := by
  rcases Nat.lt_or_ge 8 C.length with h1 | h1
  · rw [puzB_long (by omega)] at h; cases h
  · exact h1
/-- What readPuzzle gives, be it a puzzle or not. -/
theorem readPuzzle_any (m : Int) (A : Option Addr) (n cap : Nat) (C : List Clu) (w : World) (hl : n ≤ 1048576) (hk : KCl w A n C) :
    Calls Try.prog 52 #[.agg #[.int .i64 m, .slice A n cap]] w fun e w' => ∃ (m' : Int) (A' : Option Addr) (n' cp' : Nat) (C' : List Clu), e = .returned (.tuple #[.agg #[.int .i64 m', .slice A' n' cp'], .bool (puzB m C)]) ∧ C'.length = n' ∧ n' ≤ 8 ∧ OwnCl w' w.heap.size (.slice A' n' cp') C' ∧ Below w.heap.size w w' ∧ (puzB m C = true → m' = m ∧ C' = C) := by
  cases hp : puzB m C with
  | false =>
    refine (readPuzzle_no m A n cap C w hl hk hp).mono ?_
    rintro e w' ⟨rfl, hb⟩
    exact ⟨0, none, 0, 0, [], rfl, rfl, by omega, World.ownsRow_nil _ _ _ _, hb, fun h => by cases h⟩
  | true =>
    refine (readPuzzle_yes m A n cap C w hl hk hp).mono ?_
    rintro e w' ⟨g, rfl, ho, hb⟩
    exact ⟨m, _, n, n, C, rfl, hk.1, by have := puzB_le hp; have := hk.1; omega, ho, hb, fun _ => ⟨rfl, rfl⟩⟩
theorem ansP_no {w w' : World} (hb : Below w.heap.size w w') : AnsP 0 [] false w w' (.returned (.tuple #[.agg #[.int .i64 0, .slice none 0 0], .bool false])) :=
  ⟨none, 0, rfl, RCl.lies ⟨none, 0, rfl, Or.inl rfl⟩ (Nat.le_refl _), hb⟩
theorem ansP_yes {w w' : World} {m : Int} {C : List Clu} {A : Option Addr} {n cap : Nat} (hn : C.length = n) (ho : OwnCl w' w.heap.size (.slice A n cap) C) (hb : Below w.heap.size w w') : AnsP m C true w w' (.returned (.tuple #[.agg #[.int .i64 m, .slice A n cap], .bool true])) := by
  subst hn
  exact ⟨A, cap, rfl, OwnCl.rcl rfl ho, hb⟩

end Go.Proofs.Ytnldodnpakpeeaa

namespace Go.Proofs.Ytnldodnpakpeeaa
open Go.RowKit Vo

theorem owns_sliceN {w : World} {base : Nat} {e : TypeId} {size : Nat} {v : Value} {n : Nat} {xs : List Value} (h : w.ownsRow base e size v n xs) : ∃ B cp, v = .slice B n cp := by
  rcases h.2 with ⟨h, hz⟩ | ⟨q, cp', cur, hv, _⟩
  · exact ⟨none, 0, by rw [h, hz]⟩
  · exact ⟨_, _, hv⟩
section
variable {P : Program} (w : World)
theorem wp_append_atN {o : Oper} {a : Act} {K : Act → World → Prop} {Q : Exit → Act → World → Prop} (s x : Operand) (t : TypeId)
    (ho : o.op = .call { callee := .builtin .append, args := #[s, x], argTypes := #[t, t] })
    (base : Nat) (e : TypeId) (i : TypeInfo) (z : Value) (size bytes : Nat) (ht : P.underlying t = some (.slice e)) (hi : P.info? e = some i) (hz : i.zero = some z)
    (hsize : i.size = size) (hby : i.bytes = bytes) (hzs : z.cells.size = size) (hsz : 0 < size)
    (v : Value) (n : Nat) (xs : List Value) (hs : a.eval s = v) (hown : w.ownsRow base e size v n xs)
    (ad : Addr) (m c : Nat) (news : List Value) (hx : a.eval x = .slice (some ad) m c) (hl : news.length = m * size) (hnews : ∀ j u, news[j]? = some u → w.cell? (ad.add j) = some u) (h1 : ∀ u ∈ news, u.oneCell' = true)
    (h63 : n + m ≤ maxLen) (hbytes : (n + m) * bytes ≤ 140737488355328) (hbase : base ≤ w.heap.size)
    (h : ∀ B cp w', w'.ownsRow base e size (.slice B (n + m) cp) (n + m) (xs ++ news) → w.grownBy w' v.ownBlock → ((Value.slice B (n + m) cp).ownBlock = v.ownBlock ∨ (Value.slice B (n + m) cp).ownBlock = some w.heap.size) → K (a.put o.dst (.slice B (n + m) cp)) w') : o.wp P a w K Q := by
  obtain ⟨v', w', hr, h2, h3, _, h5⟩ := run_append_own_at (P := P) w base t o.type e i z size bytes ht hi hz hsize hby hzs hsz v n xs hown ad m c news hl hnews h1 h63 hbytes hbase
  unfold Oper.wp execOp
  simp only [ho, resolve, invoke, builtin, Sem.run_bind, Sem.run_pure, Result.andThen_ok, List.map_toArray, List.map_cons, List.map_nil, hs, hx, hr]
  obtain ⟨B, cp, rfl⟩ := owns_sliceN h2
  exact h B cp w' h2 h3 h5
theorem step_append_atN {ops : Array Oper} {o : Oper} {a : Act} {K : Act → World → Prop} {Q : Exit → Act → World → Prop} {E : Prop} (hgd : o.guard = none) (s x : Operand) (t : TypeId)
    (ho : o.op = .call { callee := .builtin .append, args := #[s, x], argTypes := #[t, t] })
    (base : Nat) (e : TypeId) (i : TypeInfo) (z : Value) (size bytes : Nat) (ht : P.underlying t = some (.slice e)) (hi : P.info? e = some i) (hz : i.zero = some z)
    (hsize : i.size = size) (hby : i.bytes = bytes) (hzs : z.cells.size = size) (hsz : 0 < size)
    (v : Value) (n : Nat) (xs : List Value) (hs : a.eval s = v) (hown : w.ownsRow base e size v n xs)
    (ad : Addr) (m c : Nat) (news : List Value) (hx : a.eval x = .slice (some ad) m c) (hl : news.length = m * size) (hnews : ∀ j u, news[j]? = some u → w.cell? (ad.add j) = some u) (h1 : ∀ u ∈ news, u.oneCell' = true)
    (h63 : n + m ≤ maxLen) (hbytes : (n + m) * bytes ≤ 140737488355328) (hbase : base ≤ w.heap.size)
    (h : ∀ B cp w', w'.ownsRow base e size (.slice B (n + m) cp) (n + m) (xs ++ news) → w.grownBy w' v.ownBlock → ((Value.slice B (n + m) cp).ownBlock = v.ownBlock ∨ (Value.slice B (n + m) cp).ownBlock = some w.heap.size) → K (a.put o.dst (.slice B (n + m) cp)) w') :
    if Region.wanted o (yielded ops a.tmps) = true then Oper.wp P o a w K Q else E := by
  have hw : Region.wanted o (yielded ops a.tmps) = true := by simp [Region.wanted, hgd]
  rw [if_pos hw]
  exact wp_append_atN w s x t ho base e i z size bytes ht hi hz hsize hby hzs hsz v n xs hs hown ad m c news hx hl hnews h1 h63 hbytes hbase h
theorem step_append_newN {ops : Array Oper} {o : Oper} {a : Act} {K : Act → World → Prop} {Q : Exit → Act → World → Prop} {E : Prop} (hgd : o.guard = none) (s x : Operand) (t : TypeId)
    (ho : o.op = .call { callee := .builtin .append, args := #[s, x], argTypes := #[t, t] })
    (base : Nat) (e : TypeId) (i : TypeInfo) (z : Value) (size bytes : Nat) (ht : P.underlying t = some (.slice e)) (hi : P.info? e = some i) (hz : i.zero = some z)
    (hsize : i.size = size) (hby : i.bytes = bytes) (hzs : z.cells.size = size) (hsz : 0 < size)
    (v : Value) (hs : a.eval s = v) (hown : w.ownsRow base e size v 0 [])
    (ad : Addr) (m c : Nat) (news : List Value) (hx : a.eval x = .slice (some ad) m c) (hl : news.length = m * size) (hnews : ∀ j u, news[j]? = some u → w.cell? (ad.add j) = some u) (h1 : ∀ u ∈ news, u.oneCell' = true)
    (h63 : m ≤ maxLen) (hbytes : m * bytes ≤ 140737488355328) (hbase : base ≤ w.heap.size)
    (h : ∀ B cp w', w'.ownsRow base e size (.slice B m cp) m news → w.grownBy w' v.ownBlock → ((Value.slice B m cp).ownBlock = v.ownBlock ∨ (Value.slice B m cp).ownBlock = some w.heap.size) → K (a.put o.dst (.slice B m cp)) w') :
    if Region.wanted o (yielded ops a.tmps) = true then Oper.wp P o a w K Q else E :=
  step_append_atN w hgd s x t ho base e i z size bytes ht hi hz hsize hby hzs hsz v 0 [] hs hown ad m c news hx hl hnews h1 (by omega) (by rw [Nat.zero_add]; exact hbytes) hbase
    (by simp only [Nat.zero_add, List.nil_append]; exact h)
end
theorem anyU_snoc (p : Clu → Bool) (C : List Clu) (c : Clu) : anyU p (C ++ [c]) (C ++ [c]).length = (anyU p C C.length || p c) := by
  have h : ∀ k, k ≤ C.length → anyU p (C ++ [c]) k = anyU p C k := by
    intro k hk
    induction k with
    | zero => rfl
    | succ k ih => simp only [anyU]; rw [ih (by omega), cAt_left (by omega)]
  rw [List.length_append, List.length_cons, List.length_nil]
  simp only [anyU]
  rw [h _ (Nat.le_refl _), cAt_last]
theorem puzB_snoc {n : Nat} {C : List Clu} (c : Clu) (h : puzB (n : Int) C = true) : puzB (n : Int) (C ++ [c]) = (clueB n c && !decide (C.length = 8)) := by
  have h1 := puzB_le h
  have h2 : inB (n : Int) 1 4 = true := by
    cases hb : inB (n : Int) 1 4 with
    | true => rfl
    | false => rw [puzB_size hb] at h; cases h
  by_cases h8 : C.length = 8
  · rw [puzB_long (by simp; omega), decide_eq_true h8]; simp
  · rw [puzB_at h2 h1] at h
    rw [puzB_at h2 (by simp; omega), anyU_snoc, decide_eq_false h8]
    simp at h
    simp [h]

theorem owns_headN {w : World} {base : Nat} {e : TypeId} {size : Nat} {v : Value} {n : Nat} {xs : List Value} (h : w.ownsRow base e size v n xs) (hn : 0 < n) : ∃ g cap, v = .slice (some ⟨g, 0, none⟩) n cap ∧ base ≤ g ∧ n ≤ cap ∧ cap ≤ maxLen := by
  obtain ⟨h1, h2⟩ := h
  rcases h2 with ⟨_, h2⟩ | ⟨g', cap, cur, hv, hg', hh, h3, h4, r⟩
  · omega
  · exact ⟨g', cap, hv, hg', h3, h4⟩
theorem isSome_setN {w : World} {p a : Addr} {u : Value} (h : (w.cell? a).isSome = true) : ((w.setCell p u).cell? a).isSome = true := by
  by_cases e : p = a
  · subst e; rw [World.cell?_setCell_same' w p u h]; rfl
  · rw [World.cell?_setCell_other w p a u e]; exact h
theorem own_empty {W : World} {base B : Nat} (hb : base ≤ B) (h : W.heap[B]? = some (.cells #[] 130)) : W.ownsRow base 130 3 (.slice (some ⟨B, 0, none⟩) 0 0) 0 [] :=
  ⟨rfl, Or.inr ⟨B, 0, #[], rfl, hb, h, Nat.le_refl _, by unfold maxLen; omega, rfl, rfl⟩⟩
theorem clu_news {W : World} {n b0 : Nat} {C : List Clu} (h : KCl W (some ⟨b0, 0, none⟩) n C) : ∀ (j : Nat) (u : Value), (cluesV C)[j]? = some u → W.cell? ((⟨b0, 0, none⟩ : Addr).add j) = some u := by
  intro j u hj
  have hj3 : j < 3 * C.length := by
    have := (List.getElem?_eq_some_iff.1 hj).1
    rwa [cluesV_len] at this
  rw [cluesV_get C hj3] at hj
  injection hj with hj
  rw [← hj]
  have hl := h.1
  obtain ⟨b, off, hA, hcl⟩ := h.get (by omega)
  injection hA with hA
  injection hA with h1 h2
  subst h1 h2
  have := hcl.cell j (by omega)
  rw [show (⟨b0, 0, none⟩ : Addr).add j = ⟨b0, 0 + j, none⟩ from by unfold Addr.add; split <;> simp_all]
  exact this

theorem addL_len (m : Int) (C : List Clu) (x y z : Int) : (if addB m C (x, y, z) then C ++ [(x, y, z)] else []).length ≤ 1048576 := by
  split
  · rename_i h
    unfold addB at h
    rw [Bool.and_eq_true] at h
    have := puzB_le h.2
    omega
  · simp
end Go.Proofs.Ytnldodnpakpeeaa
