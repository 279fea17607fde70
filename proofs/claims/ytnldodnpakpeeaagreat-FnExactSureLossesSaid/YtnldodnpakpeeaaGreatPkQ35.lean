/- Texts of Gn, Gv. -/
import Derived.Test.YtnldodnpakpeeaaGreatPkQ34
import Derived.Maps.AppendAt
import Derived.Deep.AppendLies
import Derived.Deep.RegionHeld3
import Derived.Outline
import Derived.Test.YtnldodnpakpeeaaGreatPkQ25
import Derived.Test.YtnldodnpakpeeaaGreatPkQ32
import Derived.Test.YtnldodnpakpeeaaGreatPkQ33
import Derived.Test.YtnldodnpakpeeaaGreatPkQ17
namespace Go.Proofs.YtnldodnpakpeeaaGreat
open Go.RowKit Vo

theorem owns_sliceN {w : World} {base : Nat} {e : TypeId} {size : Nat} {v : Value} {n : Nat} {xs : List Value} (h : w.ownsRow base e size v n xs) : ∃ B cp, v = .slice B n cp := by
  rcases h.2 with ⟨h, hz⟩ | ⟨q, cp', cur, hv, _⟩
  · exact ⟨none, 0, by rw [h, hz]⟩
  · exact ⟨_, _, hv⟩
section
variable {P : Program} (w : World)
theorem wp_append_atN {o : Oper} {a : Act} {K : Act → World → Prop} {Q : Exit → Act → World → Prop} (s x : Operand) (t : TypeId)
    (ho : o.op = .call { callee := .builtin .append, args := #[s, x], argTypes := #[t, t] })
    (base : Nat) (e : TypeId) (i : TypeInfo) (z : Value) (size bytes : Nat) (ht : P.underlying t = some (.slice e)) (hi : P.info? e = some i) (hz : i.zero = some z)
    (hsize : i.size = size) (hby : i.bytes = bytes) (hzs : z.cells.size = size) (hsz : 0 < size)
    (v : Value) (n : Nat) (xs : List Value) (hs : a.eval s = v) (hown : w.ownsRow base e size v n xs)
    (ad : Addr) (m c : Nat) (news : List Value) (hx : a.eval x = .slice (some ad) m c) (hl : news.length = m * size) (hnews : ∀ j u, news[j]? = some u → w.cell? (ad.add j) = some u) (h1 : ∀ u ∈ news, u.oneCell' = true)
    (h63 : n + m ≤ maxLen) (hbytes : (n + m) * bytes ≤ 140737488355328) (hbase : base ≤ w.heap.size)
    (h : ∀ B cp w', w'.ownsRow base e size (.slice B (n + m) cp) (n + m) (xs ++ news) → w.grownBy w' v.ownBlock → ((Value.slice B (n + m) cp).ownBlock = v.ownBlock ∨ (Value.slice B (n + m) cp).ownBlock = some w.heap.size) → K (a.put o.dst (.slice B (n + m) cp)) w') : o.wp P a w K Q := by
  obtain ⟨v', w', hr, h2, h3, _, h5⟩ := run_append_own_at (P := P) w base t o.type e i z size bytes ht hi hz hsize hby hzs hsz v n xs hown ad m c news hl hnews h1 h63 hbytes hbase
  unfold Oper.wp execOp
  simp only [ho, resolve, invoke, builtin, Sem.run_bind, Sem.run_pure, Result.andThen_ok, List.map_toArray, List.map_cons, List.map_nil, hs, hx, hr]
  obtain ⟨B, cp, rfl⟩ := owns_sliceN h2
  exact h B cp w' h2 h3 h5
theorem step_append_atN {ops : Array Oper} {o : Oper} {a : Act} {K : Act → World → Prop} {Q : Exit → Act → World → Prop} {E : Prop} (hgd : o.guard = none) (s x : Operand) (t : TypeId)
    (ho : o.op = .call { callee := .builtin .append, args := #[s, x], argTypes := #[t, t] })
    (base : Nat) (e : TypeId) (i : TypeInfo) (z : Value) (size bytes : Nat) (ht : P.underlying t = some (.slice e)) (hi : P.info? e = some i) (hz : i.zero = some z)
    (hsize : i.size = size) (hby : i.bytes = bytes) (hzs : z.cells.size = size) (hsz : 0 < size)
    (v : Value) (n : Nat) (xs : List Value) (hs : a.eval s = v) (hown : w.ownsRow base e size v n xs)
    (ad : Addr) (m c : Nat) (news : List Value) (hx : a.eval x = .slice (some ad) m c) (hl : news.length = m * size) (hnews : ∀ j u, news[j]? = some u → w.cell? (ad.add j) = some u) (h1 : ∀ u ∈ news, u.oneCell' = true)
    (h63 : n + m ≤ maxLen) (hbytes : (n + m) * bytes ≤ 140737488355328) (hbase : base ≤ w.heap.size)
    (h : ∀ B cp w', w'.ownsRow base e size (.slice B (n + m) cp) (n + m) (xs ++ news) → w.grownBy w' v.ownBlock → ((Value.slice B (n + m) cp).ownBlock = v.ownBlock ∨ (Value.slice B (n + m) cp).ownBlock = some w.heap.size) → K (a.put o.dst (.slice B (n + m) cp)) w') :
    if Region.wanted o (yielded ops a.tmps) = true then Oper.wp P o a w K Q else E := by
  have hw : Region.wanted o (yielded ops a.tmps) = true := by simp [Region.wanted, hgd]
  rw [if_pos hw]
  exact wp_append_atN w s x t ho base e i z size bytes ht hi hz hsize hby hzs hsz v n xs hs hown ad m c news hx hl hnews h1 h63 hbytes hbase h
theorem step_append_newN {ops : Array Oper} {o : Oper} {a : Act} {K : Act → World → Prop} {Q : Exit → Act → World → Prop} {E : Prop} (hgd : o.guard = none) (s x : Operand) (t : TypeId)
    (ho : o.op = .call { callee := .builtin .append, args := #[s, x], argTypes := #[t, t] })
    (base : Nat) (e : TypeId) (i : TypeInfo) (z : Value) (size bytes : Nat) (ht : P.underlying t = some (.slice e)) (hi : P.info? e = some i) (hz : i.zero = some z)
    (hsize : i.size = size) (hby : i.bytes = bytes) (hzs : z.cells.size = size) (hsz : 0 < size)
    (v : Value) (hs : a.eval s = v) (hown : w.ownsRow base e size v 0 [])
    (ad : Addr) (m c : Nat) (news : List Value) (hx : a.eval x = .slice (some ad) m c) (hl : news.length = m * size) (hnews : ∀ j u, news[j]? = some u → w.cell? (ad.add j) = some u) (h1 : ∀ u ∈ news, u.oneCell' = true)
    (h63 : m ≤ maxLen) (hbytes : m * bytes ≤ 140737488355328) (hbase : base ≤ w.heap.size)
    (h : ∀ B cp w', w'.ownsRow base e size (.slice B m cp) m news → w.grownBy w' v.ownBlock → ((Value.slice B m cp).ownBlock = v.ownBlock ∨ (Value.slice B m cp).ownBlock = some w.heap.size) → K (a.put o.dst (.slice B m cp)) w') :
    if Region.wanted o (yielded ops a.tmps) = true then Oper.wp P o a w K Q else E :=
  step_append_atN w hgd s x t ho base e i z size bytes ht hi hz hsize hby hzs hsz v 0 [] hs hown ad m c news hx hl hnews h1 (by omega) (by rw [Nat.zero_add]; exact hbytes) hbase
    (by simp only [Nat.zero_add, List.nil_append]; exact h)
end
theorem anyU_snoc (p : Clu → Bool) (C : List Clu) (c : Clu) : anyU p (C ++ [c]) (C ++ [c]).length = (anyU p C C.length || p c) := by
  have h : ∀ k, k ≤ C.length → anyU p (C ++ [c]) k = anyU p C k := by
    intro k hk
    induction k with
    | zero => rfl
    | succ k ih => simp only [anyU]; rw [ih (by omega), cAt_left (by omega)]
  rw [List.length_append, List.length_cons, List.length_nil]
  simp only [anyU]
  rw [h _ (Nat.le_refl _), cAt_last]
theorem puzB_snoc {n : Nat} {C : List Clu} (c : Clu) (h : puzB (n : Int) C = true) : puzB (n : Int) (C ++ [c]) = (clueB n c && !decide (C.length = 8)) := by
  have h1 := puzB_le h
  have h2 : inB (n : Int) 1 4 = true := by
    cases hb : inB (n : Int) 1 4 with
    | true => rfl
    | false => rw [puzB_size hb] at h; cases h
  by_cases h8 : C.length = 8
  · rw [puzB_long (by simp; omega), decide_eq_true h8]; simp
  · rw [puzB_at h2 h1] at h
    rw [puzB_at h2 (by simp; omega), anyU_snoc, decide_eq_false h8]
    simp at h
    simp [h]

theorem owns_headN {w : World} {base : Nat} {e : TypeId} {size : Nat} {v : Value} {n : Nat} {xs : List Value} (h : w.ownsRow base e size v n xs) (hn : 0 < n) : ∃ g cap, v = .slice (some ⟨g, 0, none⟩) n cap ∧ base ≤ g ∧ n ≤ cap ∧ cap ≤ maxLen := by
  obtain ⟨h1, h2⟩ := h
  rcases h2 with ⟨_, h2⟩ | ⟨g', cap, cur, hv, hg', hh, h3, h4, r⟩
  · omega
  · exact ⟨g', cap, hv, hg', h3, h4⟩
theorem isSome_setN {w : World} {p a : Addr} {u : Value} (h : (w.cell? a).isSome = true) : ((w.setCell p u).cell? a).isSome = true := by
  by_cases e : p = a
  · subst e; rw [World.cell?_setCell_same' w p u h]; rfl
  · rw [World.cell?_setCell_other w p a u e]; exact h
theorem own_empty {W : World} {base B : Nat} (hb : base ≤ B) (h : W.heap[B]? = some (.cells #[] 62)) : W.ownsRow base 62 3 (.slice (some ⟨B, 0, none⟩) 0 0) 0 [] :=
  ⟨rfl, Or.inr ⟨B, 0, #[], rfl, hb, h, Nat.le_refl _, by unfold maxLen; omega, rfl, rfl⟩⟩
theorem clu_news {W : World} {n b0 : Nat} {C : List Clu} (h : KCl W (some ⟨b0, 0, none⟩) n C) : ∀ (j : Nat) (u : Value), (cluesV C)[j]? = some u → W.cell? ((⟨b0, 0, none⟩ : Addr).add j) = some u := by
  intro j u hj
  have hj3 : j < 3 * C.length := by
    have := (List.getElem?_eq_some_iff.1 hj).1
    rwa [cluesV_len] at this
  rw [cluesV_get C hj3] at hj
  injection hj with hj
  rw [← hj]
  have hl := h.1
  obtain ⟨b, off, hA, hcl⟩ := h.get (by omega)
  injection hA with hA
  injection hA with h1 h2
  subst h1 h2
  have := hcl.cell j (by omega)
  rw [show (⟨b0, 0, none⟩ : Addr).add j = ⟨b0, 0 + j, none⟩ from by unfold Addr.add; split <;> simp_all]
  exact this

theorem addL_len (m : Int) (C : List Clu) (x y z : Int) : (if addB m C (x, y, z) then C ++ [(x, y, z)] else []).length ≤ 1048576 := by
  split
  · rename_i h
    unfold addB at h
    rw [Bool.and_eq_true] at h
    have := puzB_le h.2
    omega
  · simp
end Go.Proofs.YtnldodnpakpeeaaGreat

namespace Go.Proofs.YtnldodnpakpeeaaGreat
open Go.RowKit Vo

theorem infoGm : (Tryz.prog.info? 57).map (fun i => (i.zero, i.size, i.bytes)) = some (some (.agg #[.int .i64 0, .slice none 0 0]), 2, 32) := by kernel_rfl
theorem ownsOtherX {w : World} {base : Nat} {e : TypeId} {size : Nat} {v : Value} {n : Nat} {xs : List Value} (h : w.ownsRow base e size v n xs) {p : Addr} (hp : ∀ g, v.ownBlock = some g → g ≠ p.block) (u : Value) : (w.setCell p u).ownsRow base e size v n xs := by
  obtain ⟨h1, h2⟩ := h
  refine ⟨h1, ?_⟩
  rcases h2 with h2 | ⟨g', cap', cur, hv, hg, hh, r⟩
  · exact Or.inl h2
  · exact Or.inr ⟨g', cap', cur, hv, hg, (Below.heap_setCell w p u g' (hp g' (by rw [hv]; rfl))).trans hh, r⟩
/-- Games by their codes, and what tells their lists. -/
abbrev GP := List (Nat × Value)
def gpV (n : Nat) (P : GP) : List Value := P.flatMap fun p => [.int .i64 n, p.2]
theorem gpV_snoc (n : Nat) (P : GP) (p : Nat × Value) : gpV n (P ++ [p]) = gpV n P ++ [.int .i64 n, p.2] := by simp [gpV]
theorem gpV_len (n : Nat) (P : GP) : (gpV n P).length = P.length * 2 := by
  induction P with
  | nil => rfl
  | cons p P ih => simp only [gpV, List.flatMap_cons, List.length_append, List.length_cons, List.length_nil] at ih ⊢; omega
/-- The lists of a game lie between two blocks, and the row of games lies elsewhere. -/
def GpAt (base n : Nat) (own : Option Nat) (w : World) (p : Nat × Value) : Prop :=
  ∃ lo hi A cp, base ≤ lo ∧ (∀ k, own = some k → k < lo ∨ hi ≤ k) ∧ p.2 = .slice A (leastC n p.1).length cp ∧ Lies (RSS0 (setsL (leastC n p.1)) lo hi p.2) lo hi w
theorem GpAt.grown {base n : Nat} {own own' : Option Nat} {w w' : World} {p : Nat × Value} (h : GpAt base n own w p) (hg : w.grownBy w' own) (hs : own' = own ∨ own' = some w.heap.size) : GpAt base n own' w' p := by
  obtain ⟨lo, hi, A, cp, hb, ha, hp, hl⟩ := h
  refine ⟨lo, hi, A, cp, hb, fun k hk => ?_, hp, Nat.le_trans hl.1 hg.size, fun W hW => hl.2 W fun k h1 h2 => (hW k h1 h2).trans (hg.block k (Nat.lt_of_lt_of_le h2 hl.1) fun e => ?_)⟩
  · rcases hs with rfl | rfl
    · exact ha k hk
    · injection hk with hk
      exact Or.inr (by rw [← hk]; exact hl.1)
  · rcases ha k e.symm with h | h <;> omega
/-- A list of games of the call's own. -/
def GL (base n : Nat) (P : GP) (v : Value) (w : World) : Prop :=
  w.ownsRow base 57 2 v P.length (gpV n P) ∧ ∀ p ∈ P, GpAt base n v.ownBlock w p
theorem GL.rows {base n pl : Nat} {P : GP} {v : Value} {w : World} (e : pl = P.length) (h : GL base n P v w) : w.ownsRow base 57 2 v pl (gpV n P) := by rw [e]; exact h.1
theorem GL.nil (base n : Nat) (w : World) : GL base n [] (.slice none 0 0) w := ⟨World.ownsRow_nil _ _ _ _, fun p h => by simp at h⟩
theorem GL.now {base n : Nat} {P : GP} {v : Value} {w w' : World} (h : GL base n P v w) (hb : Below w.heap.size w w') : GL base n P v w' :=
  ⟨owns_now h.1 hb, fun p hp => (h.2 p hp).grown (grown_below hb) (Or.inl rfl)⟩
theorem GL.set {base n : Nat} {P : GP} {v : Value} {w : World} (h : GL base n P v w) {a : Addr} (ha : a.block < base) (u : Value) : GL base n P v (w.setCell a u) := by
  refine ⟨ownsOtherX h.1 (fun g hg e => by have := (h.1.lt g hg).1; omega) u, fun p hp => ?_⟩
  obtain ⟨lo, hi, A, cp, hb, hx, hv, hl⟩ := h.2 p hp
  refine ⟨lo, hi, A, cp, hb, hx, hv, by simpa [World.setCell] using hl.1, fun W hW => hl.2 W fun k h1 h2 => (hW k h1 h2).trans (Below.heap_setCell _ _ _ _ (by omega))⟩
theorem GL.push {base n : Nat} {P : GP} {v : Value} {w w2 : World} {c : Nat} {x : Value} {B : Option Addr} {cp : Nat} (h : ∀ p ∈ P, GpAt base n v.ownBlock w p) (hx : GpAt base n v.ownBlock w (c, x))
    (hown : w2.ownsRow base 57 2 (.slice B (P.length + 1) cp) (P.length + 1) (gpV n P ++ [.int .i64 n, x])) (hgrow : w.grownBy w2 v.ownBlock) (hat : (Value.slice B (P.length + 1) cp).ownBlock = v.ownBlock ∨ (Value.slice B (P.length + 1) cp).ownBlock = some w.heap.size) :
    GL base n (P ++ [(c, x)]) (.slice B (P.length + 1) cp) w2 := by
  refine ⟨by rw [gpV_snoc, List.length_append]; exact hown, fun p hp => ?_⟩
  rcases List.mem_append.1 hp with hp | hp
  · exact (h p hp).grown hgrow hat
  · obtain rfl : p = (c, x) := by simpa using hp
    exact hx.grown hgrow hat
/-- Whether a code is that of a game that fits clues. -/
def okC (n : Nat) (C : List Clu) (c : Nat) : Bool := c.testBit (2^n - 1) && !c.testBit 0 && !anyU (fun q => !fitP (fun s => c.testBit s) n q) C C.length
/-- Whether a part of a set with one member less, out of the first j members, wins. -/
def mustB (c b : Nat) (M : List Int) : Nat → Bool
  | 0 => false
  | j+1 => mustB c b M j || c.testBit (b - 2^(M.getD j 0).toNat)
theorem mustB_take (c b : Nat) (M : List Int) : ∀ j, j ≤ M.length → mustB c b M j = (M.take j).any fun x => c.testBit (b - 2^x.toNat)
  | 0, _ => by simp [mustB]
  | j+1, h => by
    unfold mustB
    rw [mustB_take c b M j (by omega), List.take_add_one, List.any_append, List.getD_eq_getElem?_getD, List.getElem?_eq_getElem (by omega : j < M.length)]
    simp
theorem mustB_all (c b : Nat) : mustB c b (mem b 9) (mem b 9).length = (List.range 9).any fun i => b.testBit i && c.testBit (b - 2^i) := by
  rw [mustB_take c b _ _ (Nat.le_refl _), List.take_length, Bool.eq_iff_iff, List.any_eq_true, List.any_eq_true]
  constructor
  · rintro ⟨x, hx, h⟩
    obtain ⟨j, hj, rfl, ht⟩ := mem_iff.1 hx
    exact ⟨j, List.mem_range.2 hj, by rw [ht]; simpa using h⟩
  · rintro ⟨j, hj, h⟩
    rw [Bool.and_eq_true] at h
    exact ⟨(j : Int), mem_iff.2 ⟨j, List.mem_range.1 hj, rfl, h.1⟩, by simpa using h.2⟩
end Go.Proofs.YtnldodnpakpeeaaGreat
