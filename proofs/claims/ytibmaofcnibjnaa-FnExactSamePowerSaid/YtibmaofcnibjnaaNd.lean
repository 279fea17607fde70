/- Groups of a [][]int that grow. -/
import Derived.Test.YtibmaofcnibjnaaK4
import Derived.Test.YtibmaofcnibjnaaR7
import Derived.BigQuiet
import Derived.Deep.AppendLies
import Derived.Laws.OwnMore
import Derived.OneCell
import Derived.Outline
namespace Go.Proofs.Ytibmaofcnibjnaa
open Go.RowKit Vo

theorem owns_slice' {w : World} {base : Nat} {e : TypeId} {size : Nat} {v : Value} {n : Nat} {xs : List Value} (h : w.ownsRow base e size v n xs) : ∃ B cp, v = .slice B n cp := by
  rcases h.2 with ⟨hv, hn⟩ | ⟨g, cap, cur, hv, _⟩
  · exact ⟨none, 0, by rw [hv, hn]⟩
  · exact ⟨_, _, hv⟩
def GR (base : Nat) (K : List (List Int)) (v : Value) (w : World) : Prop :=
  ∃ xs : List Value, w.ownsRow base 22 1 v K.length xs ∧
    (∀ i, i < K.length → ∃ x, xs[i]? = some x ∧ w.ownsRow base 3 1 x (K.getD i []).length ((K.getD i []).map (Value.int .i64)) ∧ (x.ownBlock = none ∨ x.ownBlock ≠ v.ownBlock)) ∧
    (∀ (i j : Nat) (x y : Value), i < j → xs[i]? = some x → xs[j]? = some y → x.ownBlock = none ∨ x.ownBlock ≠ y.ownBlock)
theorem GR.nil (base : Nat) (w : World) : GR base [] (.slice none 0 0) w := ⟨[], World.ownsRow_nil _ _ _ _, fun i h => by simp at h, fun i j x y _ h => by simp at h⟩
theorem GR.now {base : Nat} {K : List (List Int)} {v : Value} {w w' : World} (h : GR base K v w) (hb : Below w.heap.size w w') : GR base K v w' := by
  obtain ⟨xs, ho, h1, h2⟩ := h
  refine ⟨xs, owns_now ho hb, fun i hi => ?_, h2⟩
  obtain ⟨x, hx, hr, hn⟩ := h1 i hi
  exact ⟨x, hx, owns_now hr hb, hn⟩
theorem getD_app_left {K : List (List Int)} {l : List Int} {i : Nat} (h : i < K.length) : (K ++ [l]).getD i [] = K.getD i [] := by
  rw [List.getD_eq_getElem?_getD, List.getElem?_append_left h, ← List.getD_eq_getElem?_getD]
theorem getD_app_last {K : List (List Int)} {l : List Int} : (K ++ [l]).getD K.length [] = l := by simp
/-- One more, a row of its own or none. -/
theorem GR.push {base : Nat} {K : List (List Int)} {l : List Int} {v x : Value} {w w3 w4 : World} {gg cap n : Nat} (h : GR base K v w) (hn : n = K.length) (hb3 : Below w.heap.size w w3)
    (hx : w3.ownsRow base 3 1 x l.length (l.map (Value.int .i64))) (hxn : x.ownBlock = none ∨ (∀ g, x.ownBlock = some g → w.heap.size ≤ g ∧ g < w3.heap.size))
    (xs : List Value) (hxs : w.ownsRow base 22 1 v n xs) (ho : w4.ownsRow base 22 1 (.slice (some ⟨gg, 0, none⟩) (n + 1) cap) (n + 1) (xs ++ [x])) (hg : w3.grownBy w4 v.ownBlock) (hat : v.ownBlock = some gg ∨ gg = w3.heap.size) :
    GR base (K ++ [l]) (.slice (some ⟨gg, 0, none⟩) (n + 1) cap) w4 := by
  subst hn
  obtain ⟨xs', ho', h1, h2⟩ := h
  have hxx : xs' = xs := owns_same ho' hxs
  subst hxx
  have xsl : xs'.length = K.length := by have := hxs.1; simpa using this
  have hz3 := hb3.size
  have hvl : ∀ k, v.ownBlock = some k → k < w.heap.size := fun k hk => owns_lt hxs hk
  have hnb : ∀ (y : Value), (y.ownBlock = none ∨ y.ownBlock ≠ v.ownBlock) → (∀ g, y.ownBlock = some g → g < w3.heap.size) → y.ownBlock = none ∨ y.ownBlock ≠ (Value.slice (some ⟨gg, 0, none⟩) (K.length + 1) cap).ownBlock := fun y hy hl => by
    rcases hy with hy | hy
    · exact Or.inl hy
    · refine Or.inr fun e => ?_
      have e2 : y.ownBlock = some gg := e
      rcases hat with ha | ha
      · exact hy (by rw [e2, ha])
      · have := hl gg e2; omega
  have hxv : x.ownBlock = none ∨ x.ownBlock ≠ v.ownBlock := by
    rcases hxn with h | h
    · exact Or.inl h
    · cases e : x.ownBlock with
      | none => exact Or.inl rfl
      | some g =>
        refine Or.inr fun e2 => ?_
        have h3 := (h g e).1
        have h4 := hvl g e2.symm
        omega
  refine ⟨xs' ++ [x], by simpa using ho, fun i hi => ?_, fun i j a b hij ha hb => ?_⟩
  · simp only [List.length_append, List.length_cons, List.length_nil] at hi
    by_cases e : i = K.length
    · subst e
      rw [getD_app_last]
      refine ⟨x, by rw [List.getElem?_append_right (by omega), xsl]; simp, hx.kept hg hxv, hnb x hxv fun g hgx => owns_lt hx hgx⟩
    · have hi' : i < K.length := by omega
      obtain ⟨y, hy, hr, hn⟩ := h1 i hi'
      rw [getD_app_left hi']
      have hr3 := owns_now hr hb3
      exact ⟨y, by rw [List.getElem?_append_left (by omega)]; exact hy, hr3.kept hg hn, hnb y hn fun g hgy => owns_lt hr3 hgy⟩
  · rcases Nat.lt_or_ge j xs'.length with hj | hj
    · rw [List.getElem?_append_left (by omega)] at ha
      rw [List.getElem?_append_left hj] at hb
      exact h2 i j a b hij ha hb
    · have hj2 : j = xs'.length := by
        rcases Nat.lt_or_ge j (xs'.length + 1) with h | h
        · omega
        · rw [List.getElem?_eq_none (by simp; omega)] at hb; cases hb
      subst hj2
      rw [List.getElem?_append_left hij] at ha
      rw [List.getElem?_append_right (by omega)] at hb
      simp at hb
      subst hb
      obtain ⟨y, hy, hr, _⟩ := h1 i (by omega)
      rw [ha] at hy
      injection hy with hy
      subst hy
      cases e : a.ownBlock with
      | none => exact Or.inl rfl
      | some g =>
        refine Or.inr fun e2 => ?_
        rcases hxn with h | h
        · rw [h] at e2; cases e2
        · have h3 := (h g e2.symm).1
          have h4 := owns_lt hr e
          omega
/-- The last one, one longer. -/
theorem GR.last {base : Nat} {K : List (List Int)} {l : List Int} {k : Int} {v x : Value} {w w3 w4 : World} {gv gg cap cv n : Nat} (h : GR base (K ++ [l]) v w) (hv : v = .slice (some ⟨gv, 0, none⟩) n cv) (hn : n = K.length + 1) (hb3 : Below w.heap.size w w3)
    (hx : w.cell? ⟨gv, K.length, none⟩ = some x) (ho : w4.ownsRow base 3 1 (.slice (some ⟨gg, 0, none⟩) (l.length + 1) cap) (l.length + 1) (l.map (Value.int .i64) ++ [.int .i64 k])) (hg : w3.grownBy w4 x.ownBlock) (hat : x.ownBlock = some gg ∨ gg = w3.heap.size) :
    GR base (K ++ [l ++ [k]]) v (w4.setCell ⟨gv, K.length, none⟩ (.slice (some ⟨gg, 0, none⟩) (l.length + 1) cap)) := by
  subst hv
  subst hn
  obtain ⟨xs, hos, h1, h2⟩ := h
  have hlen : (K ++ [l]).length = K.length + 1 := by simp
  rw [hlen] at hos h1
  have hos : w.ownsRow base 22 1 (.slice (some ⟨gv, 0, none⟩) (K.length + 1) cv) (K.length + 1) xs := hos
  have hz3 := hb3.size
  have xsl : xs.length = K.length + 1 := by have := hos.1; simpa using this
  have hcx : xs[K.length]? = some x := by rw [← hos.cellAt K.length (by omega)]; exact hx
  have hgvl : gv < w.heap.size := owns_lt hos rfl
  obtain ⟨x', hx', hrx, hxv⟩ := h1 K.length (by omega)
  rw [hcx] at hx'
  injection hx' with hx'
  subst hx'
  rw [getD_app_last] at hrx
  have hvx : (Value.slice (some ⟨gv, 0, none⟩) (K.length + 1) cv).ownBlock = none ∨ (Value.slice (some ⟨gv, 0, none⟩) (K.length + 1) cv).ownBlock ≠ x.ownBlock := by
    rcases hxv with e | e
    · exact Or.inr (by rw [e]; simp [Value.ownBlock])
    · exact Or.inr (Ne.symm e)
  have ho4 := (owns_now hos hb3).kept hg hvx
  have hst := (ho4.stored K.length (.slice (some ⟨gg, 0, none⟩) (l.length + 1) cap)).1
  have hggv : gg ≠ gv := by
    rcases hat with ha | ha
    · rcases hxv with e | e
      · rw [e] at ha; cases ha
      · intro e2; exact e (by rw [ha, e2]; rfl)
    · omega
  refine ⟨xs.set K.length (.slice (some ⟨gg, 0, none⟩) (l.length + 1) cap), by simpa using hst, fun i hi => ?_, fun i j a b hij ha hb => ?_⟩
  · simp only [List.length_append, List.length_cons, List.length_nil] at hi
    by_cases e : i = K.length
    · subst e
      rw [getD_app_last]
      refine ⟨_, by rw [List.getElem?_set_self (by omega)], ?_, Or.inr ?_⟩
      · have := ownsRow_setCell_other ho (a := ⟨gv, K.length, none⟩) (by simp [Value.ownBlock]; exact hggv) (.slice (some ⟨gg, 0, none⟩) (l.length + 1) cap)
        simpa using this
      · simp [Value.ownBlock]; exact hggv
    · have hi' : i < K.length := by omega
      obtain ⟨y, hy, hr, hn⟩ := h1 i (by omega)
      rw [getD_app_left hi'] at hr
      rw [getD_app_left hi']
      have hyx : y.ownBlock = none ∨ y.ownBlock ≠ x.ownBlock := h2 i K.length y x hi' hy hcx
      refine ⟨y, by rw [List.getElem?_set_ne (by omega)]; exact hy, ?_, hn⟩
      refine ownsRow_setCell_other ((owns_now hr hb3).kept hg hyx) (a := ⟨gv, K.length, none⟩) ?_ _
      rcases hn with e2 | e2
      · rw [e2]; simp
      · exact e2
  · have key : ∀ y z, y < K.length → xs[y]? = some z → z.ownBlock = none ∨ z.ownBlock ≠ some gg := fun y z hy hz => by
      obtain ⟨z', hz', hr, _⟩ := h1 y (by omega)
      rw [hz] at hz'
      injection hz' with hz'
      subst hz'
      rcases h2 y K.length z x hy hz hcx with e | e
      · exact Or.inl e
      · rcases hat with ha' | ha'
        · exact Or.inr (by rw [← ha']; exact e)
        · refine Or.inr fun e2 => ?_
          have := owns_lt hr e2
          omega
    have hjl : j < K.length + 1 := by
      rcases Nat.lt_or_ge j (K.length + 1) with h | h
      · exact h
      · rw [List.getElem?_eq_none (by simp; omega)] at hb; cases hb
    rw [List.getElem?_set_ne (by omega)] at ha
    by_cases e : j = K.length
    · subst e
      rw [List.getElem?_set_self (by omega)] at hb
      injection hb with hb
      subst hb
      exact key i a hij ha
    · rw [List.getElem?_set_ne (by omega)] at hb
      exact h2 i j a b hij ha hb
theorem GR.rss {base : Nat} {K : List (List Int)} {v : Value} {w : World} (h : GR base K v w) (hv : ∃ A cap, v = .slice A K.length cap) : RSS K base w.heap.size v w := by
  obtain ⟨xs, ho, h1, h2⟩ := h
  obtain ⟨A, cap, rfl⟩ := hv
  refine ⟨A, cap, rfl, ?_⟩
  by_cases hn : K.length = 0
  · exact Or.inl hn
  · obtain ⟨g, cap', hv, hg, _, _⟩ := owns_head ho (by omega)
    injection hv with hA _ hc
    subst hA
    have hgl : g < w.heap.size := owns_lt ho rfl
    refine Or.inr ⟨g, fun i => xs.getD i default, rfl, hg, hgl, Own.of_own ho fun i hi => ?_, fun i => ((xs.getD i default).ownBlock).getD 0, fun i hi => ?_⟩
    · obtain ⟨x, hx, _⟩ := h1 i hi
      rw [hx, List.getD_eq_getElem?_getD, hx]; rfl
    · obtain ⟨x, hx, hr, hb⟩ := h1 i hi
      have hxe : xs.getD i default = x := by rw [List.getD_eq_getElem?_getD, hx]; rfl
      simp only [hxe]
      by_cases hl : (K.getD i []).length = 0
      · refine ⟨?_, Or.inl hl⟩
        obtain ⟨B, c, rfl⟩ := owns_slice' hr
        exact ⟨B, c, rfl, Or.inl hl⟩
      · obtain ⟨gx, cx, hxv, hgx, _, _⟩ := owns_head hr (by omega)
        subst hxv
        have hgxl : gx < w.heap.size := owns_lt hr rfl
        refine ⟨⟨_, cx, rfl, Or.inr ⟨gx, rfl, Nat.le_refl _, Nat.lt_succ_self _, Own.of_own hr fun j hj => ?_⟩⟩, Or.inr ⟨hgx, hgxl, ?_, fun j hj => ?_⟩⟩
        · have h9 := hj
          revert h9
          generalize K.getD i [] = row
          intro h9
          simp [List.getD_eq_getElem?_getD, h9]
        · rcases hb with e | e
          · cases e
          · exact fun e2 => e (by show some gx = some g; rw [show gx = g from e2])
        · obtain ⟨y, hy, hry, _⟩ := h1 j (by omega)
          have hye : xs.getD j default = y := by rw [List.getD_eq_getElem?_getD, hy]; rfl
          simp only [hye]
          by_cases hl2 : (K.getD j []).length = 0
          · exact Or.inl hl2
          · obtain ⟨gy, cy, hyv, _, _, _⟩ := owns_head hry (by omega)
            subst hyv
            rcases h2 j i _ _ hj hy hx with e | e
            · cases e
            · exact Or.inr fun e2 => e (by show some gy = some gx; rw [show gy = gx from e2])

end Go.Proofs.Ytibmaofcnibjnaa
