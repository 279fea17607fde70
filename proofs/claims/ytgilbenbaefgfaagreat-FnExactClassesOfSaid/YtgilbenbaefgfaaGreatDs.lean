/- ClassesOf, the model's. -/
import Derived.Test.YtgilbenbaefgfaaGreatDk
import Derived.Test.YtgilbenbaefgfaaGreatDi
import Derived.BigQuiet
import Derived.Deep.AppendLies
import Derived.Laws.OwnMore
import Derived.OneCell
import Derived.Outline
import Derived.Test.YtgilbenbaefgfaaGreatDg
import Derived.Test.YtgilbenbaefgfaaGreatK4
import Derived.Test.YtgilbenbaefgfaaGreatR7
namespace Go.Proofs.YtgilbenbaefgfaaGreat
open Go.RowKit Vo


theorem owns_slice' {w : World} {base : Nat} {e : TypeId} {size : Nat} {v : Value} {n : Nat} {xs : List Value} (h : w.ownsRow base e size v n xs) : ∃ B cp, v = .slice B n cp := by
  rcases h.2 with ⟨hv, hn⟩ | ⟨g, cap, cur, hv, _⟩
  · exact ⟨none, 0, by rw [hv, hn]⟩
  · exact ⟨_, _, hv⟩
def GR (base : Nat) (K : List (List Int)) (v : Value) (w : World) : Prop :=
  ∃ xs : List Value, w.ownsRow base 35 1 v K.length xs ∧
    (∀ i, i < K.length → ∃ x, xs[i]? = some x ∧ w.ownsRow base 3 1 x (K.getD i []).length ((K.getD i []).map (Value.int .i64)) ∧ (x.ownBlock = none ∨ x.ownBlock ≠ v.ownBlock)) ∧
    (∀ (i j : Nat) (x y : Value), i < j → xs[i]? = some x → xs[j]? = some y → x.ownBlock = none ∨ x.ownBlock ≠ y.ownBlock)
theorem GR.nil (base : Nat) (w : World) : GR base [] (.slice none 0 0) w := ⟨[], World.ownsRow_nil _ _ _ _, fun i h => by simp at h, fun i j x y _ h => by simp at h⟩
theorem GR.now {base : Nat} {K : List (List Int)} {v : Value} {w w' : World} (h : GR base K v w) (hb : Below w.heap.size w w') : GR base K v w' := by
  obtain ⟨xs, ho, h1, h2⟩ := h
  refine ⟨xs, owns_now ho hb, fun i hi => ?_, h2⟩
  obtain ⟨x, hx, hr, hn⟩ := h1 i hi
  exact ⟨x, hx, owns_now hr hb, hn⟩
theorem getD_app_left {K : List (List Int)} {l : List Int} {i : Nat} (h : i < K.length) : (K ++ [l]).getD i [] = K.getD i [] := by
  rw [List.getD_eq_getElem?_getD, List.getElem?_append_left h, ← List.getD_eq_getElem?_getD]
theorem getD_app_last {K : List (List Int)} {l : List Int} : (K ++ [l]).getD K.length [] = l := by simp
/-- One more, a row of its own or none. -/
theorem GR.push {base : Nat} {K : List (List Int)} {l : List Int} {v x : Value} {w w3 w4 : World} {gg cap n : Nat} (h : GR base K v w) (hn : n = K.length) (hb3 : Below w.heap.size w w3)
    (hx : w3.ownsRow base 3 1 x l.length (l.map (Value.int .i64))) (hxn : x.ownBlock = none ∨ (∀ g, x.ownBlock = some g → w.heap.size ≤ g ∧ g < w3.heap.size))
    (xs : List Value) (hxs : w.ownsRow base 35 1 v n xs) (ho : w4.ownsRow base 35 1 (.slice (some ⟨gg, 0, none⟩) (n + 1) cap) (n + 1) (xs ++ [x])) (hg : w3.grownBy w4 v.ownBlock) (hat : v.ownBlock = some gg ∨ gg = w3.heap.size) :
    GR base (K ++ [l]) (.slice (some ⟨gg, 0, none⟩) (n + 1) cap) w4 := by
  subst hn
  obtain ⟨xs', ho', h1, h2⟩ := h
  have hxx : xs' = xs := owns_same ho' hxs
  subst hxx
  have xsl : xs'.length = K.length := by have := hxs.1; simpa using this
  have hz3 := hb3.size
  have hvl : ∀ k, v.ownBlock = some k → k < w.heap.size := fun k hk => owns_lt hxs hk
  have hnb : ∀ (y : Value), (y.ownBlock = none ∨ y.ownBlock ≠ v.ownBlock) → (∀ g, y.ownBlock = some g → g < w3.heap.size) → y.ownBlock = none ∨ y.ownBlock ≠ (Value.slice (some ⟨gg, 0, none⟩) (K.length + 1) cap).ownBlock := fun y hy hl => by
    rcases hy with hy | hy
    · exact Or.inl hy
    · refine Or.inr fun e => ?_
      have e2 : y.ownBlock = some gg := e
      rcases hat with ha | ha
      · exact hy (by rw [e2, ha])
      · have := hl gg e2; omega
  have hxv : x.ownBlock = none ∨ x.ownBlock ≠ v.ownBlock := by
    rcases hxn with h | h
    · exact Or.inl h
    · cases e : x.ownBlock with
      | none => exact Or.inl rfl
      | some g =>
        refine Or.inr fun e2 => ?_
        have h3 := (h g e).1
        have h4 := hvl g e2.symm
        omega
  refine ⟨xs' ++ [x], by simpa using ho, fun i hi => ?_, fun i j a b hij ha hb => ?_⟩
  · simp only [List.length_append, List.length_cons, List.length_nil] at hi
    by_cases e : i = K.length
    · subst e
      rw [getD_app_last]
      refine ⟨x, by rw [List.getElem?_append_right (by omega), xsl]; simp, hx.kept hg hxv, hnb x hxv fun g hgx => owns_lt hx hgx⟩
    · have hi' : i < K.length := by omega
      obtain ⟨y, hy, hr, hn⟩ := h1 i hi'
      rw [getD_app_left hi']
      have hr3 := owns_now hr hb3
      exact ⟨y, by rw [List.getElem?_append_left (by omega)]; exact hy, hr3.kept hg hn, hnb y hn fun g hgy => owns_lt hr3 hgy⟩
  · rcases Nat.lt_or_ge j xs'.length with hj | hj
    · rw [List.getElem?_append_left (by omega)] at ha
      rw [List.getElem?_append_left hj] at hb
      exact h2 i j a b hij ha hb
    · have hj2 : j = xs'.length := by
        rcases Nat.lt_or_ge j (xs'.length + 1) with h | h
        · omega
        · rw [List.getElem?_eq_none (by simp; omega)] at hb; cases hb
      subst hj2
      rw [List.getElem?_append_left hij] at ha
      rw [List.getElem?_append_right (by omega)] at hb
      simp at hb
      subst hb
      obtain ⟨y, hy, hr, _⟩ := h1 i (by omega)
      rw [ha] at hy
      injection hy with hy
      subst hy
      cases e : a.ownBlock with
      | none => exact Or.inl rfl
      | some g =>
        refine Or.inr fun e2 => ?_
        rcases hxn with h | h
        · rw [h] at e2; cases e2
        · have h3 := (h g e2.symm).1
          have h4 := owns_lt hr e
          omega
/-- The last one, one longer. -/
theorem GR.last {base : Nat} {K : List (List Int)} {l : List Int} {k : Int} {v x : Value} {w w3 w4 : World} {gv gg cap cv n : Nat} (h : GR base (K ++ [l]) v w) (hv : v = .slice (some ⟨gv, 0, none⟩) n cv) (hn : n = K.length + 1) (hb3 : Below w.heap.size w w3)
    (hx : w.cell? ⟨gv, K.length, none⟩ = some x) (ho : w4.ownsRow base 3 1 (.slice (some ⟨gg, 0, none⟩) (l.length + 1) cap) (l.length + 1) (l.map (Value.int .i64) ++ [.int .i64 k])) (hg : w3.grownBy w4 x.ownBlock) (hat : x.ownBlock = some gg ∨ gg = w3.heap.size) :
    GR base (K ++ [l ++ [k]]) v (w4.setCell ⟨gv, K.length, none⟩ (.slice (some ⟨gg, 0, none⟩) (l.length + 1) cap)) := by
  subst hv
  subst hn
  obtain ⟨xs, hos, h1, h2⟩ := h
  have hlen : (K ++ [l]).length = K.length + 1 := by simp
  rw [hlen] at hos h1
  have hos : w.ownsRow base 35 1 (.slice (some ⟨gv, 0, none⟩) (K.length + 1) cv) (K.length + 1) xs := hos
  have hz3 := hb3.size
  have xsl : xs.length = K.length + 1 := by have := hos.1; simpa using this
  have hcx : xs[K.length]? = some x := by rw [← hos.cellAt K.length (by omega)]; exact hx
  have hgvl : gv < w.heap.size := owns_lt hos rfl
  obtain ⟨x', hx', hrx, hxv⟩ := h1 K.length (by omega)
  rw [hcx] at hx'
  injection hx' with hx'
  subst hx'
  rw [getD_app_last] at hrx
  have hvx : (Value.slice (some ⟨gv, 0, none⟩) (K.length + 1) cv).ownBlock = none ∨ (Value.slice (some ⟨gv, 0, none⟩) (K.length + 1) cv).ownBlock ≠ x.ownBlock := by
    rcases hxv with e | e
    · exact Or.inr (by rw [e]; simp [Value.ownBlock])
    · exact Or.inr (Ne.symm e)
  have ho4 := (owns_now hos hb3).kept hg hvx
  have hst := (ho4.stored K.length (.slice (some ⟨gg, 0, none⟩) (l.length + 1) cap)).1
  have hggv : gg ≠ gv := by
    rcases hat with ha | ha
    · rcases hxv with e | e
      · rw [e] at ha; cases ha
      · intro e2; exact e (by rw [ha, e2]; rfl)
    · omega
  refine ⟨xs.set K.length (.slice (some ⟨gg, 0, none⟩) (l.length + 1) cap), by simpa using hst, fun i hi => ?_, fun i j a b hij ha hb => ?_⟩
  · simp only [List.length_append, List.length_cons, List.length_nil] at hi
    by_cases e : i = K.length
    · subst e
      rw [getD_app_last]
      refine ⟨_, by rw [List.getElem?_set_self (by omega)], ?_, Or.inr ?_⟩
      · have := ownsRow_setCell_other ho (a := ⟨gv, K.length, none⟩) (by simp [Value.ownBlock]; exact hggv) (.slice (some ⟨gg, 0, none⟩) (l.length + 1) cap)
        simpa using this
      · simp [Value.ownBlock]; exact hggv
    · have hi' : i < K.length := by omega
      obtain ⟨y, hy, hr, hn⟩ := h1 i (by omega)
      rw [getD_app_left hi'] at hr
      rw [getD_app_left hi']
      have hyx : y.ownBlock = none ∨ y.ownBlock ≠ x.ownBlock := h2 i K.length y x hi' hy hcx
      refine ⟨y, by rw [List.getElem?_set_ne (by omega)]; exact hy, ?_, hn⟩
      refine ownsRow_setCell_other ((owns_now hr hb3).kept hg hyx) (a := ⟨gv, K.length, none⟩) ?_ _
      rcases hn with e2 | e2
      · rw [e2]; simp
      · exact e2
  · have key : ∀ y z, y < K.length → xs[y]? = some z → z.ownBlock = none ∨ z.ownBlock ≠ some gg := fun y z hy hz => by
      obtain ⟨z', hz', hr, _⟩ := h1 y (by omega)
      rw [hz] at hz'
      injection hz' with hz'
      subst hz'
      rcases h2 y K.length z x hy hz hcx with e | e
      · exact Or.inl e
      · rcases hat with ha' | ha'
        · exact Or.inr (by rw [← ha']; exact e)
        · refine Or.inr fun e2 => ?_
          have := owns_lt hr e2
          omega
    have hjl : j < K.length + 1 := by
      rcases Nat.lt_or_ge j (K.length + 1) with h | h
      · exact h
      · rw [List.getElem?_eq_none (by simp; omega)] at hb; cases hb
    rw [List.getElem?_set_ne (by omega)] at ha
    by_cases e : j = K.length
    · subst e
      rw [List.getElem?_set_self (by omega)] at hb
      injection hb with hb
      subst hb
      exact key i a hij ha
    · rw [List.getElem?_set_ne (by omega)] at hb
      exact h2 i j a b hij ha hb
theorem GR.rss {base : Nat} {K : List (List Int)} {v : Value} {w : World} (h : GR base K v w) (hv : ∃ A cap, v = .slice A K.length cap) : RSS K base w.heap.size v w := by
  obtain ⟨xs, ho, h1, h2⟩ := h
  obtain ⟨A, cap, rfl⟩ := hv
  refine ⟨A, cap, rfl, ?_⟩
  by_cases hn : K.length = 0
  · exact Or.inl hn
  · obtain ⟨g, cap', hv, hg, _, _⟩ := owns_head ho (by omega)
    injection hv with hA _ hc
    subst hA
    have hgl : g < w.heap.size := owns_lt ho rfl
    refine Or.inr ⟨g, fun i => xs.getD i default, rfl, hg, hgl, Own.of_own ho fun i hi => ?_, fun i => ((xs.getD i default).ownBlock).getD 0, fun i hi => ?_⟩
    · obtain ⟨x, hx, _⟩ := h1 i hi
      rw [hx, List.getD_eq_getElem?_getD, hx]; rfl
    · obtain ⟨x, hx, hr, hb⟩ := h1 i hi
      have hxe : xs.getD i default = x := by rw [List.getD_eq_getElem?_getD, hx]; rfl
      simp only [hxe]
      by_cases hl : (K.getD i []).length = 0
      · refine ⟨?_, Or.inl hl⟩
        obtain ⟨B, c, rfl⟩ := owns_slice' hr
        exact ⟨B, c, rfl, Or.inl hl⟩
      · obtain ⟨gx, cx, hxv, hgx, _, _⟩ := owns_head hr (by omega)
        subst hxv
        have hgxl : gx < w.heap.size := owns_lt hr rfl
        refine ⟨⟨_, cx, rfl, Or.inr ⟨gx, rfl, Nat.le_refl _, Nat.lt_succ_self _, Own.of_own hr fun j hj => ?_⟩⟩, Or.inr ⟨hgx, hgxl, ?_, fun j hj => ?_⟩⟩
        · have h9 := hj
          revert h9
          generalize K.getD i [] = row
          intro h9
          simp [List.getD_eq_getElem?_getD, h9]
        · rcases hb with e | e
          · cases e
          · exact fun e2 => e (by show some gx = some g; rw [show gx = g from e2])
        · obtain ⟨y, hy, hry, _⟩ := h1 j (by omega)
          have hye : xs.getD j default = y := by rw [List.getD_eq_getElem?_getD, hy]; rfl
          simp only [hye]
          by_cases hl2 : (K.getD j []).length = 0
          · exact Or.inl hl2
          · obtain ⟨gy, cy, hyv, _, _, _⟩ := owns_head hry (by omega)
            subst hyv
            rcases h2 j i _ _ hj hy hx with e | e
            · cases e
            · exact Or.inr fun e2 => e (by show some gy = some gx; rw [show gy = gx from e2])

/-- The last one, one longer. -/
def addL (K : List (List Int)) (x : Int) : List (List Int) := K.dropLast ++ [(K.getLast?.getD []) ++ [x]]
theorem addL_app (K : List (List Int)) (l : List Int) (x : Int) : addL (K ++ [l]) x = K ++ [l ++ [x]] := by unfold addL; simp
theorem app_last {K : List (List Int)} (h : 0 < K.length) : ∃ K0 l, K = K0 ++ [l] := by
  have hne : K ≠ [] := by intro e; rw [e] at h; simp at h
  exact ⟨K.dropLast, K.getLast hne, (List.dropLast_concat_getLast hne).symm⟩
/-- The groups of the first t ones: g tells where a new one begins. -/
def clsL (g : Nat → Bool) (o : Nat → Nat) : Nat → List (List Int)
  | 0 => []
  | t+1 => if g t then clsL g o t ++ [[(o t : Int)]] else addL (clsL g o t) (o t : Int)
theorem clsL_pos {g : Nat → Bool} {o : Nat → Nat} (h : g 0 = true) (t : Nat) : 0 < (clsL g o (t+1)).length := by
  induction t with
  | zero => simp [clsL, h]
  | succ t ih =>
    rw [show clsL g o (t+1+1) = if g (t+1) then clsL g o (t+1) ++ [[(o (t+1) : Int)]] else addL (clsL g o (t+1)) (o (t+1) : Int) from rfl]
    split
    · simp
    · unfold addL; simp
theorem totG_app (K : List (List Int)) (l : List Int) : tot (K ++ [l]) = tot K + l.length := by
  have h : ∀ k, k ≤ K.length → totK (K ++ [l]) k = totK K k := fun k => by
    induction k with
    | zero => intro _; rfl
    | succ k ih => intro hk; simp only [totK]; rw [ih (by omega), getD_app_left (by omega)]
  unfold tot
  rw [List.length_append, List.length_singleton]
  simp only [totK]
  rw [h _ (Nat.le_refl _), getD_app_last]
theorem clsL_small (g : Nat → Bool) (o : Nat → Nat) (h : g 0 = true) (t : Nat) : tot (clsL g o t) = t ∧ (clsL g o t).length ≤ t := by
  induction t with
  | zero => exact ⟨rfl, Nat.le_refl _⟩
  | succ t ih =>
    by_cases hg : g t = true
    · rw [show clsL g o (t+1) = clsL g o t ++ [[(o t : Int)]] from by simp only [clsL]; rw [if_pos hg], totG_app, List.length_append]
      simp only [List.length_singleton]
      omega
    · have ht : t ≠ 0 := fun e => hg (by rw [e]; exact h)
      obtain ⟨s, rfl⟩ : ∃ s, t = s + 1 := ⟨t - 1, by omega⟩
      obtain ⟨K0, l, e⟩ := app_last (clsL_pos (o := o) h s)
      have e2 : clsL g o (s+1+1) = K0 ++ [l ++ [(o (s+1) : Int)]] := by
        rw [show clsL g o (s+1+1) = addL (clsL g o (s+1)) (o (s+1) : Int) from by rw [show clsL g o (s+1+1) = if g (s+1) then clsL g o (s+1) ++ [[(o (s+1) : Int)]] else addL (clsL g o (s+1)) (o (s+1) : Int) from rfl, if_neg hg], e, addL_app]
      rw [e] at ih
      rw [e2, totG_app, List.length_append, List.length_append]
      rw [totG_app, List.length_append] at ih
      simp only [List.length_singleton] at ih ⊢
      omega

theorem posK_stop {g : Nat → Bool} : ∀ {k : Nat}, 0 < posK g k → g (posK g k - 1) = false
  | 0, h => by simp [posK] at h
  | k+1, h => by
    simp only [posK] at h ⊢
    split
    · rename_i hg; rw [if_pos hg] at h; exact posK_stop h
    · rename_i hg; simpa using hg
theorem posK_more {g : Nat → Bool} : ∀ {k t : Nat}, posK g k ≤ t → t < k → g t = true
  | 0, t, _, h => by omega
  | k+1, t, h1, h2 => by
    simp only [posK] at h1
    by_cases hg : g k = true
    · rw [if_pos hg] at h1
      by_cases e : t = k
      · rw [e]; exact hg
      · exact posK_more h1 (by omega)
    · rw [if_neg hg] at h1; omega
/-- In the order of worth each one is worth the next. -/
theorem ordL_sorted {f : Nat → Nat → Bool} {n : Nat} (hc : compB f n = true) : ∀ i, i ≤ n → ∀ t, t + 1 < i → f ((ordL (grK f) i).getD t 0) ((ordL (grK f) i).getD (t+1) 0) = true := by
  intro i
  induction i with
  | zero => intro _ t h; omega
  | succ i ih =>
    intro hi t ht
    have ihh := ih (by omega)
    have hlt := ordL_lt (grK f) i
    have hlen := ordL_len (grK f) i
    have hat : ∀ t, t < i + 1 → (ordL (grK f) (i+1)).getD t 0 = dV (ordL (grK f) i) i (posK (fun t => grK f i ((ordL (grK f) i).getD t 0)) i) t := fun t h => by
      rw [dV_end]; unfold outV; rw [if_pos h]
    rw [hat t (by omega), hat (t+1) ht]
    have hst := posK_stop (g := fun t => grK f i ((ordL (grK f) i).getD t 0)) (k := i)
    have hmo := fun t => posK_more (g := fun t => grK f i ((ordL (grK f) i).getD t 0)) (k := i) (t := t)
    have hpl := posK_le (fun t => grK f i ((ordL (grK f) i).getD t 0)) i
    generalize posK (fun t => grK f i ((ordL (grK f) i).getD t 0)) i = p at *
    generalize ordL (grK f) i = L at *
    have hL : ∀ s, s < i → L.getD s 0 < i := fun s h => hlt _ (getD_mem (by omega))
    unfold dV
    by_cases h1 : t + 1 < p
    · rw [if_pos (by omega), if_pos h1]; exact ihh t (by omega)
    · by_cases h2 : t + 1 = p
      · rw [if_pos (by omega), if_neg (by omega), if_pos h2]
        have h3 := hst (by omega)
        rw [← h2, Nat.add_sub_cancel] at h3
        have h4 := hL t (by omega)
        have h5 := compB_all hc (L.getD t 0) i (by omega) (by omega) (by omega)
        unfold grK at h3
        cases e : f (L.getD t 0) i
        · rw [e] at h3 h5
          simp at h3 h5
          rw [h5] at h3; cases h3
        · rfl
      · by_cases h3 : t = p
        · rw [if_neg (by omega), if_pos h3, if_neg (by omega), if_neg (by omega), if_pos (by omega), Nat.add_sub_cancel]
          have h4 := hmo t (by omega) (by omega)
          unfold grK at h4
          simp at h4
          exact h4.1
        · rw [if_neg (by omega), if_neg h3, if_pos (by omega), if_neg (by omega), if_neg (by omega), if_pos (by omega)]
          have := ihh (t-1) (by omega)
          rw [show t - 1 + 1 = t + 1 - 1 by omega] at this
          exact this
theorem selK_congr {f g : Nat → Bool} {n : Nat} (h : ∀ j, j < n → f j = g j) : selK f n = selK g n := by
  induction n with
  | zero => rfl
  | succ n ih => simp only [selK]; rw [ih (fun j hj => h j (by omega)), h n (by omega)]
/-- Of two one after the other: the later one's row is another one exactly if it is less. -/
theorem row_differs {f : Nat → Nat → Bool} {n a b : Nat} (hd : Desire f n) (ha : a < n) (hb : b < n) (h : f a b = true) : decide (selK (f b) n ≠ selK (f a) n) = grK f a b := by
  unfold grK
  rw [h, Bool.true_and]
  cases e : f b a
  · refine decide_eq_true fun e2 => ?_
    have h1 : (selK (f b) n).testBit a = (selK (f a) n).testBit a := by rw [e2]
    rw [selK_bit, selK_bit, e, hd.refl a, decide_eq_true ha] at h1
    cases h1
  · refine decide_eq_false fun h2 => h2 (selK_congr fun j hj => ?_)
    cases e1 : f b j
    · cases e3 : f a j
      · rfl
      · rw [hd.trans b a j hb ha hj e e3] at e1; cases e1
    · rw [hd.trans a b j ha hb hj h e1]
end Go.Proofs.YtgilbenbaefgfaaGreat

namespace Go.Proofs.YtgilbenbaefgfaaGreat
open Go.RowKit Vo

/-- Where a new group begins. -/
def newG (f : Nat → Nat → Bool) (n t : Nat) : Bool := if t = 0 then true else grK f ((ordL (grK f) n).getD (t-1) 0) ((ordL (grK f) n).getD t 0)
def ordO (f : Nat → Nat → Bool) (n t : Nat) : Nat := (ordL (grK f) n).getD t 0
def clsG (f : Nat → Nat → Bool) (n : Nat) : List (List Int) := clsL (newG f n) (ordO f n) n
theorem grown_none {w w' : World} {g : Option Nat} (h : w.grownBy w' g) (hn : g = none) : Below w.heap.size w w' := ⟨h.os, h.tape, h.output, h.size, fun k hk => h.block k hk (by rw [hn]; simp)⟩

theorem GR_less {base base' : Nat} {K : List (List Int)} {v : Value} {w : World} (h : GR base K v w) (hb : base' ≤ base) : GR base' K v w := by
  obtain ⟨xs, ho, h1, h2⟩ := h
  refine ⟨xs, owns_less ho hb, fun i hi => ?_, h2⟩
  obtain ⟨x, hx, hr, hn⟩ := h1 i hi
  exact ⟨x, hx, owns_less hr hb, hn⟩
set_option maxRecDepth 20000 in
set_option maxHeartbeats 16000000 in
theorem tClasses_any (f : Nat → Nat → Bool) (n g cp : Nat) (w : World) (hn : n ≤ 9) (hn1 : 1 ≤ n) (hd : Desire f n) (hc : compB f n = true) (ho : Own w g 68 n (fun t => .int .u64 (selK (f t) n : Nat))) :
    Calls Tryz.prog 30 #[.slice (some ⟨g, 0, none⟩) n cp] w fun e w' => ∃ B cpb, e = .returned (.slice B (clsG f n).length cpb) ∧ GR w.heap.size (clsG f n) (.slice B (clsG f n).length cpb) w' ∧ Below w.heap.size w w' := by
  obtain ⟨i0, hi0, hz0, hz1, hz2⟩ := info_parts infoInts
  obtain ⟨m0, hm0, hmz0, hmz1, hmz2⟩ := infoIntParts
  have HTO := Lib.hid (tOrder_any f n g cp w hn hn1 hd hc ho)
  have hgl := ho.lt
  have HRD := Lib.hid (show ∀ t, t + 1 < n → decide (selK (f (ordO f n (t+1))) n ≠ selK (f (ordO f n t)) n) = newG f n (t+1) from fun t ht => by
    have h1 := ordL_sorted hc n (Nat.le_refl _) t ht
    have h2 := fun s (hs : s < n) => ordL_lt (grK f) n ((ordL (grK f) n).getD s 0) (getD_mem (by rw [ordL_len]; exact hs))
    unfold newG
    rw [if_neg (by omega), Nat.add_sub_cancel]
    exact row_differs hd (h2 t (by omega)) (h2 (t+1) ht) h1)
  have HOL := Lib.hid (show ∀ t, t < n → ordO f n t < n from fun t ht => ordL_lt (grK f) n _ (getD_mem (by rw [ordL_len]; exact ht)))
  have HIN := Lib.hid (show ∀ t, (natsI (ordL (grK f) n)).getD t 0 = (ordO f n t : Int) from fun t => natsI_getD _ t)
  have HSM := Lib.hid (fun t => clsL_small (newG f n) (ordO f n) rfl t)
  have HPO := Lib.hid (fun t => clsL_pos (g := newG f n) (o := ordO f n) rfl t)
  have HST := Lib.hid (show ∀ t, clsL (newG f n) (ordO f n) (t+1) = if newG f n t then clsL (newG f n) (ordO f n) t ++ [[(ordO f n t : Int)]] else addL (clsL (newG f n) (ordO f n) t) (ordO f n t : Int) from fun _ => rfl)
  have HN0 := Lib.hid (show newG f n 0 = true from rfl)
  have HC0 := Lib.hid (show clsL (newG f n) (ordO f n) 0 = [] from rfl)
  have HS5 := Lib.hid (fun i => selK_512 (f i) hn)
  have HTB := Lib.hid (fun W (hb : Below w.heap.size w W) => ho.below hb hgl)
  have HFIN := Lib.hid (show clsG f n = clsL (newG f n) (ordO f n) n from rfl)
  rw [HFIN.out]
  clear ho hd hc HFIN
  obtain ⟨IL, hIL⟩ : ∃ IL, IL = natsI (ordL (grK f) n) := ⟨_, rfl⟩
  simp only [← hIL] at HTO HIN
  clear hIL
  obtain ⟨o, hoo⟩ : ∃ o, o = ordO f n := ⟨_, rfl⟩
  simp only [← hoo] at HRD HOL HIN HSM HPO HST HC0
  rw [← hoo]
  clear hoo
  obtain ⟨nw, hnw⟩ : ∃ nw, nw = newG f n := ⟨_, rfl⟩
  simp only [← hnw] at HRD HSM HPO HST HN0 HC0
  rw [← hnw]
  clear hnw
  obtain ⟨K, hK⟩ : ∃ K, K = clsL nw o := ⟨_, rfl⟩
  simp only [← hK] at HSM HPO HST HC0
  rw [← hK]
  clear hK
  obtain ⟨rw', hrw⟩ : ∃ z : Nat → Nat, z = fun i => selK (f i) n := ⟨_, rfl⟩
  have HRW := Lib.hid (fun i => show selK (f i) n = rw' i from by rw [hrw])
  simp only [HRW.out] at HRD HS5 HTB
  clear hrw HRW
  go_enter Tryz.func30, Tryz.ntmps30
  go_wp2_with fail
  refine HTO.out.mono ?_
  rintro e w2 ⟨r, cp2, rfl, hr1, hr2, hin, hb2⟩
  have HIS := Lib.hid hin
  clear hin
  go_wp2
  go_loopw [3, 5, 6, 7, 12] (fun v _ _ _ x wr => ∃ (t c : Nat) (B : Option Addr) (cpb : Nat), t ≤ n ∧ x = .int .i64 t ∧ c = (K t).length ∧ v = .slice B c cpb ∧ GR w2.heap.size (K t) (.slice B c cpb) wr ∧ Below w2.heap.size w2 wr) (fun _ _ _ _ x _ => n - (intOf x).toNat)
  case atStart => exact ⟨0, 0, none, 0, Nat.zero_le _, rfl, by rw [HC0.out]; rfl, rfl, by rw [HC0.out]; exact GR.nil _ _, Below.refl _ _⟩
  case round =>
    obtain ⟨t, c, B, cpb, ht, rfl, hcl, rfl, hgr, hbr⟩ := hrel
    have HG := Lib.hid hgr
    have HCL := Lib.hid hcl
    obtain ⟨htt, hcc⟩ := HSM.out t
    rw [← hcl] at hcc
    clear hgr hcl
    by_cases hlt : t < n
    · have hlt' : (t : Int) < n := by omega
      have hct := (Own.below HIS.out hbr hr2).cell hlt
      rw [HIN.out] at hct
      have hot := HOL.out t hlt
      have hcr := (HTB.out _ (hb2.trans (hbr.mono hb2.size))).cell hot
      have h5t := HS5.out (o t)
      have hotn : ((o t : Nat) : Int) < n := by omega
      have HKT := Lib.hid (HST.out t)
      rcases Nat.eq_zero_or_pos t with rfl | htp
      · have HNT := Lib.hid HN0.out
        rw [HNT.out, if_pos rfl] at HKT
        obtain ⟨ot, hote⟩ : ∃ z, z = o 0 := ⟨_, rfl⟩
        rw [← hote] at hct hcr hot hotn h5t HKT
        clear hote
        go_wp2_with fail
        go_quiet (fail)
        obtain ⟨wd, hwd⟩ : ∃ wd, wd = wr.drewN nq := ⟨_, rfl⟩
        have hbd : Below w2.heap.size w2 wd := by rw [hwd]; exact below_drewN hbr _
        have HGD := Lib.hid (show GR w2.heap.size (K 0) (.slice B c cpb) wd from by rw [hwd]; exact HG.out.now (below_drewN (Below.refl _ _) nq))
        rw [← hwd]
        clear hwd hct hcr
        have hzd := hbd.size
        obtain ⟨xs, hxs, hx1, hx2⟩ := HGD.out
        rw [← HCL.out] at hxs
        have HXS := Lib.hid hxs
        have hxl : xs.length = c := by have := hxs.1; simpa using this
        clear hxs hx1 hx2
        go_wp2_with (first
          | (at_builtin; refine wpList_append_lies _ rfl _ _ _ rfl w2.heap.size 35 i0 _ 1 24 Tryz.underlying22 hi0 hz0 hz1 hz2 rfl (by decide) (.slice B c cpb) c xs rfl (HXS.out.alloc _) ⟨wd.heap.size, 0, none⟩ 1 1 [.slice none 0 0] rfl rfl (World.news_of_block (cs := #[.slice none 0 0]) (t := 35) (fr := (0, 0)) (heap_alloc_new wd _)) (by simp [Value.oneCell']) (by omega) (by unfold maxLen; omega) (by omega) (by simp; omega) (wd.heap.size + 1) (by simp) ?_; intro g4 cap4 w4 hown4 hgrow4 hat4 hlt4; have kc4 := (hown4.cellAt c (by omega)).trans (by rw [List.getElem?_append_right (by omega), hxl]; simp : _ = some (Value.slice none 0 0)); have HO4 := Lib.hid hown4; have b4 := (hbd.alloc hzd (.cells #[.slice none 0 0] 35)).grown hgrow4 (by simp; omega) fun i hi => owns_le HXS.out hi; have hz4 := b4.size; have HKC := Lib.hid (fun w5 (h : (w4.alloc (.cells #[.int .i64 (ot : Nat)] 3)).grownBy w5 none) => ((hown4.alloc _).kept h (Or.inr (by simp [Value.ownBlock]))).cellAt c (by omega)); have HKF := Lib.hid (fun w5 (h : (w4.alloc (.cells #[.int .i64 (ot : Nat)] 3)).grownBy w5 none) => ((hown4.alloc _).kept h (Or.inr (by simp [Value.ownBlock]))).frozenAt c))
          | (at_builtin; refine wpList_append_lies _ rfl _ _ _ rfl w2.heap.size 3 m0 _ 1 8 Tryz.underlying35 hm0 hmz0 hmz1 hmz2 rfl (by decide) (.slice none 0 0) 0 [] rfl ((World.ownsRow_nil w4 w2.heap.size 3 1).alloc _) ⟨w4.heap.size, 0, none⟩ 1 1 [.int .i64 (ot : Nat)] rfl rfl (World.news_of_block (cs := #[.int .i64 (ot : Nat)]) (t := 3) (fr := (0, 0)) (heap_alloc_new w4 _)) (by simp [Value.oneCell']) (by omega) (by unfold maxLen; omega) (by omega) (by simp; omega) (w4.heap.size + 1) (by simp) ?_; intro g5 cap5 w5 hown5 hgrow5 hat5 hlt5; have kc5 := HKC.out w5 hgrow5; have kf5 := HKF.out w5 hgrow5)
          | fail)
        have HP := Lib.hid (GR.push (l := []) HGD.out HCL.out (below1 wd (.cells #[.slice none 0 0] 35)) (World.ownsRow_nil _ _ _ _) (Or.inl rfl) xs HXS.out hown4 hgrow4 (by rcases hat4 with h | h; exact Or.inl h; exact Or.inr (by rw [h]; simp)))
        have HQ := Lib.hid (GR.last (k := (ot : Nat)) HP.out rfl (by rw [← HCL.out]) (below1 w4 (.cells #[.int .i64 (ot : Nat)] 3)) (by rw [← HCL.out]; exact kc4) hown5 hgrow5 (by rcases hat5 with h | h; exact Or.inl h; exact Or.inr (by rw [h]; simp)))
        have b5 : Below w2.heap.size w2 w5 := (b4.alloc hz4 (.cells #[.int .i64 (ot : Nat)] 3)).grown hgrow5 (by simp; omega) fun i hi => by cases hi
        have hg4 : w2.heap.size ≤ g4 := (hown4.lt g4 rfl).1
        go_roundw
        case rel => exact ⟨0 + 1, c + 1, some ⟨g4, 0, none⟩, cap4, by omega, by go_num, by rw [HKT.out, List.length_append, ← HCL.out]; rfl, by simp, by rw [HKT.out]; have h := HQ.out; rw [← HCL.out] at h; exact h, b5.setCell hg4 _⟩
        case measure => simp [intOf]; omega
      · obtain ⟨p, hp⟩ : ∃ p, t = p + 1 := ⟨t - 1, by omega⟩
        have hct1 := (Own.below HIS.out hbr hr2).cell (show p < n by omega)
        rw [HIN.out] at hct1
        have hot1 := HOL.out p (by omega)
        have hcr1 := (HTB.out _ (hb2.trans (hbr.mono hb2.size))).cell hot1
        have h5t1 := HS5.out (o p)
        have HRDT := Lib.hid (HRD.out p (by omega))
        have hsub : (t : Int) - 1 = (p : Int) := by omega
        have hne0 : (t : Int) ≠ 0 := by omega
        have heq0 : ((t : Int) == 0) = false := beq_false_of_ne hne0
        have ht0 : (0 : Int) ≤ (p : Int) := by omega
        have htn : (p : Int) < n := by omega
        have ho1n : ((o p : Nat) : Int) < n := by omega
        have HPOT := Lib.hid (HPO.out p)
        rw [← hp] at HPOT HRDT
        clear hp
        obtain ⟨ot, hote⟩ : ∃ z, z = o t := ⟨_, rfl⟩
        rw [← hote] at hct hcr hot hotn h5t HKT HRDT
        clear hote
        obtain ⟨ot1, hote1⟩ : ∃ z, z = o p := ⟨_, rfl⟩
        rw [← hote1] at hct1 hcr1 hot1 ho1n h5t1 HRDT
        clear hote1
        obtain ⟨ra, hra⟩ : ∃ z, z = rw' ot := ⟨_, rfl⟩
        obtain ⟨rb, hrb⟩ : ∃ z, z = rw' ot1 := ⟨_, rfl⟩
        rw [← hra] at hcr h5t HRDT
        rw [← hrb] at hcr1 h5t1 HRDT
        clear hra hrb
        cases hnt : nw t
        · rw [hnt] at HKT HRDT
          have hrr : ra = rb := by have := HRDT.out; simpa using this
          subst hrr
          simp only [Bool.false_eq_true, if_false] at HKT
          clear hnt
          go_wp2_with fail
          go_quiet (fail)
          obtain ⟨wd, hwd⟩ : ∃ wd, wd = wr.drewN nq := ⟨_, rfl⟩
          have hbd : Below w2.heap.size w2 wd := by rw [hwd]; exact below_drewN hbr _
          have HGD := Lib.hid (show GR w2.heap.size (K t) (.slice B c cpb) wd from by rw [hwd]; exact HG.out.now (below_drewN (Below.refl _ _) nq))
          rw [← hwd]
          clear hwd hct hcr hct1 hcr1
          have hzd := hbd.size
          obtain ⟨K0, l, hKl⟩ := app_last HPOT.out
          have hc1 : c = K0.length + 1 := by rw [HCL.out, hKl]; simp
          have hll : l.length ≤ 9 := by rw [hKl, totG_app] at htt; omega
          have HKE := Lib.hid (show K (t + 1) = K0 ++ [l ++ [(ot : Int)]] from by rw [HKT.out, hKl, addL_app])
          have HKL := Lib.hid hKl
          obtain ⟨xs, hxs, hx1, hx2⟩ := HGD.out
          rw [hKl] at hxs hx1
          obtain ⟨x, hxk, hxo, hxn⟩ := hx1 K0.length (by simp)
          rw [getD_app_last] at hxo
          have hcle : (K0 ++ [l]).length = c := by rw [hc1]; simp
          rw [hcle] at hxs
          obtain ⟨gv, cv, hv, hgv, _, _⟩ := owns_head hxs (by omega)
          obtain ⟨rfl, rfl⟩ : B = some ⟨gv, 0, none⟩ ∧ cpb = cv := by simpa using hv
          have hxcl := (hxs.cellAt K0.length (by omega)).trans hxk
          have hxnv : (Value.slice (some ⟨gv, 0, none⟩) c cpb).ownBlock = none ∨ (Value.slice (some ⟨gv, 0, none⟩) c cpb).ownBlock ≠ x.ownBlock := by
            rcases hxn with e | e
            · exact Or.inr (by rw [e]; simp [Value.ownBlock])
            · exact Or.inr (Ne.symm e)
          have HKC := Lib.hid (fun w5 (h : (wd.alloc (.cells #[.int .i64 (ot : Nat)] 3)).grownBy w5 x.ownBlock) => (((hxs.alloc _).kept h hxnv).cellAt K0.length (by omega)).trans hxk)
          have HKF := Lib.hid (fun w5 (h : (wd.alloc (.cells #[.int .i64 (ot : Nat)] 3)).grownBy w5 x.ownBlock) => ((hxs.alloc _).kept h hxnv).frozenAt K0.length)
          have HXO := Lib.hid hxo
          have hlast : (c : Int) - 1 = (K0.length : Int) := by omega
          have hlastn : (K0.length : Int) < c := by omega
          obtain ⟨k0, hk0⟩ : ∃ z, z = K0.length := ⟨_, rfl⟩
          have HK0 := Lib.hid hk0
          rw [← hk0] at hc1 hxcl HKC HKF hlast hlastn
          obtain ⟨ll, hle⟩ : ∃ z, z = l.length := ⟨_, rfl⟩
          have HLL := Lib.hid hle
          rw [← hle] at hll HXO
          clear hk0 hle hxs hx1 hx2 hxk hxo hv hKl hcle
          go_wp2_with (first
            | (at_builtin; refine wpList_append_lies _ rfl _ _ _ rfl w2.heap.size 3 m0 _ 1 8 Tryz.underlying35 hm0 hmz0 hmz1 hmz2 rfl (by decide) x ll (l.map (Value.int .i64)) rfl (HXO.out.alloc _) ⟨wd.heap.size, 0, none⟩ 1 1 [.int .i64 (ot : Nat)] rfl rfl (World.news_of_block (cs := #[.int .i64 (ot : Nat)]) (t := 3) (fr := (0, 0)) (heap_alloc_new wd _)) (by simp [Value.oneCell']) (by omega) (by unfold maxLen; omega) (by omega) (by simp; omega) (wd.heap.size + 1) (by simp) ?_; intro g5 cap5 w5 hown5 hgrow5 hat5 hlt5; have kc5 := HKC.out w5 hgrow5; have kf5 := HKF.out w5 hgrow5)
            | fail)
          have HQ := Lib.hid (GR.last (k := (ot : Nat)) (by rw [← HKL.out]; exact HGD.out) rfl (by rw [hc1, HK0.out]) (below1 wd (.cells #[.int .i64 (ot : Nat)] 3)) (by rw [← HK0.out]; exact hxcl) (by rw [← HLL.out]; exact hown5) hgrow5 (by rcases hat5 with h | h; exact Or.inl h; exact Or.inr (by rw [h]; simp)))
          rw [← HK0.out, ← HLL.out] at HQ
          have b5 : Below w2.heap.size w2 w5 := (hbd.alloc hzd (.cells #[.int .i64 (ot : Nat)] 3)).grown hgrow5 (by simp; omega) fun i hi => owns_le HXO.out hi
          go_roundw
          case rel => exact ⟨t + 1, c, some ⟨gv, 0, none⟩, cpb, by omega, by go_num, by rw [HKE.out, List.length_append, ← HK0.out, hc1]; rfl, by rw [hc1], by rw [HKE.out]; exact HQ.out, b5.setCell hgv _⟩
          case measure => simp [intOf]; omega
        · rw [hnt, if_pos rfl] at HKT
          rw [hnt] at HRDT
          have hrr : ra ≠ rb := by have := HRDT.out; simpa using this
          have hrr2 : ((ra : Int) == (rb : Int)) = false := beq_false_of_ne (by omega)
          have hrr3 : ((ra : Int) != (rb : Int)) = true := by rw [bne_iff_ne]; omega
          clear hnt
          go_wp2_with fail
          go_quiet (fail)
          obtain ⟨wd, hwd⟩ : ∃ wd, wd = wr.drewN nq := ⟨_, rfl⟩
          have hbd : Below w2.heap.size w2 wd := by rw [hwd]; exact below_drewN hbr _
          have HGD := Lib.hid (show GR w2.heap.size (K t) (.slice B c cpb) wd from by rw [hwd]; exact HG.out.now (below_drewN (Below.refl _ _) nq))
          rw [← hwd]
          clear hwd hct hcr hct1 hcr1
          have hzd := hbd.size
          obtain ⟨xs, hxs, hx1, hx2⟩ := HGD.out
          rw [← HCL.out] at hxs
          have HXS := Lib.hid hxs
          have hxl : xs.length = c := by have := hxs.1; simpa using this
          clear hxs hx1 hx2
          go_wp2_with (first
            | (at_builtin; refine wpList_append_lies _ rfl _ _ _ rfl w2.heap.size 35 i0 _ 1 24 Tryz.underlying22 hi0 hz0 hz1 hz2 rfl (by decide) (.slice B c cpb) c xs rfl (HXS.out.alloc _) ⟨wd.heap.size, 0, none⟩ 1 1 [.slice none 0 0] rfl rfl (World.news_of_block (cs := #[.slice none 0 0]) (t := 35) (fr := (0, 0)) (heap_alloc_new wd _)) (by simp [Value.oneCell']) (by omega) (by unfold maxLen; omega) (by omega) (by simp; omega) (wd.heap.size + 1) (by simp) ?_; intro g4 cap4 w4 hown4 hgrow4 hat4 hlt4; have kc4 := (hown4.cellAt c (by omega)).trans (by rw [List.getElem?_append_right (by omega), hxl]; simp : _ = some (Value.slice none 0 0)); have HO4 := Lib.hid hown4; have b4 := (hbd.alloc hzd (.cells #[.slice none 0 0] 35)).grown hgrow4 (by simp; omega) fun i hi => owns_le HXS.out hi; have hz4 := b4.size; have HKC := Lib.hid (fun w5 (h : (w4.alloc (.cells #[.int .i64 (ot : Nat)] 3)).grownBy w5 none) => ((hown4.alloc _).kept h (Or.inr (by simp [Value.ownBlock]))).cellAt c (by omega)); have HKF := Lib.hid (fun w5 (h : (w4.alloc (.cells #[.int .i64 (ot : Nat)] 3)).grownBy w5 none) => ((hown4.alloc _).kept h (Or.inr (by simp [Value.ownBlock]))).frozenAt c))
            | (at_builtin; refine wpList_append_lies _ rfl _ _ _ rfl w2.heap.size 3 m0 _ 1 8 Tryz.underlying35 hm0 hmz0 hmz1 hmz2 rfl (by decide) (.slice none 0 0) 0 [] rfl ((World.ownsRow_nil w4 w2.heap.size 3 1).alloc _) ⟨w4.heap.size, 0, none⟩ 1 1 [.int .i64 (ot : Nat)] rfl rfl (World.news_of_block (cs := #[.int .i64 (ot : Nat)]) (t := 3) (fr := (0, 0)) (heap_alloc_new w4 _)) (by simp [Value.oneCell']) (by omega) (by unfold maxLen; omega) (by omega) (by simp; omega) (w4.heap.size + 1) (by simp) ?_; intro g5 cap5 w5 hown5 hgrow5 hat5 hlt5; have kc5 := HKC.out w5 hgrow5; have kf5 := HKF.out w5 hgrow5)
            | fail)
          have HP := Lib.hid (GR.push (l := []) HGD.out HCL.out (below1 wd (.cells #[.slice none 0 0] 35)) (World.ownsRow_nil _ _ _ _) (Or.inl rfl) xs HXS.out hown4 hgrow4 (by rcases hat4 with h | h; exact Or.inl h; exact Or.inr (by rw [h]; simp)))
          have HQ := Lib.hid (GR.last (k := (ot : Nat)) HP.out rfl (by rw [← HCL.out]) (below1 w4 (.cells #[.int .i64 (ot : Nat)] 3)) (by rw [← HCL.out]; exact kc4) hown5 hgrow5 (by rcases hat5 with h | h; exact Or.inl h; exact Or.inr (by rw [h]; simp)))
          have b5 : Below w2.heap.size w2 w5 := (b4.alloc hz4 (.cells #[.int .i64 (ot : Nat)] 3)).grown hgrow5 (by simp; omega) fun i hi => by cases hi
          have hg4 : w2.heap.size ≤ g4 := (hown4.lt g4 rfl).1
          go_roundw
          case rel => exact ⟨t + 1, c + 1, some ⟨g4, 0, none⟩, cap4, by omega, by go_num, by rw [HKT.out, List.length_append, ← HCL.out]; rfl, by simp, by rw [HKT.out]; have h := HQ.out; rw [← HCL.out] at h; exact h, b5.setCell hg4 _⟩
          case measure => simp [intOf]; omega
    · obtain rfl : t = n := by omega
      go_wp2
      go_ret
      exact ⟨B, cpb, by rw [← HCL.out]; rfl, by rw [← HCL.out]; exact GR_less HG.out hb2.size, hb2.trans (hbr.mono hb2.size)⟩

def clsI (m : Int) (L : List (List Int)) : List (List Int) := if compG m L then clsG (worthP (winS (setsN L)) m.toNat) m.toNat else []
theorem clsI_yes {q : Nat} {L : List (List Int)} (h : compG (q : Int) L = true) : clsI (q : Int) L = clsG (worthP (winS (setsN L)) q) q := by unfold clsI; rw [if_pos h, Int.toNat_natCast]
theorem clsI_no {m : Int} {L : List (List Int)} (h : compG m L = false) : clsI m L = [] := if_neg (by rw [h]; simp)
theorem compG_good {m : Int} {L : List (List Int)} (h : compG m L = true) : goodG m L = true := by
  cases hg : goodG m L with
  | true => rfl
  | false => rw [compG_no hg] at h; cases h
theorem clsI_small (m : Int) (L : List (List Int)) : tot (clsI m L) + (clsI m L).length ≤ 1048576 := by
  cases hc : compG m L with
  | true =>
    obtain ⟨h1, h9, _⟩ := goodG_parts (compG_good hc)
    obtain ⟨q, rfl⟩ : ∃ q : Nat, m = q := ⟨m.toNat, by omega⟩
    rw [clsI_yes hc]
    obtain ⟨a, b⟩ := clsL_small (newG (worthP (winS (setsN L)) q) q) (ordO (worthP (winS (setsN L)) q) q) rfl q
    unfold clsG
    omega
  | false => rw [clsI_no hc]; simp [tot, totK]

set_option maxRecDepth 20000 in
set_option maxHeartbeats 2000000 in
theorem iClassesOf_any (m : Int) (A : Option Addr) (n cap : Nat) (L : List (List Int)) (w : World) (hl : n ≤ 1048576) (hk : Lists w A n L) :
    Calls Tryz.prog 10 #[.agg #[.int .i64 m, .slice A n cap]] w fun e w' => Ans (RSS (clsI m L)) (compG m L) w w' e := by
  have HK := Lib.hid (hk.now (below1 w (.cells #[.int .i64 m, .slice A n cap] 28)))
  clear hk
  have hx := BoxT.new 28 w (.int .i64 m) (.slice A n cap)
  have hb0 := below1 w (.cells #[.int .i64 m, .slice A n cap] 28)
  obtain ⟨c0, c1⟩ := hx.cells
  go_enter Tryz.func10, Tryz.ntmps10
  go_wp2_with fail
  refine (readCompleteGame_any m A n cap L _ hl HK.out).mono ?_
  rintro e w1 ⟨hb1, h⟩
  have g1 := bfrom hb0 hb1
  rcases h with ⟨hg, g, rfl, hgl, hown⟩ | ⟨hg, rfl⟩
  · obtain ⟨h1, h9, _, _, _⟩ := goodG_parts hg
    obtain ⟨q, rfl⟩ : ∃ q : Nat, m = q := ⟨m.toNat, by omega⟩
    rw [Int.toNat_natCast] at hown ⊢
    have hq9 : q ≤ 9 := by omega
    cases hc : compG (q : Int) L with
    | false =>
      have HC := Lib.hid hc
      have HCN := Lib.hid (clsI_no hc)
      clear hc hown hg
      go_wp2
      go_ret2
      rw [HCN.out, HC.out]
      exact Ans.noneSS g1
    | true =>
      have HC := Lib.hid hc
      have HCN := Lib.hid (clsI_yes hc)
      have HO := Lib.hid (tClasses_any (worthP (winS (setsN L)) q) q g q w1 hq9 (by omega) (worth_desire _ q) (by rw [← compG_yes hg]; exact hc) hown)
      clear hc hown hg
      obtain ⟨K, hK⟩ : ∃ K, K = clsG (worthP (winS (setsN L)) q) q := ⟨_, rfl⟩
      rw [← hK] at HO HCN
      clear hK
      obtain ⟨kl, hkl⟩ : ∃ z, z = K.length := ⟨_, rfl⟩
      simp only [← hkl] at HO
      have HKL := Lib.hid hkl
      clear hkl
      go_wp2_with fail
      refine HO.out.mono ?_
      rintro e w2 ⟨B, cpb, rfl, hgr, hb2⟩
      have HG := Lib.hid hgr
      clear hgr
      have hz := g1.size
      go_wp2
      go_ret2
      rw [HCN.out, HC.out]
      exact ⟨_, rfl, RSS.lies (GR.rss (GR_less HG.out hz) ⟨B, cpb, by rw [← HKL.out]; rfl⟩) (Nat.le_refl _), bfrom g1 hb2⟩
  · have HC := Lib.hid (compG_no hg)
    have HCN := Lib.hid (clsI_no HC.out)
    clear hg
    go_wp2
    go_ret2
    rw [HCN.out, HC.out]
    exact Ans.noneSS g1
end Go.Proofs.YtgilbenbaefgfaaGreat

namespace Go.Proofs.YtgilbenbaefgfaaGreat
open Go.RowKit Vo

theorem newsTwo (w : World) (x y : Value) (t u : TypeId) : ∀ j z, [y][j]? = some z → ((w.alloc (.cells #[x] t)).alloc (.cells #[y] u)).cell? ((⟨w.heap.size + 1, 0, none⟩ : Addr).add j) = some z := by
  have h := World.news_of_block (cs := #[y]) (t := u) (fr := (0, 0)) (heap_alloc_new (w.alloc (.cells #[x] t)) (.cells #[y] u))
  have e : (w.alloc (.cells #[x] t)).heap.size = w.heap.size + 1 := by simp
  rw [e] at h
  exact h

set_option maxRecDepth 20000 in
set_option maxHeartbeats 16000000 in
theorem sClassesOf_any (m : Int) (A : Option Addr) (k cap : Nat) (L : List (List Int)) (w : World) (hl : k ≤ 1048576) (hcap : k ≤ cap) (hk : ListsR w A k L) :
    Calls Tryz.prog 8 #[.agg #[.int .i64 m, .slice A k cap]] w fun e w' => Ans (RSS0 (clsI m L)) (compG m L) w w' e := by
  obtain ⟨i0, hi0, hz0, hz1, hz2⟩ := info_parts infoInts
  obtain ⟨m0, hm0, hmz0, hmz1, hmz2⟩ := infoIntParts
  have HK := Lib.hid (hk.now (below1 w (.cells #[.int .i64 m, .slice A k cap] 28)))
  clear hk
  have hx := BoxT.new 28 w (.int .i64 m) (.slice A k cap)
  have hb0 := below1 w (.cells #[.int .i64 m, .slice A k cap] 28)
  obtain ⟨c0, c1⟩ := hx.cells
  have HOW := Lib.hid (fun W h => sOrderOfWorth_any m A k cap L W hl hcap h)
  cases hc : compG m L with
  | false =>
    have HCN := Lib.hid (clsI_no hc)
    simp only [hc] at HOW
    clear hc
    go_enter Tryz.func8, Tryz.ntmps8
    go_wp2_with fail
    refine (HOW.out _ HK.out).mono ?_
    rintro e w1 ⟨v, rfl, hlie, hb1⟩
    clear hlie
    go_wp2
    go_ret2
    rw [HCN.out]
    exact ⟨_, rfl, RSS0.lies (RSS.weak (GR.rss (GR.nil _ _) ⟨none, 0, rfl⟩)) (Nat.le_refl _), bfrom hb0 hb1⟩
  | true =>
    obtain ⟨h1, h9, _, hr, _⟩ := goodG_parts (compG_good hc)
    obtain ⟨n, rfl⟩ : ∃ n : Nat, m = n := ⟨m.toNat, by omega⟩
    rw [Int.toNat_natCast] at hr
    have hn : n ≤ 9 := by omega
    have hn1 : 1 ≤ n := by omega
    have HCN := Lib.hid (show clsI (n : Int) L = clsG (worthP (wnL (setsN L)) n) n from clsI_yes hc)
    have HOI := Lib.hid (show ordI (n : Int) L = natsI (ordL (grK (worthP (wnL (setsN L)) n)) n) from ordI_yes hc)
    have HLN := Lib.hid (show (ordI (n : Int) L).length = n from by rw [HOI.out, natsI_len, ordL_len])
    have HGA := Lib.hid (fun W h => gmAll_any n A k cap L W hn hl hr h)
    have HDG := Lib.hid (show ∀ p, p + 1 < n → ∀ g cp W, Own W g 4 (2^n) (fun s => .bool (wnL (setsN L) s)) → Calls Tryz.prog 27 #[.slice (some ⟨g, 0, none⟩) (2^n : Nat) cp, .int .i64 (ordO (worthP (wnL (setsN L)) n) n p : Nat), .int .i64 (ordO (worthP (wnL (setsN L)) n) n (p + 1) : Nat)] W fun e w' => e = .returned (.bool (newG (worthP (wnL (setsN L)) n) n (p + 1))) ∧ W = w' from fun p hp g cp W h => by
      have h2 := fun s (hs : s < n) => ordL_lt (grK (worthP (wnL (setsN L)) n)) n ((ordL (grK (worthP (wnL (setsN L)) n)) n).getD s 0) (getD_mem (by rw [ordL_len]; exact hs))
      have h3 := deGreater_any (wnL (setsN L)) n (ordO (worthP (wnL (setsN L)) n) n p) (ordO (worthP (wnL (setsN L)) n) n (p + 1)) g cp W (by omega) (h2 p (by omega)) (h2 (p + 1) hp) h
      unfold newG
      rw [if_neg (by omega), Nat.add_sub_cancel]
      exact h3)
    obtain ⟨f, hf⟩ : ∃ f, f = worthP (wnL (setsN L)) n := ⟨_, rfl⟩
    rw [← hf] at HCN HOI
    simp only [← hf] at HDG
    clear hf
    have HOL := Lib.hid (show ∀ t, t < n → ordO f n t < n from fun t ht => ordL_lt (grK f) n _ (getD_mem (by rw [ordL_len]; exact ht)))
    have HIN := Lib.hid (show ∀ t, (ordI (n : Int) L).getD t 0 = (ordO f n t : Int) from fun t => by rw [HOI.out]; exact natsI_getD _ t)
    have HSM := Lib.hid (fun t => clsL_small (newG f n) (ordO f n) rfl t)
    have HPO := Lib.hid (fun t => clsL_pos (g := newG f n) (o := ordO f n) rfl t)
    have HST := Lib.hid (show ∀ t, clsL (newG f n) (ordO f n) (t+1) = if newG f n t then clsL (newG f n) (ordO f n) t ++ [[(ordO f n t : Int)]] else addL (clsL (newG f n) (ordO f n) t) (ordO f n t : Int) from fun _ => rfl)
    have HN0 := Lib.hid (show newG f n 0 = true from rfl)
    have HC0 := Lib.hid (show clsL (newG f n) (ordO f n) 0 = [] from rfl)
    rw [show clsG f n = clsL (newG f n) (ordO f n) n from rfl] at HCN
    obtain ⟨N, hN⟩ : ∃ N, N = 2^n := ⟨_, rfl⟩
    rw [← hN] at HGA HDG
    clear hN
    obtain ⟨IL, hIL⟩ : ∃ IL, IL = ordI (n : Int) L := ⟨_, rfl⟩
    simp only [← hIL] at HOW HIN HLN
    clear hIL HOI
    obtain ⟨o, hoo⟩ : ∃ o, o = ordO f n := ⟨_, rfl⟩
    simp only [← hoo] at HDG HOL HIN HSM HPO HST HC0 HCN
    clear hoo
    obtain ⟨nw, hnw⟩ : ∃ nw, nw = newG f n := ⟨_, rfl⟩
    simp only [← hnw] at HDG HSM HPO HST HN0 HC0 HCN
    clear hnw
    obtain ⟨K, hK⟩ : ∃ K, K = clsL nw o := ⟨_, rfl⟩
    simp only [← hK] at HSM HPO HST HC0 HCN
    clear hK
    simp only [hc] at HOW
    clear hc hr
    go_enter Tryz.func8, Tryz.ntmps8
    go_wp2_with fail
    refine (HOW.out _ HK.out).mono ?_
    rintro e w1 ⟨v, rfl, hlie, hb1⟩
    obtain ⟨r, cp1, rfl, hr2, hin⟩ : ∃ r cp1, v = .slice (some ⟨r, 0, none⟩) n cp1 ∧ r < w1.heap.size ∧ Ints w1 r n IL := by
      obtain ⟨A1, cp1, hv, hh⟩ := hlie.here
      rw [HLN.out] at hv hh
      rcases hh with hz | ⟨r, hA, _, h3, h4⟩
      · omega
      · exact ⟨r, cp1, by rw [hv, hA], h3, h4⟩
    have HI1 := Lib.hid hin
    clear hin hlie
    have g1 := bfrom hb0 hb1
    have hx1 := hx.now hb1
    clear c0 c1
    obtain ⟨c0, c1⟩ := hx1.cells
    go_wp2_with fail
    refine (HGA.out _ (HK.out.now hb1).lists).mono ?_
    rintro e w2 ⟨rfl, hown, hb2⟩
    have HO := Lib.hid hown
    clear hown
    have g2 := bfrom g1 hb2
    have HIS := Lib.hid (Own.below HI1.out hb2 hr2)
    have hr3 : r < w2.heap.size := by have := hb2.size; omega
    have hgl := HO.out.lt
    clear c0 c1 HI1
    go_wp2
    go_loopw [7, 8, 9, 10, 22] (fun v _ _ _ x wr => ∃ (t c : Nat) (B : Option Addr) (cpb : Nat), t ≤ n ∧ x = .int .i64 t ∧ c = (K t).length ∧ v = .slice B c cpb ∧ GR w2.heap.size (K t) (.slice B c cpb) wr ∧ Below w2.heap.size w2 wr) (fun _ _ _ _ x _ => n - (intOf x).toNat)
    case atStart => exact ⟨0, 0, none, 0, Nat.zero_le _, rfl, by rw [HC0.out]; rfl, rfl, by rw [HC0.out]; exact GR.nil _ _, Below.refl _ _⟩
    case round =>
      obtain ⟨t, c, B, cpb, ht, rfl, hcl, rfl, hgr, hbr⟩ := hrel
      have HG := Lib.hid hgr
      have HCL := Lib.hid hcl
      obtain ⟨htt, hcc⟩ := HSM.out t
      rw [← hcl] at hcc
      clear hgr hcl
      by_cases hlt : t < n
      · have hlt' : (t : Int) < n := by omega
        have hct := (Own.below HIS.out hbr hr3).cell hlt
        rw [HIN.out] at hct
        have hot := HOL.out t hlt
        have HKT := Lib.hid (HST.out t)
        rcases Nat.eq_zero_or_pos t with rfl | htp
        · have HNT := Lib.hid HN0.out
          rw [HNT.out, if_pos rfl] at HKT
          obtain ⟨ot, hote⟩ : ∃ z, z = o 0 := ⟨_, rfl⟩
          rw [← hote] at hct hot HKT
          clear hote
          obtain ⟨wd, hwd⟩ : ∃ z, z = wr := ⟨_, rfl⟩
          subst hwd
          have hbd := hbr
          have HGD := Lib.hid (show GR w2.heap.size (K 0) (.slice B c cpb) wd from HG.out)
          have hzd := hbd.size
          obtain ⟨xs, hxs, hx1, hx2⟩ := HGD.out
          rw [← HCL.out] at hxs
          have HXS := Lib.hid hxs
          clear hxs hx1 hx2
          have HLIT := Lib.hid ((World.ownsRow_lit (base := w2.heap.size) (e := 3) (size := 1) wd #[.int .i64 (ot : Nat)] 1 hzd (by unfold maxLen; omega) rfl).alloc (.cells #[(.slice (some ⟨wd.heap.size, 0, none⟩) 1 1)] 35))
          go_wp2_with (first
            | (at_builtin; refine wpList_append_lies _ rfl _ _ _ rfl w2.heap.size 35 i0 _ 1 24 Tryz.underlying22 hi0 hz0 hz1 hz2 rfl (by decide) (.slice B c cpb) c xs rfl ((HXS.out.alloc _).alloc _) ⟨wd.heap.size + 1, 0, none⟩ 1 1 [(.slice (some ⟨wd.heap.size, 0, none⟩) 1 1)] rfl rfl (newsTwo wd _ _ _ _) (by simp [Value.oneCell']) (by omega) (by unfold maxLen; omega) (by omega) (by simp; omega) (wd.heap.size + 2) (by simp) ?_; intro g4 cap4 w4 hown4 hgrow4 hat4 hlt4)
            | fail)
          have HP := Lib.hid (GR.push (l := [(ot : Int)]) HGD.out HCL.out ((below1 wd (.cells #[.int .i64 (ot : Nat)] 3)).alloc (by simp) (.cells #[(.slice (some ⟨wd.heap.size, 0, none⟩) 1 1)] 35)) HLIT.out (Or.inr fun g hg => by simp [Value.ownBlock] at hg; subst hg; simp; omega) xs HXS.out hown4 hgrow4 (by rcases hat4 with h | h; exact Or.inl h; exact Or.inr (by rw [h]; simp)))
          have b5 : Below w2.heap.size w2 w4 := ((hbd.alloc hzd (.cells #[.int .i64 (ot : Nat)] 3)).alloc (by simp; omega) (.cells #[(.slice (some ⟨wd.heap.size, 0, none⟩) 1 1)] 35)).grown hgrow4 (by simp; omega) fun i hi => owns_le HXS.out hi
          have hg4 : w2.heap.size ≤ g4 := (hown4.lt g4 rfl).1
          go_roundw
          case rel => exact ⟨0 + 1, c + 1, some ⟨g4, 0, none⟩, cap4, by omega, by go_num, by rw [HKT.out, List.length_append, ← HCL.out]; rfl, by simp, by rw [HKT.out]; exact HP.out, b5⟩
          case measure => simp [intOf]; omega
        · obtain ⟨p, hp⟩ : ∃ p, t = p + 1 := ⟨t - 1, by omega⟩
          have hct1 := (Own.below HIS.out hbr hr3).cell (show p < n by omega)
          rw [HIN.out] at hct1
          have HPOT := Lib.hid (HPO.out p)
          have HD := Lib.hid (HDG.out p (by omega) (w1.heap.size + 1) N wr (Own.below HO.out hbr hgl))
          have hsub : (t : Int) - 1 = (p : Int) := by omega
          have hne0 : (t : Int) ≠ 0 := by omega
          have heq0 : ((t : Int) == 0) = false := beq_false_of_ne hne0
          have hp0 : (0 : Int) ≤ (p : Int) := by omega
          have hpn : (p : Int) < n := by omega
          rw [← hp] at HPOT HD
          clear hp
          obtain ⟨ot, hote⟩ : ∃ z, z = o t := ⟨_, rfl⟩
          rw [← hote] at hct hot HKT HD
          clear hote
          obtain ⟨ot1, hote1⟩ : ∃ z, z = o p := ⟨_, rfl⟩
          rw [← hote1] at hct1 HD
          clear hote1
          cases hnt : nw t
          · rw [hnt] at HKT HD
            simp only [Bool.false_eq_true, if_false] at HKT
            clear hnt
            obtain ⟨wd, hwd⟩ : ∃ z, z = wr := ⟨_, rfl⟩
            subst hwd
            have hbd := hbr
            have HGD := Lib.hid (show GR w2.heap.size (K t) (.slice B c cpb) wd from HG.out)
            have hzd := hbd.size
            obtain ⟨K0, l, hKl⟩ := app_last HPOT.out
            have hc1 : c = K0.length + 1 := by rw [HCL.out, hKl]; simp
            have hll : l.length ≤ 9 := by rw [hKl, totG_app] at htt; omega
            have HKE := Lib.hid (show K (t + 1) = K0 ++ [l ++ [(ot : Int)]] from by rw [HKT.out, hKl, addL_app])
            have HKL := Lib.hid hKl
            obtain ⟨xs, hxs, hx1, hx2⟩ := HGD.out
            rw [hKl] at hxs hx1
            obtain ⟨x, hxk, hxo, hxn⟩ := hx1 K0.length (by simp)
            rw [getD_app_last] at hxo
            have hcle : (K0 ++ [l]).length = c := by rw [hc1]; simp
            rw [hcle] at hxs
            obtain ⟨gv, cv, hv, hgv, _, _⟩ := owns_head hxs (by omega)
            obtain ⟨rfl, rfl⟩ : B = some ⟨gv, 0, none⟩ ∧ cpb = cv := by simpa using hv
            have hxcl := (hxs.cellAt K0.length (by omega)).trans hxk
            have hxnv : (Value.slice (some ⟨gv, 0, none⟩) c cpb).ownBlock = none ∨ (Value.slice (some ⟨gv, 0, none⟩) c cpb).ownBlock ≠ x.ownBlock := by
              rcases hxn with e | e
              · exact Or.inr (by rw [e]; simp [Value.ownBlock])
              · exact Or.inr (Ne.symm e)
            have HKC := Lib.hid (fun w5 (h : (wd.alloc (.cells #[.int .i64 (ot : Nat)] 3)).grownBy w5 x.ownBlock) => (((hxs.alloc _).kept h hxnv).cellAt K0.length (by omega)).trans hxk)
            have HKF := Lib.hid (fun w5 (h : (wd.alloc (.cells #[.int .i64 (ot : Nat)] 3)).grownBy w5 x.ownBlock) => ((hxs.alloc _).kept h hxnv).frozenAt K0.length)
            have HXO := Lib.hid hxo
            have hlast : (c : Int) - 1 = (K0.length : Int) := by omega
            have hlastn : (K0.length : Int) < c := by omega
            obtain ⟨k0, hk0⟩ : ∃ z, z = K0.length := ⟨_, rfl⟩
            have HK0 := Lib.hid hk0
            rw [← hk0] at hc1 hxcl HKC HKF hlast hlastn
            obtain ⟨ll, hle⟩ : ∃ z, z = l.length := ⟨_, rfl⟩
            have HLL := Lib.hid hle
            rw [← hle] at hll HXO
            clear hk0 hle hxs hx1 hx2 hxk hxo hv hKl hcle
            go_wp2_with (first
              | (go_at_call 27; refine HD.out.mono ?_; rintro e w4 ⟨rfl, rfl⟩)
              | (at_builtin; refine wpList_append_lies _ rfl _ _ _ rfl w2.heap.size 3 m0 _ 1 8 Tryz.underlying35 hm0 hmz0 hmz1 hmz2 rfl (by decide) x ll (l.map (Value.int .i64)) rfl (HXO.out.alloc _) ⟨wd.heap.size, 0, none⟩ 1 1 [.int .i64 (ot : Nat)] rfl rfl (World.news_of_block (cs := #[.int .i64 (ot : Nat)]) (t := 3) (fr := (0, 0)) (heap_alloc_new wd _)) (by simp [Value.oneCell']) (by omega) (by unfold maxLen; omega) (by omega) (by simp; omega) (wd.heap.size + 1) (by simp) ?_; intro g5 cap5 w5 hown5 hgrow5 hat5 hlt5; have kc5 := HKC.out w5 hgrow5; have kf5 := HKF.out w5 hgrow5)
              | fail)
            have HQ := Lib.hid (GR.last (k := (ot : Nat)) (by rw [← HKL.out]; exact HGD.out) rfl (by rw [hc1, HK0.out]) (below1 wd (.cells #[.int .i64 (ot : Nat)] 3)) (by rw [← HK0.out]; exact hxcl) (by rw [← HLL.out]; exact hown5) hgrow5 (by rcases hat5 with h | h; exact Or.inl h; exact Or.inr (by rw [h]; simp)))
            rw [← HK0.out, ← HLL.out] at HQ
            have b5 : Below w2.heap.size w2 w5 := (hbd.alloc hzd (.cells #[.int .i64 (ot : Nat)] 3)).grown hgrow5 (by simp; omega) fun i hi => owns_le HXO.out hi
            go_roundw
            case rel => exact ⟨t + 1, c, some ⟨gv, 0, none⟩, cpb, by omega, by go_num, by rw [HKE.out, List.length_append, ← HK0.out, hc1]; rfl, by rw [hc1], by rw [HKE.out]; exact HQ.out, b5.setCell hgv _⟩
            case measure => simp [intOf]; omega
          · rw [hnt, if_pos rfl] at HKT
            rw [hnt] at HD
            clear hnt
            obtain ⟨wd, hwd⟩ : ∃ z, z = wr := ⟨_, rfl⟩
            subst hwd
            have hbd := hbr
            have HGD := Lib.hid (show GR w2.heap.size (K t) (.slice B c cpb) wd from HG.out)
            have hzd := hbd.size
            obtain ⟨xs, hxs, hx1, hx2⟩ := HGD.out
            rw [← HCL.out] at hxs
            have HXS := Lib.hid hxs
            clear hxs hx1 hx2
            have HLIT := Lib.hid ((World.ownsRow_lit (base := w2.heap.size) (e := 3) (size := 1) wd #[.int .i64 (ot : Nat)] 1 hzd (by unfold maxLen; omega) rfl).alloc (.cells #[(.slice (some ⟨wd.heap.size, 0, none⟩) 1 1)] 35))
            go_wp2_with (first
              | (go_at_call 27; refine HD.out.mono ?_; rintro e w4 ⟨rfl, rfl⟩)
              | (at_builtin; refine wpList_append_lies _ rfl _ _ _ rfl w2.heap.size 35 i0 _ 1 24 Tryz.underlying22 hi0 hz0 hz1 hz2 rfl (by decide) (.slice B c cpb) c xs rfl ((HXS.out.alloc _).alloc _) ⟨wd.heap.size + 1, 0, none⟩ 1 1 [(.slice (some ⟨wd.heap.size, 0, none⟩) 1 1)] rfl rfl (newsTwo wd _ _ _ _) (by simp [Value.oneCell']) (by omega) (by unfold maxLen; omega) (by omega) (by simp; omega) (wd.heap.size + 2) (by simp) ?_; intro g4 cap4 w4 hown4 hgrow4 hat4 hlt4)
              | fail)
            have HP := Lib.hid (GR.push (l := [(ot : Int)]) HGD.out HCL.out ((below1 wd (.cells #[.int .i64 (ot : Nat)] 3)).alloc (by simp) (.cells #[(.slice (some ⟨wd.heap.size, 0, none⟩) 1 1)] 35)) HLIT.out (Or.inr fun g hg => by simp [Value.ownBlock] at hg; subst hg; simp; omega) xs HXS.out hown4 hgrow4 (by rcases hat4 with h | h; exact Or.inl h; exact Or.inr (by rw [h]; simp)))
            have b5 : Below w2.heap.size w2 w4 := ((hbd.alloc hzd (.cells #[.int .i64 (ot : Nat)] 3)).alloc (by simp; omega) (.cells #[(.slice (some ⟨wd.heap.size, 0, none⟩) 1 1)] 35)).grown hgrow4 (by simp; omega) fun i hi => owns_le HXS.out hi
            have hg4 : w2.heap.size ≤ g4 := (hown4.lt g4 rfl).1
            go_roundw
            case rel => exact ⟨t + 1, c + 1, some ⟨g4, 0, none⟩, cap4, by omega, by go_num, by rw [HKT.out, List.length_append, ← HCL.out]; rfl, by simp, by rw [HKT.out]; exact HP.out, b5⟩
            case measure => simp [intOf]; omega
      · obtain rfl : t = n := by omega
        go_wp2
        go_ret2
        have hz := g2.size
        rw [HCN.out]
        exact ⟨_, rfl, RSS0.lies (RSS.weak (GR.rss (GR_less HG.out hz) ⟨B, cpb, by rw [← HCL.out]; rfl⟩)) (Nat.le_refl _), bfrom g2 hbr⟩
end Go.Proofs.YtgilbenbaefgfaaGreat
