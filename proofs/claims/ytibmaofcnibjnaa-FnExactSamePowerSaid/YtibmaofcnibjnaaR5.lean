/- A slice of slices that the call builds, list after list; the program's lists of sets. -/
import Derived.Test.YtibmaofcnibjnaaK4
import Derived.Test.YtibmaofcnibjnaaR3
import Derived.Outline
namespace Go.Proofs.Ytibmaofcnibjnaa
open Go.RowKit Vo

theorem infoInts : (Try.prog.info? 22).map (fun i => (i.zero, i.size, i.bytes)) = some (some (.slice none 0 0), 1, 24) := by kernel_rfl

theorem owns_same {w : World} {base : Nat} {e : TypeId} {size : Nat} {v : Value} {n : Nat} {xs ys : List Value} (h : w.ownsRow base e size v n xs) (k : w.ownsRow base e size v n ys) : xs = ys := by
  obtain ⟨h1, h2⟩ := h
  obtain ⟨k1, k2⟩ := k
  rcases h2 with ⟨hv, hn⟩ | ⟨g, cap, cur, hv, hg, hh, _, _, _, h6⟩
  · subst hn
    have a : xs.length = 0 := by omega
    have b : ys.length = 0 := by omega
    rw [List.length_eq_zero_iff.1 a, List.length_eq_zero_iff.1 b]
  · rcases k2 with ⟨kv, _⟩ | ⟨g', cap', cur', kv, kg, kh, _, _, _, k6⟩
    · rw [hv] at kv; cases kv
    · rw [hv] at kv
      injection kv with e1 e2 e3
      injection e1 with e1
      injection e1 with e1
      subst e1
      rw [hh] at kh
      injection kh with kh
      injection kh with kh
      subst kh
      rw [← h6, ← k6]

/-- A row of the call's own whose cells are slices that read as these lists, each in a block of its own. -/
def SSb (base : Nat) (L : List (List Int)) (v : Value) (w : World) : Prop :=
  ∃ (xs : List Value) (G : Nat → Nat), w.ownsRow base 22 1 v L.length xs ∧ ∀ i, i < L.length → ∃ x, xs[i]? = some x ∧ RI (L.getD i []) (G i) (G i + 1) x w ∧ ((L.getD i []).length = 0 ∨ (base ≤ G i ∧ G i < w.heap.size ∧ some (G i) ≠ v.ownBlock ∧ ∀ j, j < i → (L.getD j []).length = 0 ∨ G j ≠ G i))
theorem SSb.nil (base : Nat) (w : World) : SSb base [] (.slice none 0 0) w := ⟨[], fun _ => 0, World.ownsRow_nil _ _ _ _, fun i h => by simp at h⟩
theorem SSb.of_row {base : Nat} {v : Value} {w : World} (h : w.ownsRow base 22 1 v 0 []) : SSb base [] v w := ⟨[], fun _ => 0, h, fun i h => by simp at h⟩
theorem SSb.now {base : Nat} {L : List (List Int)} {v : Value} {w w' : World} (h : SSb base L v w) (hb : Below w.heap.size w w') : SSb base L v w' := by
  obtain ⟨xs, G, ho, h⟩ := h
  refine ⟨xs, G, owns_now ho hb, fun i hi => ?_⟩
  obtain ⟨x, hx, hr, hg⟩ := h i hi
  refine ⟨x, hx, hr.keep ?_, ?_⟩
  · rcases hg with hg | hg
    · exact Or.inl hg
    · exact Or.inr fun b b1 b2 => hb.block b (by omega)
  · rcases hg with hg | hg
    · exact Or.inl hg
    · exact Or.inr ⟨hg.1, Nat.lt_of_lt_of_le hg.2.1 hb.size, hg.2.2⟩
theorem SSb.pushR {base : Nat} {L : List (List Int)} {v x : Value} {l : List Int} {w w1 w4 : World} {gg cap H n : Nat} (h : SSb base L v w) (hn : n = L.length) (hbw : base ≤ w.heap.size)
    (hb : Below w.heap.size w w1) (hrs : RS l w.heap.size w1.heap.size x w1) (hH : w1.heap.size ≤ H)
    (w3 : World) (hb3 : Below w1.heap.size w1 w3) (h3 : H = w3.heap.size)
    (xs : List Value) (hxs : w.ownsRow base 22 1 v n xs) (ho : w4.ownsRow base 22 1 (.slice (some ⟨gg, 0, none⟩) (n + 1) cap) (n + 1) (xs ++ [x])) (hg : w3.grownBy w4 v.ownBlock) (hat : v.ownBlock = some gg ∨ gg = H) :
    SSb base (L ++ [l]) (.slice (some ⟨gg, 0, none⟩) (n + 1) cap) w4 := by
  subst hn
  obtain ⟨xs', G, ho', h⟩ := h
  have hxx : xs' = xs := owns_same ho' hxs
  subst hxx
  have hlt := fun k hk => owns_lt hxs (k := k) hk
  have hz1 := hb.size
  have hz3 := hb3.size
  have hz4 := hg.size
  have hgg : gg < w4.heap.size := owns_lt ho rfl
  -- the new list's block
  obtain ⟨gx, hgx⟩ : ∃ gx, RI l gx (gx + 1) x w1 ∧ (l.length = 0 ∨ (w.heap.size ≤ gx ∧ gx < w1.heap.size)) := by
    obtain ⟨A', c', hv, hr⟩ := hrs
    rcases hr with hr | ⟨gx, hA, h1, h2, hr⟩
    · exact ⟨0, ⟨A', c', hv, Or.inl hr⟩, Or.inl hr⟩
    · exact ⟨gx, ⟨A', c', hv, Or.inr ⟨gx, hA, Nat.le_refl _, by omega, hr⟩⟩, Or.inr ⟨h1, h2⟩⟩
  have xsl : xs'.length = L.length := by have := hxs.1; simpa using this
  have old : ∀ i, i < L.length → (L ++ [l]).getD i [] = L.getD i [] := fun i hi => by
    rw [List.getD_eq_getElem?_getD, List.getElem?_append_left hi, ← List.getD_eq_getElem?_getD]
  have new : (L ++ [l]).getD L.length [] = l := by simp
  obtain ⟨G', hG1, hG2⟩ : ∃ G' : Nat → Nat, G' L.length = gx ∧ ∀ i, i ≠ L.length → G' i = G i := ⟨fun i => if i = L.length then gx else G i, by simp, fun i h => if_neg h⟩
  refine ⟨xs' ++ [x], G', by simpa using ho, fun i hi => ?_⟩
  simp only [List.length_append, List.length_cons, List.length_nil] at hi
  by_cases e : i = L.length
  · subst e
    rw [new, hG1]
    refine ⟨x, by rw [List.getElem?_append_right (by omega), xsl]; simp, ?_, ?_⟩
    · refine hgx.1.keep ?_
      rcases hgx.2 with h0 | h0
      · exact Or.inl h0
      · refine Or.inr fun b b1 b2 => (hg.block b (by omega) fun e => ?_).trans (hb3.block b (by omega))
        have := hlt b e.symm; omega
    · rcases hgx.2 with h0 | h0
      · exact Or.inl h0
      · refine Or.inr ⟨by omega, by omega, ?_, fun j hj => ?_⟩
        · intro e0
          have e : gx = gg := by simpa [Value.ownBlock] using e0
          rcases hat with ha | ha
          · have := hlt _ ha; omega
          · omega
        · rw [old j hj, hG2 j (by omega)]
          obtain ⟨_, _, _, hgj⟩ := h j hj
          rcases hgj with h1 | h1
          · exact Or.inl h1
          · exact Or.inr (by omega)
  · have hi' : i < L.length := by omega
    rw [old i hi', hG2 i e]
    obtain ⟨y, hy, hr, hgi⟩ := h i hi'
    refine ⟨y, by rw [List.getElem?_append_left (by omega)]; exact hy, hr.keep ?_, ?_⟩
    · rcases hgi with h0 | h0
      · exact Or.inl h0
      · refine Or.inr fun b b1 b2 => ?_
        have hbG : b = G i := by omega
        subst hbG
        exact ((hg.block (G i) (by omega) h0.2.2.1).trans (hb3.block _ (by omega))).trans (hb.block _ (by omega))
    · rcases hgi with h0 | h0
      · exact Or.inl h0
      · refine Or.inr ⟨h0.1, by omega, ?_, fun j hj => ?_⟩
        · intro e0
          have e2 : G i = gg := by simpa [Value.ownBlock] using e0
          rcases hat with ha | ha
          · exact h0.2.2.1 (by rw [ha, e2])
          · omega
        · rw [old j (by omega), hG2 j (by omega)]
          exact h0.2.2.2 j hj
theorem SSb.push {base : Nat} {L : List (List Int)} {v x : Value} {l : List Int} {w w1 w4 : World} {gg cap H n : Nat} (h : SSb base L v w) (hn : n = L.length) (hbw : base ≤ w.heap.size)
    (hb : Below w.heap.size w w1) (hx : ∃ A c, x = .slice A l.length c ∧ (w1.ownsRow w.heap.size 3 1 (.slice A l.length c) l.length (l.map (Value.int .i64)))) (hH : w1.heap.size ≤ H)
    (w3 : World) (hb3 : Below w1.heap.size w1 w3) (h3 : H = w3.heap.size)
    (xs : List Value) (hxs : w.ownsRow base 22 1 v n xs) (ho : w4.ownsRow base 22 1 (.slice (some ⟨gg, 0, none⟩) (n + 1) cap) (n + 1) (xs ++ [x])) (hg : w3.grownBy w4 v.ownBlock) (hat : v.ownBlock = some gg ∨ gg = H) :
    SSb base (L ++ [l]) (.slice (some ⟨gg, 0, none⟩) (n + 1) cap) w4 := by
  obtain ⟨A, c, hxe, hrow⟩ := hx
  exact SSb.pushR h hn hbw hb (by rw [hxe]; exact RS.of_own hrow) hH w3 hb3 h3 xs hxs ho hg hat
theorem SSb.rss {base : Nat} {L : List (List Int)} {v : Value} {w : World} (h : SSb base L v w) (hv : ∃ A cap, v = .slice A L.length cap) : RSS L base w.heap.size v w := by
  obtain ⟨xs, G, ho, h⟩ := h
  obtain ⟨A, cap, rfl⟩ := hv
  refine ⟨A, cap, rfl, ?_⟩
  by_cases hn : L.length = 0
  · exact Or.inl hn
  · obtain ⟨g, cap', hv, hg, _, _⟩ := owns_head ho (by omega)
    injection hv with hA _ hc
    subst hA
    have hgl : g < w.heap.size := owns_lt ho rfl
    refine Or.inr ⟨g, fun i => xs.getD i default, rfl, hg, hgl, Own.of_own ho fun i hi => ?_, G, fun i hi => ?_⟩
    · obtain ⟨x, hx, _⟩ := h i hi
      rw [hx, List.getD_eq_getElem?_getD, hx]; rfl
    · obtain ⟨x, hx, hr, hgi⟩ := h i hi
      show RI (L.getD i []) (G i) (G i + 1) (xs.getD i default) w ∧ _
      rw [show xs.getD i default = x from by rw [List.getD_eq_getElem?_getD, hx]; rfl]
      refine ⟨hr, ?_⟩
      rcases hgi with h0 | h0
      · exact Or.inl h0
      · exact Or.inr ⟨h0.1, h0.2.1, fun e => h0.2.2.1 (by rw [e]; rfl), h0.2.2.2⟩
end Go.Proofs.Ytibmaofcnibjnaa
