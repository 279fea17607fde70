/- Contract of the model's voSorted. -/
import Derived.Test.YtipplbcjdcdapabGreatT1
import Derived.Maps.AppendAt
import Derived.Laws.AppendOwnNone
namespace Go.Proofs.YtipplbcjdcdapabGreat
open Go.RowKit Vo

theorem ins_at {x : List Int} {l : List (List Int)} {k : Nat} (hk : k ≤ l.length) (h : ∀ i, i < k → before (l.getD i []) x = true) (he : k = l.length ∨ before (l.getD k []) x = false) :
    ins x l = l.take k ++ x :: l.drop k := by
  induction l generalizing k with
  | nil => cases k <;> simp [ins]
  | cons y l ih =>
    cases k with
    | zero =>
      rcases he with he | he
      · simp at he
      · simp at he; simp [ins, he]
    | succ k =>
      have h0 := h 0 (by omega)
      simp only [List.getD_cons_zero] at h0
      simp only [ins, h0, if_true, List.take_succ_cons, List.drop_succ_cons, List.cons_append]
      rw [ih (k := k) (by simpa using hk) (fun i hi => by have := h (i+1) (by omega); simpa using this) (by simpa using he)]
theorem sortL_more (L : List (List Int)) (j : Nat) (hj : j < L.length) : sortL (L.take (j+1)) = ins (L.getD j []) (sortL (L.take j)) := by
  unfold sortL
  rw [List.take_add_one, List.getElem?_eq_getElem hj, List.getD_eq_getElem?_getD, List.getElem?_eq_getElem hj, List.foldl_append]
  rfl
theorem ins_len (x : List Int) (l : List (List Int)) : (ins x l).length = l.length + 1 := by
  induction l with
  | nil => rfl
  | cons y l ih => simp only [ins]; split <;> simp [ih]
theorem sortL_len (L : List (List Int)) : (sortL L).length = L.length := by
  have : ∀ out : List (List Int), (L.foldl (fun out x => ins x out) out).length = out.length + L.length := by
    induction L with
    | nil => intro out; rfl
    | cons x L ih => intro out; simp only [List.foldl_cons, ih, ins_len, List.length_cons]; omega
  simpa [sortL] using this []

/-- Values with the lists that they read as. -/
structure Pairs (lo : Nat) (P : List (Value × List Int)) (j : Nat) (L : List (List Int)) (w : World) : Prop where
  len : P.length = j
  lists : P.map (·.2) = L
  reads : ∀ p ∈ P, RI p.2 lo w.heap.size p.1 w ∧ p.2.length ≤ 1048576
theorem RI.one {l : List Int} {lo hi : Nat} {v : Value} {w : World} (h : RI l lo hi v w) : v.oneCell' = true := by
  obtain ⟨A, cap, rfl, _⟩ := h; rfl
theorem RI.up {l : List Int} {lo lo' : Nat} {v : Value} {w w' : World} (h : RI l lo w.heap.size v w) (hb : Below w.heap.size w w') (hlo : lo' ≤ lo := by first | exact Nat.zero_le _ | exact Nat.le_refl _ | omega) : RI l lo' w'.heap.size v w' :=
  (h.keep (Or.inr fun k _ k2 => hb.block k k2)).wide (Or.inr ⟨hlo, hb.size⟩)
theorem Pairs.one {lo : Nat} {P : List (Value × List Int)} {j : Nat} {L : List (List Int)} {w : World} (h : Pairs lo P j L w) : ∀ u ∈ P.map (·.1), u.oneCell' = true := by
  intro u hu
  obtain ⟨p, hp, rfl⟩ := List.mem_map.1 hu
  exact (h.reads p hp).1.one
theorem Pairs.put {lo : Nat} {P : List (Value × List Int)} {j : Nat} {L : List (List Int)} {w : World} (h : Pairs lo P j L w) {k : Nat} (hk : k ≤ j) {x : Value} {l : List Int} (hx : RI l lo w.heap.size x w) (hl : l.length ≤ 1048576)
    (hb : ∀ i, i < k → before (L.getD i []) l = true) (he : k = j ∨ before (L.getD k []) l = false) : Pairs lo (P.take k ++ (x, l) :: P.drop k) (j + 1) (ins l L) w := by
  obtain ⟨h1, h2, h3⟩ := h
  subst h2
  refine ⟨by simp; omega, ?_, fun p hp => ?_⟩
  · rw [ins_at (k := k) (by simp; omega) hb (by simpa [h1] using he)]
    simp [List.map_take, List.map_drop]
  · rcases List.mem_append.1 hp with e | e
    · exact h3 p (List.mem_of_mem_take e)
    · rcases List.mem_cons.1 e with e | e
      · subst e; exact ⟨hx, hl⟩
      · exact h3 p (List.mem_of_mem_drop e)
theorem Pairs.at {lo : Nat} {P : List (Value × List Int)} {j : Nat} {L : List (List Int)} {w : World} (h : Pairs lo P j L w) {k : Nat} (hk : k < j) : ∃ x, (P.map (·.1))[k]? = some x ∧ RI (L.getD k []) lo w.heap.size x w ∧ (L.getD k []).length ≤ 1048576 := by
  obtain ⟨h1, h2, h3⟩ := h
  subst h2
  have hkP : k < P.length := by omega
  refine ⟨P[k].1, by simp [hkP], ?_⟩
  rw [List.getD_eq_getElem?_getD, List.getElem?_map, List.getElem?_eq_getElem hkP]
  exact h3 _ (List.getElem_mem hkP)
theorem Pairs.rss {lo : Nat} {P : List (Value × List Int)} {j : Nat} {L : List (List Int)} {w w' : World} (h : Pairs lo P j L w) {base : Nat} {B : Option Addr} {cp : Nat} (ho : w'.ownsRow base 25 1 (.slice B j cp) j (P.map (·.1))) (hb : Below w.heap.size w w') (lo' : Nat) (hlo : lo' ≤ lo) (hbase : lo' ≤ base) :
    RSS0 L lo' w'.heap.size (.slice B j cp) w' := by
  have hL : L.length = j := by rw [← h.lists, List.length_map, h.len]
  refine ⟨B, cp, by rw [hL], ?_⟩
  by_cases hj : j = 0
  · exact Or.inl (by omega)
  · obtain ⟨g, cap', hv, hg, _, _⟩ := owns_head ho (by omega)
    injection hv with hA _ hc
    subst hA
    have hgl := owns_lt ho (k := g) rfl
    refine Or.inr ⟨g, fun i => (P.map (·.1)).getD i default, rfl, by omega, hgl, ?_, fun i hi => ?_⟩
    · rw [hL]
      exact Own.of_own ho fun i hi => by
        obtain ⟨x, hx, _⟩ := h.at hi
        rw [hx, List.getD_eq_getElem?_getD, hx]; rfl
    · obtain ⟨x, hx, hr, _⟩ := h.at (k := i) (by omega)
      show RI _ _ _ ((P.map (·.1)).getD i default) w'
      rw [show (P.map (·.1)).getD i default = x from by rw [List.getD_eq_getElem?_getD, hx]; rfl]
      exact hr.up hb hlo

theorem cells_at {w : World} {g j k : Nat} {t : TypeId} {xs : List Value} (h : Own w g t j (fun i => xs.getD i default)) (hl : xs.length = j) :
    ∀ i u, (xs.take k)[i]? = some u → w.cell? ((⟨g, 0, none⟩ : Addr).add i) = some u := by
  intro i u hu
  have hi : i < (xs.take k).length := by
    rcases Nat.lt_or_ge i (xs.take k).length with h | h
    · exact h
    · rw [List.getElem?_eq_none h] at hu; cases hu
  have hi2 : i < k ∧ i < xs.length := by simp at hi; omega
  have e : (⟨g, 0, none⟩ : Addr).add i = ⟨g, i, none⟩ := by unfold Addr.add; split <;> simp_all
  rw [e, h.cell (i := i) (by omega)]
  rw [List.getElem?_take_of_lt hi2.1] at hu
  rw [List.getD_eq_getElem?_getD, hu]; rfl
theorem cells_from {w : World} {g j k : Nat} {t : TypeId} {xs : List Value} (h : Own w g t j (fun i => xs.getD i default)) (hl : xs.length = j) :
    ∀ i u, (xs.drop k)[i]? = some u → w.cell? ((⟨g, k, none⟩ : Addr).add i) = some u := by
  intro i u hu
  rw [List.getElem?_drop] at hu
  have hi : k + i < xs.length := by
    rcases Nat.lt_or_ge (k + i) xs.length with h | h
    · exact h
    · rw [List.getElem?_eq_none h] at hu; cases hu
  have e : (⟨g, k, none⟩ : Addr).add i = ⟨g, k + i, none⟩ := by unfold Addr.add; split <;> simp_all
  rw [e, h.cell (i := k + i) (by omega), List.getD_eq_getElem?_getD, hu]; rfl

end Go.Proofs.YtipplbcjdcdapabGreat
