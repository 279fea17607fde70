/- Texts of Gw. -/
import Derived.Test.YtnldodnpakpeeaaPkQ39
namespace Go.Proofs.Ytnldodnpakpeeaa
open Go.RowKit Vo

/-- How many at the beginning come before x. -/
def befB {α : Type} (r : α → α → Bool) (x : α) : List α → Nat
  | [] => 0
  | y :: l => if r y x then befB r x l + 1 else 0
theorem befB_le {α : Type} (r : α → α → Bool) (x : α) (l : List α) : befB r x l ≤ l.length := by
  induction l with
  | nil => exact Nat.le_refl _
  | cons y l ih => unfold befB; split <;> simp; omega
theorem insB_bef {α : Type} (r : α → α → Bool) (x : α) (l : List α) : insB r x l = l.take (befB r x l) ++ x :: l.drop (befB r x l) := by
  induction l with
  | nil => rfl
  | cons y l ih =>
    unfold insB befB
    by_cases h : r y x = true
    · rw [if_pos h, if_pos h, ih]; rfl
    · rw [if_neg h, if_neg h]; rfl
/-- The search for the place goes on as long as those seen come before x. -/
theorem befB_step {α : Type} (r : α → α → Bool) (x : α) : ∀ (l : List α) (k : Nat) (d : α), k ≤ befB r x l → k < l.length → (if r (l.getD k d) x then k + 1 ≤ befB r x l else befB r x l = k)
  | y :: l, 0, d, _, _ => by
    show if r y x then _ else _
    unfold befB
    split <;> simp_all
  | y :: l, k+1, d, h, hk => by
    have hy : r y x = true := by
      unfold befB at h
      split at h
      · assumption
      · omega
    have e : befB r x (y :: l) = befB r x l + 1 := by rw [befB, if_pos hy]
    rw [e] at h ⊢
    have := befB_step r x l k d (by omega) (by simpa using hk)
    show if r (l.getD k d) x then _ else _
    split <;> simp_all
theorem befB_end {α : Type} (r : α → α → Bool) (x : α) (l : List α) (k : Nat) (h : k ≤ befB r x l) (hk : ¬ k < l.length) : befB r x l = k := by
  have := befB_le r x l
  omega
/-- Of two games told by codes, the one that comes first. -/
def rP (n : Nat) (a b : Nat × Value) : Bool := rC n a.1 b.1
theorem insB_fst (n : Nat) (x : Nat × Value) (P : GP) : (insB (rP n) x P).map Prod.fst = insB (rC n) x.1 (P.map Prod.fst) := by
  induction P with
  | nil => rfl
  | cons y P ih =>
    rw [insB, List.map_cons, insB]
    show (if rC n y.1 x.1 = true then _ else _ : GP).map Prod.fst = _
    split
    · rw [List.map_cons, ih]
    · rfl
def sortP (n : Nat) (P : GP) : GP := P.foldl (fun out x => insB (rP n) x out) []
theorem sortP_fst (n : Nat) (P : GP) : (sortP n P).map Prod.fst = (P.map Prod.fst).foldl (fun out x => insB (rC n) x out) [] := by
  have : ∀ (P Q : GP), (P.foldl (fun out x => insB (rP n) x out) Q).map Prod.fst = (P.map Prod.fst).foldl (fun out x => insB (rC n) x out) (Q.map Prod.fst) := by
    intro P
    induction P with
    | nil => intro Q; rfl
    | cons x P ih => intro Q; rw [List.foldl_cons, ih, insB_fst]; rfl
  exact this P []
theorem sortP_mem (n : Nat) (P : GP) : ∀ p, p ∈ sortP n P ↔ p ∈ P := by
  have hi : ∀ (x : Nat × Value) (Q : GP) p, p ∈ insB (rP n) x Q ↔ p = x ∨ p ∈ Q := by
    intro x Q p
    induction Q with
    | nil => simp [insB]
    | cons y Q ih =>
      unfold insB
      split
      · rw [List.mem_cons, ih, List.mem_cons]
        constructor
        · rintro (h | h | h) <;> simp [h]
        · rintro (h | h | h) <;> simp [h]
      · simp
  have : ∀ (P Q : GP) p, p ∈ P.foldl (fun out x => insB (rP n) x out) Q ↔ p ∈ P ∨ p ∈ Q := by
    intro P
    induction P with
    | nil => intro Q p; simp
    | cons x P ih =>
      intro Q p
      rw [List.foldl_cons, ih, hi, List.mem_cons]
      constructor
      · rintro (h | h | h) <;> simp [h]
      · rintro ((h | h) | h) <;> simp [h]
  intro p
  rw [sortP, this]
  simp
theorem sortP_snoc (n : Nat) (P : GP) (x : Nat × Value) : sortP n (P ++ [x]) = insB (rP n) x (sortP n P) := by simp [sortP]
theorem gpV_append (n : Nat) (P Q : GP) : gpV n (P ++ Q) = gpV n P ++ gpV n Q := by simp [gpV]
/-- The cells of games number i, i+1, .. -/
theorem gpV_at (n : Nat) (P : GP) (i t : Nat) : (gpV n (P.drop i))[t]? = (gpV n P)[i*2+t]? := by
  by_cases h : i ≤ P.length
  · conv => rhs; rw [← List.take_append_drop i P, gpV_append, List.getElem?_append_right (by rw [gpV_len, List.length_take]; omega)]
    rw [gpV_len, List.length_take, Nat.min_eq_left h]
    congr 1; omega
  · rw [List.drop_eq_nil_of_le (by omega)]
    rw [List.getElem?_eq_none (by simp [gpV]), List.getElem?_eq_none (by rw [gpV_len]; omega)]
theorem gpV_pair (n : Nat) (P : GP) (i : Nat) (h : i < P.length) : (gpV n P)[i*2]? = some (.int .i64 n) ∧ (gpV n P)[i*2+1]? = some (P.getD i (0, .slice none 0 0)).2 := by
  have h0 := gpV_at n P i 0
  have h1 := gpV_at n P i 1
  rw [List.drop_eq_getElem_cons h] at h0 h1
  show (gpV n P)[i*2+0]? = _ ∧ _
  rw [← h0, ← h1, List.getD_eq_getElem?_getD, List.getElem?_eq_getElem h]
  exact ⟨rfl, rfl⟩
section
variable {P : Program} (w : World)
theorem step_append_noneG {ops : Array Oper} {o : Oper} {a : Act} {K : Act → World → Prop} {Q : Exit → Act → World → Prop} {E : Prop} (hgd : o.guard = none) (s x : Operand) (t : TypeId)
    (ho : o.op = .call { callee := .builtin .append, args := #[s, x], argTypes := #[t, t] })
    (base : Nat) (e : TypeId) (i : TypeInfo) (size : Nat) (ht : P.underlying t = some (.slice e)) (hi : P.info? e = some i)
    (v : Value) (n : Nat) (xs : List Value) (hs : a.eval s = v) (hown : w.ownsRow base e size v n xs) (hx : a.eval x = .slice none 0 0)
    (h : K (a.put o.dst v) w) :
    if Region.wanted o (yielded ops a.tmps) = true then Oper.wp P o a w K Q else E := by
  have hw : Region.wanted o (yielded ops a.tmps) = true := by simp [Region.wanted, hgd]
  rw [if_pos hw]
  have hrun := run_append_owned_none (P := P) (w := w) base t o.type e i size ht hi v n xs hown
  unfold Oper.wp
  simp [execOp, ho, resolve, invoke, builtin, hs, hx, hrun, Result.andThen]
  exact h
end
theorem own_emptyG {W : World} {base B : Nat} (hb : base ≤ B) (h : W.heap[B]? = some (.cells #[] 55)) : W.ownsRow base 55 2 (.slice (some ⟨B, 0, none⟩) 0 0) 0 [] :=
  ⟨rfl, Or.inr ⟨B, 0, #[], rfl, hb, h, Nat.le_refl _, by unfold maxLen; omega, rfl, rfl⟩⟩
/-- The first k games of a row, as what is appended. -/
theorem news_take {W : World} {base g m cp n : Nat} {Q : GP} (hm : Q.length = m) (h : W.ownsRow base 55 2 (.slice (some ⟨g, 0, none⟩) m cp) m (gpV n Q)) (k : Nat) (hk : k ≤ m) : ∀ (j : Nat) (u : Value), (gpV n (Q.take k))[j]? = some u → W.cell? ((⟨g, 0, none⟩ : Addr).add j) = some u := by
  intro j u hj
  have hj2 : j < (Q.take k).length * 2 := by
    have := (List.getElem?_eq_some_iff.1 hj).1
    rwa [gpV_len] at this
  rw [List.length_take] at hj2
  rw [show (⟨g, 0, none⟩ : Addr).add j = ⟨g, j, none⟩ from by unfold Addr.add; split <;> simp_all, h.cellAt j (by omega), ← hj]
  conv => lhs; rw [← List.take_append_drop k Q, gpV_append]
  rw [List.getElem?_append_left (by rw [gpV_len, List.length_take]; omega)]
theorem news_drop {W : World} {base g m cp n : Nat} {Q : GP} (hm : Q.length = m) (h : W.ownsRow base 55 2 (.slice (some ⟨g, 0, none⟩) m cp) m (gpV n Q)) (k : Nat) (hk : k ≤ m) : ∀ (j : Nat) (u : Value), (gpV n (Q.drop k))[j]? = some u → W.cell? ((⟨g, k * 2, none⟩ : Addr).add j) = some u := by
  intro j u hj
  have hj2 : j < (Q.drop k).length * 2 := by
    have := (List.getElem?_eq_some_iff.1 hj).1
    rwa [gpV_len] at this
  rw [List.length_drop] at hj2
  rw [show (⟨g, k * 2, none⟩ : Addr).add j = ⟨g, k * 2 + j, none⟩ from by unfold Addr.add; split <;> simp_all, h.cellAt (k*2+j) (by omega), ← gpV_at, hj]
theorem gpV_one {n : Nat} {Q : GP} (hq : ∀ p ∈ Q, p.2.oneCell' = true) : ∀ u ∈ gpV n Q, u.oneCell' = true := by
  intro u hu
  simp only [gpV, List.mem_flatMap] at hu
  obtain ⟨p, hp, hu⟩ := hu
  simp only [List.mem_cons, List.not_mem_nil, or_false] at hu
  rcases hu with rfl | rfl
  · rfl
  · exact hq p hp
end Go.Proofs.Ytnldodnpakpeeaa
