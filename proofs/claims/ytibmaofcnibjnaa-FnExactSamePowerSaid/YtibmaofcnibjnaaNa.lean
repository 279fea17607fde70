/- Members in groups of equal power: plain facts, and groups that grow anywhere. -/
import Derived.Test.YtibmaofcnibjnaaNd
import Derived.Outline
namespace Go.Proofs.Ytibmaofcnibjnaa
open Go.RowKit Vo

/-- The powers that were seen among the first j members, and their members. -/
def samS (f : Nat → Nat × Nat) : Nat → List (Nat × Nat) × List (List Int)
  | 0 => ([], [])
  | j+1 => if (samS f j).1.findIdx (· == f j) < (samS f j).1.length then ((samS f j).1, (samS f j).2.set ((samS f j).1.findIdx (· == f j)) ((samS f j).2.getD ((samS f j).1.findIdx (· == f j)) [] ++ [(j : Int)])) else ((samS f j).1 ++ [f j], (samS f j).2 ++ [[(j : Int)]])
def samK (f : Nat → Nat × Nat) (j : Nat) : List (List Int) := (samS f j).2
def samP (f : Nat → Nat × Nat) (j : Nat) : List (Nat × Nat) := (samS f j).1
def samI (f : Nat → Nat × Nat) (j : Nat) : Nat := (samP f j).findIdx (· == f j)
theorem samS_old {f : Nat → Nat × Nat} {j : Nat} (h : samI f j < (samP f j).length) : samP f (j+1) = samP f j ∧ samK f (j+1) = (samK f j).set (samI f j) ((samK f j).getD (samI f j) [] ++ [(j : Int)]) := by
  unfold samP samK
  simp only [samS]
  have h' : (samS f j).1.findIdx (· == f j) < (samS f j).1.length := h
  rw [if_pos h']
  exact ⟨rfl, rfl⟩
theorem samS_new {f : Nat → Nat × Nat} {j : Nat} (h : ¬ samI f j < (samP f j).length) : samP f (j+1) = samP f j ++ [f j] ∧ samK f (j+1) = samK f j ++ [[(j : Int)]] := by
  unfold samP samK
  simp only [samS]
  have h' : ¬ (samS f j).1.findIdx (· == f j) < (samS f j).1.length := h
  rw [if_neg h']
  exact ⟨rfl, rfl⟩
/-- What holds of them: as many groups as powers, no power twice, each group's first member has its power. -/
theorem sam_inv (f : Nat → Nat × Nat) : ∀ j, (samK f j).length = (samP f j).length ∧ (samP f j).length ≤ j ∧ (∀ i t, i < t → t < (samP f j).length → (samP f j).getD i (0, 0) ≠ (samP f j).getD t (0, 0)) ∧ ∀ i, i < (samP f j).length → ∃ h : Nat, h < j ∧ ((samK f j).getD i [])[0]? = some (h : Int) ∧ f h = (samP f j).getD i (0, 0) ∧ ((samK f j).getD i []).length ≤ j
  | 0 => ⟨rfl, Nat.le_refl _, fun i t _ h => by simp [samP, samS] at h, fun i h => by simp [samP, samS] at h⟩
  | j+1 => by
    obtain ⟨h1, h2, h3, h4⟩ := sam_inv f j
    by_cases hi : samI f j < (samP f j).length
    · obtain ⟨e1, e2⟩ := samS_old hi
      rw [e1, e2, List.length_set]
      refine ⟨h1, by omega, h3, fun i hii => ?_⟩
      obtain ⟨h, q1, q2, q3, q4⟩ := h4 i hii
      by_cases e : i = samI f j
      · rw [← e, List.getD_eq_getElem?_getD, List.getElem?_set_self (by omega)]
        refine ⟨h, by omega, ?_, q3, by rw [Option.getD_some, List.length_append, List.length_cons, List.length_nil]; omega⟩
        rw [Option.getD_some]
        have hpos : 0 < ((samK f j).getD i []).length := by
          rcases Nat.eq_zero_or_pos ((samK f j).getD i []).length with hz | hz
          · rw [List.getElem?_eq_none (by omega)] at q2; cases q2
          · exact hz
        rw [List.getElem?_append_left hpos]
        exact q2
      · rw [List.getD_eq_getElem?_getD, List.getElem?_set_ne (fun e2 => e e2.symm), ← List.getD_eq_getElem?_getD]
        exact ⟨h, by omega, q2, q3, by omega⟩
    · obtain ⟨e1, e2⟩ := samS_new hi
      rw [e1, e2]
      simp only [List.length_append, List.length_cons, List.length_nil]
      have hno : ∀ i, i < (samP f j).length → (samP f j).getD i (0, 0) ≠ f j := fun i hii e => by
        have hx : samI f j ≤ i := by
          unfold samI
          by_cases hc : (samP f j).findIdx (· == f j) ≤ i
          · exact hc
          · have := List.not_of_lt_findIdx (p := (· == f j)) (xs := samP f j) (i := i) (by omega)
            rw [List.getD_eq_getElem?_getD, List.getElem?_eq_getElem hii] at e
            simp at e
            simp [e] at this
        omega
      refine ⟨by omega, by omega, fun i t hit ht => ?_, fun i hii => ?_⟩
      · by_cases e : t = (samP f j).length
        · subst e
          rw [List.getD_eq_getElem?_getD, List.getElem?_append_left (by omega), ← List.getD_eq_getElem?_getD]
          rw [show (samP f j ++ [f j]).getD (samP f j).length (0, 0) = f j from by simp]
          exact hno i (by omega)
        · rw [List.getD_eq_getElem?_getD, List.getElem?_append_left (by omega), ← List.getD_eq_getElem?_getD, List.getD_eq_getElem?_getD (l := samP f j ++ [f j]), List.getElem?_append_left (by omega), ← List.getD_eq_getElem?_getD]
          exact h3 i t hit (by omega)
      · by_cases e : i = (samP f j).length
        · subst e
          refine ⟨j, by omega, ?_, by simp, ?_⟩
          · rw [← h1]; simp
          · rw [← h1]; simp
        · obtain ⟨h, q1, q2, q3, q4⟩ := h4 i (by omega)
          rw [List.getD_eq_getElem?_getD, List.getElem?_append_left (by omega), ← List.getD_eq_getElem?_getD, List.getD_eq_getElem?_getD (l := samP f j ++ [f j]), List.getElem?_append_left (by omega), ← List.getD_eq_getElem?_getD]
          exact ⟨h, by omega, q2, q3, by omega⟩
theorem samI_at {f : Nat → Nat × Nat} {j : Nat} (h : samI f j < (samP f j).length) : (samP f j).getD (samI f j) (0, 0) = f j := by
  have := List.findIdx_getElem (p := (· == f j)) (xs := samP f j) (w := h)
  rw [List.getD_eq_getElem?_getD, List.getElem?_eq_getElem h]
  exact eq_of_beq this
theorem samI_before {f : Nat → Nat × Nat} {j t : Nat} (h : t < samI f j) (ht : t < (samP f j).length) : (samP f j).getD t (0, 0) ≠ f j := by
  have := List.not_of_lt_findIdx (p := (· == f j)) (xs := samP f j) (i := t) h
  rw [List.getD_eq_getElem?_getD, List.getElem?_eq_getElem ht]
  simpa using this
theorem samI_first {f : Nat → Nat × Nat} {j t : Nat} (ht : t < (samP f j).length) (he : (samP f j).getD t (0, 0) = f j) (hb : ∀ i, i < t → (samP f j).getD i (0, 0) ≠ f j) : samI f j = t := by
  rcases Nat.lt_trichotomy (samI f j) t with h | h | h
  · exact absurd (samI_at (by omega)) (hb _ h)
  · exact h
  · exact absurd he (samI_before h ht)
theorem samI_none {f : Nat → Nat × Nat} {j : Nat} (hb : ∀ i, i < (samP f j).length → (samP f j).getD i (0, 0) ≠ f j) : ¬ samI f j < (samP f j).length := fun h => hb _ h (samI_at h)
theorem samI_uniq {f : Nat → Nat × Nat} {j t : Nat} (ht : t < (samP f j).length) (he : (samP f j).getD t (0, 0) = f j) : samI f j = t := by
  refine samI_first ht he (fun i hi e => ?_)
  exact (sam_inv f j).2.2.1 i t hi ht (by rw [e, he])

/-- A group grows anywhere. -/
theorem GR.at {base : Nat} {K : List (List Int)} {t : Nat} {k : Int} {v x : Value} {w w3 w4 : World} {gv gg cap cv n l : Nat} (ht : t < K.length) (h : GR base K v w) (hv : v = .slice (some ⟨gv, 0, none⟩) n cv) (hn : n = K.length) (hl : l = (K.getD t []).length) (hb3 : Below w.heap.size w w3)
    (hx : w.cell? ⟨gv, t, none⟩ = some x) (ho : w4.ownsRow base 3 1 (.slice (some ⟨gg, 0, none⟩) (l + 1) cap) (l + 1) ((K.getD t []).map (Value.int .i64) ++ [.int .i64 k])) (hg : w3.grownBy w4 x.ownBlock) (hat : x.ownBlock = some gg ∨ w3.heap.size ≤ gg) :
    GR base (K.set t (K.getD t [] ++ [k])) v (w4.setCell ⟨gv, t, none⟩ (.slice (some ⟨gg, 0, none⟩) (l + 1) cap)) := by
  subst hv
  subst hn
  subst hl
  obtain ⟨xs, hos, h1, h2⟩ := h
  have hz3 := hb3.size
  have xsl : xs.length = K.length := by have := hos.1; simpa using this
  have hcx : xs[t]? = some x := by rw [← hos.cellAt t (by omega)]; exact hx
  have hgvl : gv < w.heap.size := owns_lt hos rfl
  obtain ⟨x', hx', hrx, hxv⟩ := h1 t ht
  rw [hcx] at hx'
  injection hx' with hx'
  subst hx'
  have hvx : (Value.slice (some ⟨gv, 0, none⟩) K.length cv).ownBlock = none ∨ (Value.slice (some ⟨gv, 0, none⟩) K.length cv).ownBlock ≠ x.ownBlock := by
    rcases hxv with e | e
    · exact Or.inr (by rw [e]; simp [Value.ownBlock])
    · exact Or.inr (Ne.symm e)
  have ho4 := (owns_now hos hb3).kept hg hvx
  have hst := (ho4.stored t (.slice (some ⟨gg, 0, none⟩) ((K.getD t []).length + 1) cap)).1
  have hggv : gg ≠ gv := by
    rcases hat with ha | ha
    · rcases hxv with e | e
      · rw [e] at ha; cases ha
      · intro e2; exact e (by rw [ha, e2]; rfl)
    · omega
  -- no other group lies where this one has come to lie
  have key : ∀ y z, y < K.length → y ≠ t → xs[y]? = some z → z.ownBlock = none ∨ z.ownBlock ≠ x.ownBlock := fun y z hy hyt hz => by
    rcases Nat.lt_or_gt_of_ne hyt with h0 | h0
    · exact h2 y t z x h0 hz hcx
    · rcases h2 t y x z h0 hcx hz with e | e
      · rw [e]
        cases z.ownBlock with
        | none => exact Or.inl rfl
        | some b => exact Or.inr (by simp)
      · exact Or.inr (Ne.symm e)
  have key2 : ∀ y z, y < K.length → y ≠ t → xs[y]? = some z → z.ownBlock = none ∨ z.ownBlock ≠ some gg := fun y z hy hyt hz => by
    obtain ⟨z', hz', hr, _⟩ := h1 y hy
    rw [hz] at hz'
    injection hz' with hz'
    subst hz'
    rcases key y z hy hyt hz with e | e
    · exact Or.inl e
    · rcases hat with ha' | ha'
      · exact Or.inr (by rw [← ha']; exact e)
      · refine Or.inr fun e2 => ?_
        have := owns_lt hr e2
        omega
  refine ⟨xs.set t (.slice (some ⟨gg, 0, none⟩) ((K.getD t []).length + 1) cap), by rw [List.length_set]; simpa using hst, fun i hi => ?_, fun i j a b hij ha hb => ?_⟩
  · rw [List.length_set] at hi
    by_cases e : i = t
    · subst e
      have hE : (K.set i (K.getD i [] ++ [k])).getD i [] = K.getD i [] ++ [k] := by rw [List.getD_eq_getElem?_getD, List.getElem?_set_self hi, Option.getD_some]
      rw [hE]
      refine ⟨_, by rw [List.getElem?_set_self (by omega)], ?_, Or.inr ?_⟩
      · have := ownsRow_setCell_other ho (a := ⟨gv, i, none⟩) (by simp [Value.ownBlock]; exact hggv) (.slice (some ⟨gg, 0, none⟩) ((K.getD i []).length + 1) cap)
        simpa using this
      · simp [Value.ownBlock]; exact hggv
    · obtain ⟨y, hy, hr, hn⟩ := h1 i hi
      have hE : (K.set t (K.getD t [] ++ [k])).getD i [] = K.getD i [] := by rw [List.getD_eq_getElem?_getD, List.getElem?_set_ne (fun e2 => e e2.symm), ← List.getD_eq_getElem?_getD]
      rw [hE]
      refine ⟨y, by rw [List.getElem?_set_ne (fun e2 => e e2.symm)]; exact hy, ?_, hn⟩
      refine ownsRow_setCell_other ((owns_now hr hb3).kept hg (key i y hi e hy)) (a := ⟨gv, t, none⟩) ?_ _
      rcases hn with e2 | e2
      · rw [e2]; simp
      · exact e2
  · have hjl : j < K.length := by
      rcases Nat.lt_or_ge j K.length with h | h
      · exact h
      · rw [List.getElem?_eq_none (by simp; omega)] at hb; cases hb
    by_cases e1 : i = t
    · subst e1
      rw [List.getElem?_set_self (by omega)] at ha
      injection ha with ha
      subst ha
      rw [List.getElem?_set_ne (by omega)] at hb
      rcases key2 j b hjl (by omega) hb with e | e
      · exact Or.inr (by rw [e]; simp [Value.ownBlock])
      · exact Or.inr (by simp only [Value.ownBlock]; exact Ne.symm e)
    · rw [List.getElem?_set_ne (fun e2 => e1 e2.symm)] at ha
      by_cases e : j = t
      · subst e
        rw [List.getElem?_set_self (by omega)] at hb
        injection hb with hb
        subst hb
        exact key2 i a (by omega) (by omega) ha
      · rw [List.getElem?_set_ne (fun e2 => e e2.symm)] at hb
        exact h2 i j a b hij ha hb
end Go.Proofs.Ytibmaofcnibjnaa
