/- Plain facts on lists whose numbers fall: inserted one by one, or sorted and turned round. -/
import Derived.Test.YtkeiojfnjgjliaaBase
namespace Go.Proofs.Ytkeiojfnjgjliaa
open Go.RowKit Vo

def Falls (L : List Int) : Prop := L.Pairwise fun a b => b ≤ a
/-- x behind all that are at least x. -/
def insD (x : Int) (L : List Int) : List Int := L.takeWhile (fun y => decide (x ≤ y)) ++ x :: L.dropWhile (fun y => decide (x ≤ y))
def insAll (ws : List Int) : Nat → List Int
  | 0 => []
  | k+1 => insD (ws.getD k 0) (insAll ws k)
def firstL (ws : List Int) (k : Nat) : List Int := (List.range k).map fun j => ws.getD j 0
theorem firstL_succ (ws : List Int) (k : Nat) : firstL ws (k+1) = firstL ws k ++ [ws.getD k 0] := by simp [firstL, List.range_succ]
theorem firstL_len (ws : List Int) (k : Nat) : (firstL ws k).length = k := by simp [firstL]
theorem insD_perm (x : Int) (L : List Int) : (insD x L).Perm (x :: L) := by
  unfold insD
  have h : L = L.takeWhile (fun y => decide (x ≤ y)) ++ L.dropWhile (fun y => decide (x ≤ y)) := (List.takeWhile_append_dropWhile).symm
  exact List.perm_middle.trans (by rw [List.takeWhile_append_dropWhile])
theorem insD_len (x : Int) (L : List Int) : (insD x L).length = L.length + 1 := by
  have := (insD_perm x L).length_eq; simpa using this
theorem falls_drop {x : Int} : ∀ {L : List Int}, Falls L → ∀ y ∈ L.dropWhile (fun y => decide (x ≤ y)), y < x
  | [], _, y, hy => by simp at hy
  | a :: L, h, y, hy => by
    obtain ⟨h1, h2⟩ := List.pairwise_cons.1 h
    by_cases e : x ≤ a
    · rw [List.dropWhile_cons, if_pos (by simpa using e)] at hy
      exact falls_drop h2 y hy
    · rw [List.dropWhile_cons, if_neg (by simpa using e)] at hy
      rcases List.mem_cons.1 hy with rfl | hy
      · omega
      · have := h1 y hy; omega
theorem take_ge {x : Int} : ∀ {L : List Int}, ∀ y ∈ L.takeWhile (fun y => decide (x ≤ y)), x ≤ y
  | [], y, hy => by simp at hy
  | a :: L, y, hy => by
    by_cases e : x ≤ a
    · rw [List.takeWhile_cons, if_pos (by simpa using e)] at hy
      rcases List.mem_cons.1 hy with rfl | hy
      · exact e
      · exact take_ge y hy
    · rw [List.takeWhile_cons, if_neg (by simpa using e)] at hy
      simp at hy
theorem insD_falls {x : Int} {L : List Int} (h : Falls L) : Falls (insD x L) := by
  unfold Falls insD
  have hs : (L.takeWhile (fun y => decide (x ≤ y)) ++ L.dropWhile (fun y => decide (x ≤ y))).Pairwise fun a b => b ≤ a := by rw [List.takeWhile_append_dropWhile]; exact h
  obtain ⟨p1, p2, p3⟩ := List.pairwise_append.1 hs
  refine List.pairwise_append.2 ⟨p1, List.pairwise_cons.2 ⟨fun y hy => by have := falls_drop h y hy; omega, p2⟩, fun a ha b hb => ?_⟩
  have hax : x ≤ a := take_ge a ha
  rcases List.mem_cons.1 hb with rfl | hb
  · exact hax
  · have := falls_drop h b hb; omega
theorem insAll_falls (ws : List Int) : ∀ k, Falls (insAll ws k)
  | 0 => List.Pairwise.nil
  | k+1 => insD_falls (insAll_falls ws k)
theorem insAll_perm (ws : List Int) : ∀ k, (insAll ws k).Perm (firstL ws k)
  | 0 => by simp [insAll, firstL]
  | k+1 => by
    rw [firstL_succ]
    refine (insD_perm _ _).trans ?_
    refine ((insAll_perm ws k).cons _).trans ?_
    exact (List.perm_append_singleton _ _).symm
theorem insAll_len (ws : List Int) (k : Nat) : (insAll ws k).length = k := by rw [(insAll_perm ws k).length_eq, firstL_len]

/-- Sorted, and turned round. -/
def turnL (ws : List Int) (n : Nat) : List Int := ((firstL ws n).mergeSort fun x y => decide (x ≤ y)).reverse
theorem falls_unique {L M : List Int} (hL : Falls L) (hM : Falls M) (h : L.Perm M) : L = M :=
  h.eq_of_pairwise (le := fun a b => b ≤ a) (fun a b _ _ h1 h2 => by omega) hL hM
theorem turn_is (ws : List Int) (n : Nat) : turnL ws n = insAll ws n := by
  refine falls_unique ?_ (insAll_falls ws n) ?_
  · unfold Falls turnL
    rw [List.pairwise_reverse]
    have := List.pairwise_mergeSort (le := fun x y : Int => decide (x ≤ y)) (fun a b c h1 h2 => by simp at *; omega) (fun a b => by simp; omega) (firstL ws n)
    exact this.imp fun h => by simpa using h
  · unfold turnL
    exact (List.reverse_perm _).trans ((List.mergeSort_perm _ _).trans (insAll_perm ws n).symm)
def srtQ (q : Int) (ws : List Int) (n : Nat) : Int := if goodB q ws n then q else 0
theorem srtQ_yes {q ws n} (h : goodB q ws n = true) : srtQ q ws n = q := if_pos h
theorem srtQ_no {q ws n} (h : goodB q ws n = false) : srtQ q ws n = 0 := if_neg (by rw [h]; simp)
/-- How many are at least x, from the front. -/
def posD (x : Int) (L : List Int) : Nat := (L.takeWhile fun y => decide (x ≤ y)).length
theorem posD_le (x : Int) (L : List Int) : posD x L ≤ L.length := by
  unfold posD; exact (List.takeWhile_prefix _).length_le
theorem posD_take (x : Int) (L : List Int) : L.take (posD x L) = L.takeWhile fun y => decide (x ≤ y) := by
  unfold posD
  exact (List.prefix_iff_eq_take.1 (List.takeWhile_prefix _)).symm
theorem posD_drop (x : Int) (L : List Int) : L.drop (posD x L) = L.dropWhile fun y => decide (x ≤ y) := by
  have h := List.takeWhile_append_dropWhile (p := fun y => decide (x ≤ y)) (l := L)
  have h2 := List.take_append_drop (posD x L) L
  rw [posD_take] at h2
  exact List.append_cancel_left (h2.trans h.symm)
theorem posD_ge {x : Int} {L : List Int} {j : Nat} (h : j < posD x L) : x ≤ L.getD j 0 := by
  have hl := posD_le x L
  refine take_ge (L := L) _ ?_
  rw [← posD_take, List.getD_eq_getElem?_getD, List.getElem?_eq_getElem (show j < L.length by omega)]
  exact List.mem_take_iff_getElem.2 ⟨j, by omega, rfl⟩
theorem posD_end {x : Int} {L : List Int} (hF : Falls L) (h : posD x L < L.length) : L.getD (posD x L) 0 < x := by
  refine falls_drop hF _ ?_
  rw [← posD_drop, List.getD_eq_getElem?_getD, List.getElem?_eq_getElem h]
  exact List.mem_drop_iff_getElem.2 ⟨0, by omega, by simp⟩
theorem insD_at (x : Int) (L : List Int) : insD x L = L.take (posD x L) ++ x :: L.drop (posD x L) := by
  unfold insD; rw [posD_take, posD_drop]
end Go.Proofs.Ytkeiojfnjgjliaa
