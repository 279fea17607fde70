/- Contracts of the program's readGame and IsGame. -/
import Derived.Test.YtldpdjnedoflcabI3
import Derived.Outline
namespace Go.Proofs.Ytldpdjnedoflcab
open Go.RowKit Vo

theorem leastL_nodup (S : Nat → Bool) : (leastL S).Nodup := by
  have := filter_sorted 9 (minB S)
  unfold Sorted at this
  rw [List.pairwise_map] at this
  exact this.imp fun {a b} hb e => by rw [e, before_irrefl] at hb; cases hb
theorem leastL_low {S : Nat → Bool} (hS : ∀ s, S s = true → s < 512) : ∀ s ∈ leastL S, s < 512 := fun s h => hS s ((minB_iff hS).1 ((mem_leastL hS).1 h)).1
theorem leastL_len {S : Nat → Bool} (hS : ∀ s, S s = true → s < 512) : (leastL S).length ≤ 512 := nodup_len 512 _ (leastL_nodup S) (leastL_low hS)
theorem goodG_small {m : Int} {L : List (List Int)} (h : ¬ (1 ≤ m ∧ m ≤ 9)) : goodG m L = false := by
  unfold goodG; rw [decide_eq_false (fun ⟨a, b, _⟩ => h ⟨a, b⟩)]; rfl
theorem goodG_nil {m : Int} : goodG m [] = false := by
  unfold goodG; rw [decide_eq_false (fun ⟨_, _, c⟩ => c rfl)]; rfl
theorem goodG_rows {n : Nat} {L : List (List Int)} (h : rowsB n L = false) : goodG (n : Int) L = false := by
  unfold goodG; rw [Int.toNat_natCast, h]; simp
theorem goodG_least {n : Nat} {L : List (List Int)} (h : ¬ setsN L = leastL (inS (setsN L))) : goodG (n : Int) L = false := by
  unfold goodG; rw [decide_eq_false h]; simp
theorem goodG_yes {n : Nat} {L : List (List Int)} (h1 : 1 ≤ n) (h9 : n ≤ 9) (hL : L ≠ []) (hr : rowsB n L = true) (h : setsN L = leastL (inS (setsN L))) : goodG (n : Int) L = true := by
  unfold goodG; rw [Int.toNat_natCast, hr, decide_eq_true h, decide_eq_true (show 1 ≤ (n : Int) ∧ (n : Int) ≤ 9 ∧ L ≠ [] from ⟨by omega, by omega, hL⟩)]; rfl
theorem goodG_parts {m : Int} {L : List (List Int)} (h : goodG m L = true) : 1 ≤ m ∧ m ≤ 9 ∧ L ≠ [] ∧ rowsB m.toNat L = true ∧ setsN L = leastL (inS (setsN L)) := by
  unfold goodG at h
  simp only [Bool.and_eq_true, decide_eq_true_eq] at h
  exact ⟨h.1.1, h.1.2.1, h.1.2.2, h.2.1, h.2.2⟩

/-- A game read: its sets, or none. -/
def ReadG (m : Int) (L : List (List Int)) (w w' : World) (e : Ending) : Prop :=
  Below w.heap.size w w' ∧ ((goodG m L = true ∧ ∃ B cp, e = .returned (.tuple #[.agg #[.int .i64 m, .slice B L.length cp], .bool true]) ∧ w'.ownsRow w.heap.size 67 1 (.slice B L.length cp) L.length (setsV (setsN L))) ∨ (goodG m L = false ∧ e = .returned (.tuple #[.agg #[.int .i64 0, .slice none 0 0], .bool false])))

end Go.Proofs.Ytldpdjnedoflcab
