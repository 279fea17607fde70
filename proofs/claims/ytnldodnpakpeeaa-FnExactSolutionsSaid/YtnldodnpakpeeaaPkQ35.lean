/- Texts of Vb, Gj. -/
import Derived.Test.YtnldodnpakpeeaaPkQ34
import Derived.Outline
import Derived.Test.YtnldodnpakpeeaaPkQ33
namespace Go.Proofs.Ytnldodnpakpeeaa
open Go.RowKit Vo

/-- How many games, or proper games, of z members there are. -/
def gamesC (pr : Bool) (z : Int) : Nat := if inB z 1 4 then eachK (2^z.toNat) z.toNat pr (2^z.toNat) 0 else 0
theorem gamesC_at : (gamesC false 1, gamesC false 2, gamesC false 3, gamesC false 4) = (1, 4, 18, 166) := by decide +kernel
theorem gamesC_proper : (gamesC true 1, gamesC true 2, gamesC true 3, gamesC true 4) = (1, 3, 11, 80) := by decide +kernel

/-- The program's games, each by its least sets: those that begin so, and go on with some of these sets. -/
def deepK : Nat → List Nat → List Nat → List (List Nat)
  | 0, _, _ => []
  | _+1, _, [] => []
  | d+1, begin, s :: left => ((begin ++ [s]) :: deepK d (begin ++ [s]) (left.filter fun t => !(s &&& t == t || t &&& s == s))) ++ deepK d begin left
theorem deepK_at : ((deepK 16 [] ((inOrder 1).drop 1)).length, (deepK 16 [] ((inOrder 2).drop 1)).length, (deepK 16 [] ((inOrder 3).drop 1)).length, (deepK 16 [] ((inOrder 4).drop 1)).length) = (1, 4, 18, 166) := by decide +kernel
end Go.Proofs.Ytnldodnpakpeeaa

namespace Go.Proofs.Ytnldodnpakpeeaa
open Go.RowKit Vo

theorem infoSG : (Try.prog.info? 95).map (fun i => (i.zero, i.size, i.bytes)) = some (some (.agg #[.int .i64 0, .slice none 0 0]), 2, 32) := by kernel_rfl
/-- Games of m members: where their least sets lie (G), and how much room there is (C). -/
def GSb (base m : Nat) (Ls : List (List Nat)) (v : Value) (w : World) : Prop :=
  ∃ (xs : List Value) (G C : Nat → Nat), w.ownsRow base 95 2 v Ls.length xs ∧ ∀ i, i < Ls.length → xs[i*2]? = some (.int .i64 m) ∧ xs[i*2+1]? = some (.slice (some ⟨G i, 0, none⟩) (Ls.getD i []).length (C i)) ∧ some (G i) ≠ v.ownBlock ∧ w.ownsRow base 107 1 (.slice (some ⟨G i, 0, none⟩) (Ls.getD i []).length (C i)) (Ls.getD i []).length (setsV (Ls.getD i []))
theorem GSb.nil (base m : Nat) (w : World) : GSb base m [] (.slice none 0 0) w := ⟨[], fun _ => 0, fun _ => 0, World.ownsRow_nil _ _ _ _, fun i h => by simp at h⟩
theorem GSb.now {base m : Nat} {Ls : List (List Nat)} {v : Value} {w w' : World} (h : GSb base m Ls v w) (hb : Below w.heap.size w w') : GSb base m Ls v w' := by
  obtain ⟨xs, G, C, ho, h⟩ := h
  exact ⟨xs, G, C, owns_now ho hb, fun i hi => ⟨(h i hi).1, (h i hi).2.1, (h i hi).2.2.1, owns_now (h i hi).2.2.2 hb⟩⟩
theorem GSb.lt {base m : Nat} {Ls : List (List Nat)} {v : Value} {w : World} (h : GSb base m Ls v w) {k : Nat} (hk : v.ownBlock = some k) : base ≤ k ∧ k < w.heap.size := by
  obtain ⟨xs, G, C, ho, _⟩ := h
  exact ho.lt k hk
theorem owns_grown {w w' : World} {base : Nat} {e : TypeId} {size : Nat} {v : Value} {n : Nat} {xs : List Value} {row : Option Nat} (h : w.ownsRow base e size v n xs) (hg : w.grownBy w' row) (hne : ∀ k, v.ownBlock = some k → some k ≠ row) : w'.ownsRow base e size v n xs := by
  obtain ⟨h1, h2⟩ := h
  refine ⟨h1, ?_⟩
  rcases h2 with h2 | ⟨g, cap, cur, hv, hgb, hh, r⟩
  · exact Or.inl h2
  · exact Or.inr ⟨g, cap, cur, hv, hgb, (hg.block g (Array.getElem?_eq_some_iff.1 hh).1 (hne g (by rw [hv]; rfl))).trans hh, r⟩
/-- A game more. -/
theorem GSb.push {base m : Nat} {Ls : List (List Nat)} {l : List Nat} {v : Value} {w w2 : World} {g j c gg n cap H : Nat} (hn : n = Ls.length) (hj : j = l.length)
    (xs : List Value) (G C : Nat → Nat) (hgs : ∀ i, i < Ls.length → xs[i*2]? = some (.int .i64 m) ∧ xs[i*2+1]? = some (.slice (some ⟨G i, 0, none⟩) (Ls.getD i []).length (C i)) ∧ some (G i) ≠ v.ownBlock ∧ w.ownsRow base 107 1 (.slice (some ⟨G i, 0, none⟩) (Ls.getD i []).length (C i)) (Ls.getD i []).length (setsV (Ls.getD i [])))
    (hxs : xs.length = n * 2) (hrow : w.ownsRow base 107 1 (.slice (some ⟨g, 0, none⟩) j c) j (setsV l)) (hne : some g ≠ v.ownBlock)
    (hown : w2.ownsRow base 95 2 (.slice (some ⟨gg, 0, none⟩) (n + 1) cap) (n + 1) (xs ++ [.int .i64 m, .slice (some ⟨g, 0, none⟩) j c])) (hgrow : w.grownBy w2 v.ownBlock) (hat : v.ownBlock = some gg ∨ gg = H) (hH : w.heap.size ≤ H) :
    GSb base m (Ls ++ [l]) (.slice (some ⟨gg, 0, none⟩) (n + 1) cap) w2 := by
  have old : ∀ i, i < Ls.length → (Ls ++ [l]).getD i [] = Ls.getD i [] := fun i hi => by
    rw [List.getD_eq_getElem?_getD, List.getElem?_append_left hi, ← List.getD_eq_getElem?_getD]
  have new : (Ls ++ [l]).getD Ls.length [] = l := by simp
  have hglt : g < w.heap.size := (hrow.lt g rfl).2
  have hown' : w2.ownsRow base 95 2 (.slice (some ⟨gg, 0, none⟩) (n + 1) cap) (Ls ++ [l]).length (xs ++ [.int .i64 m, .slice (some ⟨g, 0, none⟩) j c]) := by
    rw [show (Ls ++ [l]).length = n + 1 by simp [hn]]; exact hown
  refine ⟨_, fun i => if i = Ls.length then g else G i, fun i => if i = Ls.length then c else C i, hown', fun i hi => ?_⟩
  simp only [List.length_append, List.length_cons, List.length_nil] at hi
  by_cases e : i = Ls.length
  · subst e
    simp only [if_true]
    rw [new, ← hj]
    refine ⟨?_, ?_, ?_, owns_grown hrow hgrow (fun k hk => by injection hk with hk; rw [← hk]; exact hne)⟩
    · rw [List.getElem?_append_right (by omega), hxs, hn]; simp
    · rw [List.getElem?_append_right (by omega), hxs, hn]; simp
    · intro e
      have e : g = gg := by simpa [Value.ownBlock] using e
      rcases hat with h | h
      · exact hne (by rw [h, e])
      · omega
  · have hi' : i < Ls.length := by omega
    simp only [if_neg e]
    rw [old i hi']
    obtain ⟨h1, h2, h3, h4⟩ := hgs i hi'
    refine ⟨?_, ?_, ?_, owns_grown h4 hgrow (fun k hk => by injection hk with hk; rw [← hk]; exact h3)⟩
    · rw [List.getElem?_append_left (by omega)]; exact h1
    · rw [List.getElem?_append_left (by omega)]; exact h2
    · intro e
      have e : G i = gg := by simpa [Value.ownBlock] using e
      have := (h4.lt (G i) rfl).2
      rcases hat with h | h
      · exact h3 (by rw [h, e])
      · omega

theorem apart_filter (s : Nat) (L : List Nat) : (L.filter fun t => !(s &&& t == t || t &&& s == s)) = L.filter (apartB s) := by
  rfl
theorem deepK_cons (d : Nat) (B : List Nat) (s : Nat) (L : List Nat) : deepK (d+1) B (s :: L) = ((B ++ [s]) :: deepK d (B ++ [s]) (L.filter (apartB s))) ++ deepK d B L := by
  rw [← apart_filter]; rfl
theorem deepK_ge : ∀ (d d' : Nat) (B L : List Nat), L.length ≤ d → L.length ≤ d' → deepK d B L = deepK d' B L := by
  intro d
  induction d with
  | zero =>
    intro d' B L h h'
    have : L = [] := List.eq_nil_of_length_eq_zero (by omega)
    subst this
    cases d' <;> rfl
  | succ d ih =>
    intro d' B L h h'
    cases L with
    | nil => cases d' <;> rfl
    | cons s L =>
      cases d' with
      | zero => simp at h'
      | succ d' =>
        simp only [List.length_cons] at h h'
        have hf := List.length_filter_le (apartB s) L
        rw [deepK_cons, deepK_cons, ih d' (B ++ [s]) (L.filter (apartB s)) (by omega) (by omega), ih d' B L (by omega) (by omega)]
end Go.Proofs.Ytnldodnpakpeeaa
