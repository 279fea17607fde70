/- Games as answers: how they are marked, held and compared. -/
import Derived.Test.YtlnlkfldlgchhaaK1
import Derived.Deep.RegionHeld3
import Derived.Outline
namespace Go.Proofs.Ytlnlkfldlgchhaa
open Go.RowKit Vo

/-- The lengths of the first k lists together. -/
def totK (L : List (List Int)) : Nat → Nat
  | 0 => 0
  | k+1 => totK L k + (L.getD k []).length
def tot (L : List (List Int)) : Nat := totK L L.length
theorem totK_le (L : List (List Int)) {k n : Nat} (h : k ≤ n) : totK L k ≤ totK L n := by
  induction n with
  | zero => have : k = 0 := by omega
            rw [this]; exact Nat.le_refl _
  | succ n ih =>
    by_cases e : k = n + 1
    · rw [e]; exact Nat.le_refl _
    · exact Nat.le_trans (ih (by omega)) (by simp only [totK]; omega)

/-- A slice value that reads as these integers; its block, if it matters, is in lo .. hi. -/
abbrev RI (l : List Int) (lo hi : Nat) (v : Value) (w : World) : Prop := RS l lo hi v w

/-- A slice of slices of integers, for whoever reads. -/
def RSS0 (L : List (List Int)) (lo hi : Nat) (v : Value) (w : World) : Prop :=
  ∃ A cap, v = .slice A L.length cap ∧ (L.length = 0 ∨ ∃ g f, A = some ⟨g, 0, none⟩ ∧ lo ≤ g ∧ g < hi ∧ Own w g 22 L.length f ∧ ∀ i, i < L.length → RI (L.getD i []) lo hi (f i) w)
/-- So, each list in a block of its own (G i), apart from the outer one. -/
def RSS (L : List (List Int)) (lo hi : Nat) (v : Value) (w : World) : Prop :=
  ∃ A cap, v = .slice A L.length cap ∧ (L.length = 0 ∨ ∃ g f, A = some ⟨g, 0, none⟩ ∧ lo ≤ g ∧ g < hi ∧ Own w g 22 L.length f ∧ ∃ G : Nat → Nat, ∀ i, i < L.length → RI (L.getD i []) (G i) (G i + 1) (f i) w ∧ ((L.getD i []).length = 0 ∨ (lo ≤ G i ∧ G i < hi ∧ G i ≠ g ∧ ∀ j, j < i → (L.getD j []).length = 0 ∨ G j ≠ G i)))
def MSS (L : List (List Int)) (lo hi : Nat) (kk : Int) (v : Value) (w : World) : Prop :=
  ∃ A cap, v = .slice A L.length cap ∧ (L.length = 0 ∨ ∃ g f, A = some ⟨g, 0, none⟩ ∧ lo ≤ g ∧ g < hi ∧ Own w g 22 L.length f ∧ ∀ i, i < L.length → MS (L.getD i []) lo hi (kk + (totK L i : Nat)) (f i) w)

theorem RS.wide {l : List Int} {lo hi lo2 hi2 : Nat} {v : Value} {w : World} (h : RS l lo hi v w) (hl : l.length = 0 ∨ (lo2 ≤ lo ∧ hi ≤ hi2)) : RS l lo2 hi2 v w := by
  obtain ⟨A, cap, hv, h⟩ := h
  refine ⟨A, cap, hv, ?_⟩
  rcases h with h | ⟨g, hA, h1, h2, h⟩
  · exact Or.inl h
  · rcases hl with hl | hl
    · exact Or.inl hl
    · exact Or.inr ⟨g, hA, by omega, by omega, h⟩
theorem MS.wide {l : List Int} {lo hi lo2 hi2 : Nat} {kk : Int} {v : Value} {w : World} (h : MS l lo hi kk v w) (hl : l.length = 0 ∨ (lo2 ≤ lo ∧ hi ≤ hi2)) : MS l lo2 hi2 kk v w := by
  obtain ⟨A, cap, hv, h⟩ := h
  refine ⟨A, cap, hv, ?_⟩
  rcases h with h | ⟨g, hA, h1, h2, h⟩
  · exact Or.inl h
  · rcases hl with hl | hl
    · exact Or.inl hl
    · exact Or.inr ⟨g, hA, by omega, by omega, h⟩
theorem RS.keep {l : List Int} {lo hi : Nat} {v : Value} {w w' : World} (h : RS l lo hi v w) (e : l.length = 0 ∨ ∀ k, lo ≤ k → k < hi → w'.heap[k]? = w.heap[k]?) : RS l lo hi v w' := by
  obtain ⟨A, cap, hv, h⟩ := h
  refine ⟨A, cap, hv, ?_⟩
  rcases h with h | ⟨g, hA, h1, h2, h⟩
  · exact Or.inl h
  · rcases e with e | e
    · exact Or.inl e
    · exact Or.inr ⟨g, hA, h1, h2, Own.of_block h (e g h1 h2)⟩
theorem MS.keep {l : List Int} {lo hi : Nat} {kk : Int} {v : Value} {w w' : World} (h : MS l lo hi kk v w) (e : l.length = 0 ∨ ∀ k, lo ≤ k → k < hi → w'.heap[k]? = w.heap[k]?) : MS l lo hi kk v w' := by
  obtain ⟨A, cap, hv, h⟩ := h
  refine ⟨A, cap, hv, ?_⟩
  rcases h with h | ⟨g, hA, h1, h2, h⟩
  · exact Or.inl h
  · rcases e with e | e
    · exact Or.inl e
    · exact Or.inr ⟨g, hA, h1, h2, Own.of_block h (e g h1 h2)⟩

theorem RSS.weak {L : List (List Int)} {lo hi : Nat} {v : Value} {w : World} (h : RSS L lo hi v w) : RSS0 L lo hi v w := by
  obtain ⟨A, cap, hv, h⟩ := h
  refine ⟨A, cap, hv, ?_⟩
  rcases h with h | ⟨g, f, hA, h1, h2, ho, G, h⟩
  · exact Or.inl h
  · refine Or.inr ⟨g, f, hA, h1, h2, ho, fun i hi => ?_⟩
    obtain ⟨a, b⟩ := h i hi
    refine a.wide ?_
    rcases b with b | b
    · exact Or.inl b
    · exact Or.inr ⟨b.1, b.2.1⟩
theorem RSS0.lies {L : List (List Int)} {lo hi : Nat} {v : Value} {w : World} (h : RSS0 L lo hi v w) (hh : hi ≤ w.heap.size) : Lies (RSS0 L lo hi v) lo hi w := by
  refine ⟨hh, fun w' e => ?_⟩
  obtain ⟨A, cap, hv, h⟩ := h
  refine ⟨A, cap, hv, ?_⟩
  rcases h with h | ⟨g, f, hA, h1, h2, ho, h⟩
  · exact Or.inl h
  · exact Or.inr ⟨g, f, hA, h1, h2, ho.of_block (e g h1 h2), fun i hi => (h i hi).keep (Or.inr e)⟩
theorem RSS.lies {L : List (List Int)} {lo hi : Nat} {v : Value} {w : World} (h : RSS L lo hi v w) (hh : hi ≤ w.heap.size) : Lies (RSS L lo hi v) lo hi w := by
  refine ⟨hh, fun w' e => ?_⟩
  obtain ⟨A, cap, hv, h⟩ := h
  refine ⟨A, cap, hv, ?_⟩
  rcases h with h | ⟨g, f, hA, h1, h2, ho, G, h⟩
  · exact Or.inl h
  · refine Or.inr ⟨g, f, hA, h1, h2, ho.of_block (e g h1 h2), G, fun i hi => ⟨(h i hi).1.keep ?_, (h i hi).2⟩⟩
    rcases (h i hi).2 with h0 | h0
    · exact Or.inl h0
    · exact Or.inr fun k k1 k2 => e k (by omega) (by omega)
theorem MSS.lies {L : List (List Int)} {lo hi : Nat} {kk : Int} {v : Value} {w : World} (h : MSS L lo hi kk v w) (hh : hi ≤ w.heap.size) : Lies (MSS L lo hi kk v) lo hi w := by
  refine ⟨hh, fun w' e => ?_⟩
  obtain ⟨A, cap, hv, h⟩ := h
  refine ⟨A, cap, hv, ?_⟩
  rcases h with h | ⟨g, f, hA, h1, h2, ho, h⟩
  · exact Or.inl h
  · exact Or.inr ⟨g, f, hA, h1, h2, ho.of_block (e g h1 h2), fun i hi => (h i hi).keep (Or.inr e)⟩

theorem tot_parts (L : List (List Int)) {i n : Nat} (hn : n = L.length) (hi : i < n) (hm : tot L + n ≤ 1048576) : totK L i + (L.getD i []).length ≤ 1048576 := by
  have h1 : totK L (i+1) ≤ totK L n := totK_le L (by omega)
  have h2 : totK L (i+1) = totK L i + (L.getD i []).length := rfl
  have h3 : totK L n = tot L := by rw [hn]; rfl
  omega

end Go.Proofs.Ytlnlkfldlgchhaa

namespace Go.Proofs.Ytlnlkfldlgchhaa
open Go.RowKit Vo

/-- A game in memory of the call's own, and a truth. -/
def AnsG (R : List (List Int) → Nat → Nat → Value → World → Prop) (m : Int) (L : List (List Int)) (ok : Bool) (w w' : World) (e : Ending) : Prop :=
  ∃ A cap, e = .returned (.tuple #[.agg #[.int .i64 m, .slice A L.length cap], .bool ok]) ∧ Lies (R L w.heap.size w'.heap.size (.slice A L.length cap)) w.heap.size w'.heap.size w' ∧ Below w.heap.size w w'

theorem Lies.alloc {R : World → Prop} {lo hi : Nat} {w : World} (h : Lies R lo hi w) (o : Obj) : Lies R lo hi (w.alloc o) := h.now (below1 w o)
theorem Lies.rss0 {L : List (List Int)} {lo hi : Nat} {v : Value} {w : World} (h : Lies (RSS L lo hi v) lo hi w) : Lies (RSS0 L lo hi v) lo hi w := h.mono fun _ h => RSS.weak h

theorem RSS.wide {L : List (List Int)} {lo lo' hi hi' : Nat} {v : Value} {w : World} (h : RSS L lo hi v w) (hl : lo' ≤ lo) (hh : hi ≤ hi') : RSS L lo' hi' v w := by
  obtain ⟨A, cap, hv, h⟩ := h
  refine ⟨A, cap, hv, ?_⟩
  rcases h with h | ⟨g, f, hA, h1, h2, ho, G, h⟩
  · exact Or.inl h
  · refine Or.inr ⟨g, f, hA, by omega, by omega, ho, G, fun i hi => ⟨(h i hi).1, ?_⟩⟩
    rcases (h i hi).2 with h0 | ⟨a, b, c⟩
    · exact Or.inl h0
    · exact Or.inr ⟨by omega, by omega, c⟩
theorem Lies.rss_wide {L : List (List Int)} {lo lo' hi hi' : Nat} {v : Value} {w : World} (h : Lies (RSS L lo hi v) lo hi w) (hl : lo' ≤ lo) (hh : hi ≤ hi') (hs : hi' ≤ w.heap.size) : Lies (RSS L lo' hi' v) lo' hi' w :=
  ⟨hs, fun w' e => (h.2 w' fun k a b => e k (by omega) (by omega)).wide hl hh⟩
theorem Lies.far {R : World → Prop} {lo hi : Nat} {w : World} (h : Lies R lo hi w) {p : Addr} (hp : p.block < lo) (u : Value) : Lies R lo hi (w.setCell p u) :=
  h.keep (by simp) fun k a _ => Below.heap_setCell w p u k (by omega)
end Go.Proofs.Ytlnlkfldlgchhaa
