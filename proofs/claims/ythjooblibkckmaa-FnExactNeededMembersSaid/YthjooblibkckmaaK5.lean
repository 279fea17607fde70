/- Answers in memory of the call's own, seen in a wider range, and behind stores elsewhere. -/
import Derived.Test.YthjooblibkckmaaK4
namespace Go.Proofs.Ythjooblibkckmaa
open Go.RowKit Vo

theorem RSS.wide {L : List (List Int)} {lo lo' hi hi' : Nat} {v : Value} {w : World} (h : RSS L lo hi v w) (hl : lo' ≤ lo) (hh : hi ≤ hi') : RSS L lo' hi' v w := by
  obtain ⟨A, cap, hv, h⟩ := h
  refine ⟨A, cap, hv, ?_⟩
  rcases h with h | ⟨g, f, hA, h1, h2, ho, G, h⟩
  · exact Or.inl h
  · refine Or.inr ⟨g, f, hA, by omega, by omega, ho, G, fun i hi => ⟨(h i hi).1, ?_⟩⟩
    rcases (h i hi).2 with h0 | ⟨a, b, c⟩
    · exact Or.inl h0
    · exact Or.inr ⟨by omega, by omega, c⟩
theorem Lies.rss_wide {L : List (List Int)} {lo lo' hi hi' : Nat} {v : Value} {w : World} (h : Lies (RSS L lo hi v) lo hi w) (hl : lo' ≤ lo) (hh : hi ≤ hi') (hs : hi' ≤ w.heap.size) : Lies (RSS L lo' hi' v) lo' hi' w :=
  ⟨hs, fun w' e => (h.2 w' fun k a b => e k (by omega) (by omega)).wide hl hh⟩
theorem Lies.far {R : World → Prop} {lo hi : Nat} {w : World} (h : Lies R lo hi w) {p : Addr} (hp : p.block < lo) (u : Value) : Lies R lo hi (w.setCell p u) :=
  h.keep (by simp) fun k a _ => Below.heap_setCell w p u k (by omega)
end Go.Proofs.Ythjooblibkckmaa
