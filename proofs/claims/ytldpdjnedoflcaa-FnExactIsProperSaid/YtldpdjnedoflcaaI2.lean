/- Games as arguments: how large they are, and how they are copied. -/
import Derived.Test.YtldpdjnedoflcaaK4
import Derived.Test.YtldpdjnedoflcaaR5
import Derived.Test.YtldpdjnedoflcaaL1
namespace Go.Proofs.Ytldpdjnedoflcaa
open Go.RowKit Vo

/-- A slice of slices of integers that came in: what is known of it. -/
def KSS (w : World) (A : Option Addr) (n : Nat) (L : List (List Int)) : Prop :=
  L.length = n ∧ ∃ b off, (1 ≤ n → A = some ⟨b, off, none⟩ ∧ b < w.heap.size) ∧ ∀ i, i < n → ∃ A' cap, w.cell? ⟨b, off + i, none⟩ = some (.slice A' (L.getD i []).length cap) ∧ (L.getD i []).length ≤ 9223372036854775807 ∧ Known w A' (L.getD i []).length (L.getD i [])
theorem KSS.now {w w' : World} {A : Option Addr} {n : Nat} {L : List (List Int)} (h : KSS w A n L) (hb : Below w.heap.size w w') : KSS w' A n L := by
  obtain ⟨h1, b, off, h2, h3⟩ := h
  refine ⟨h1, b, off, fun hn => ⟨(h2 hn).1, Nat.lt_of_lt_of_le (h2 hn).2 hb.size⟩, fun i hi => ?_⟩
  obtain ⟨A', cap, hc, hm, hk⟩ := h3 i hi
  exact ⟨A', cap, (hb.cell (p := ⟨b, off + i, none⟩) (h2 (by omega)).2).trans hc, hm, hk.now hb⟩

theorem totK_succ (L : List (List Int)) (k : Nat) : totK L (k+1) = totK L k + (L.getD k []).length := rfl
theorem tot_row {L : List (List Int)} {n i : Nat} (hn : L.length = n) (hi : i < n) : totK L i + (L.getD i []).length ≤ tot L := by
  have h1 : totK L (i+1) ≤ totK L n := totK_le L (by omega)
  have h2 := totK_succ L i
  have h3 : totK L n = tot L := by rw [← hn]; rfl
  omega

end Go.Proofs.Ytldpdjnedoflcaa
