/- Contracts of the library's iterator over the values of a map of sets. -/
import Derived.Test.YtldpdjnedoflcaaE7
import Derived.Sort.MapsRangeIn
import Derived.RegionIn
import Derived.Test.YtldpdjnedoflcaaE4
import Derived.Test.YtldpdjnedoflcaaR3
import Derived.Maps.RangeWalk
import Derived.Maps.OwnOps
import Derived.Maps.OwnSet
import Derived.DeepKeys4
namespace Go.Proofs.Ytldpdjnedoflcaa
open Go.RowKit Vo

theorem mapLaid : laidOutB Try.prog = true := by kernel_rfl
theorem wf_small {a : Int} (h0 : 0 ≤ a) (h1 : a ≤ 9) : (Lit.int .i64 a).wf = true := WalkArith.wf_i64 (by omega)
/-- What the key of a set reads as. -/
def klit (s : Nat) : Lit := .string (keyBytes [.int .i64 (keyAt s 0), .int .i64 (keyAt s 1), .int .i64 (keyAt s 2), .int .i64 (keyAt s 3), .int .i64 (keyAt s 4), .int .i64 (keyAt s 5), .int .i64 (keyAt s 6), .int .i64 (keyAt s 7), .int .i64 (keyAt s 8)])
theorem keyV_cells (s : Nat) : (keyV s).cells.toList = [.int .i64 (keyAt s 0), .int .i64 (keyAt s 1), .int .i64 (keyAt s 2), .int .i64 (keyAt s 3), .int .i64 (keyAt s 4), .int .i64 (keyAt s 5), .int .i64 (keyAt s 6), .int .i64 (keyAt s 7), .int .i64 (keyAt s 8)] := rfl
theorem keyV_inj {s t : Nat} (hs : s < 512) (ht : t < 512) (h : keyV s = keyV t) : s = t := by
  have e := congrArg (fun v : Value => v.cells.toList) h
  simp only [keyV_cells] at e
  simp only [List.cons.injEq, Value.int.injEq, true_and, and_true] at e
  obtain ⟨h0, h1, h2, h3, h4, h5, h6, h7, h8⟩ := e
  refine keyAt_inj hs ht fun j hj => ?_
  have hj' : j = 0 ∨ j = 1 ∨ j = 2 ∨ j = 3 ∨ j = 4 ∨ j = 5 ∨ j = 6 ∨ j = 7 ∨ j = 8 := by omega
  rcases hj' with rfl | rfl | rfl | rfl | rfl | rfl | rfl | rfl | rfl
  · exact h0
  · exact h1
  · exact h2
  · exact h3
  · exact h4
  · exact h5
  · exact h6
  · exact h7
  · exact h8
abbrev DU : Type := DataW Unit
/-- The map has just the sets of M, each at its key. -/
structure MapIs (D : DU) (M : Nat → Bool) : Prop where
  map : Go.Maps.IsMap D
  dom : ∀ s, M s = true → s < 512
  has : ∀ s, s < 512 → Go.Maps.has D (klit s) = M s
  only : ∀ kl, Go.Maps.has D kl = true → ∃ s, s < 512 ∧ kl = klit s
  at_ : ∀ s, M s = true → ∀ zd, D.atKey (klit s) zd = .lit (.int .u64 (s : Int))
theorem MapIs.nil : MapIs (.map []) (fun _ => false) :=
  ⟨Go.Maps.isMap_empty, fun _ h => by simp at h, fun _ _ => rfl, fun _ h => by simp [Go.Maps.has] at h, fun _ h => by simp at h⟩
theorem MapIs.congr {D : DU} {M M' : Nat → Bool} (h : MapIs D M) (e : ∀ s, M s = M' s) : MapIs D M' := by
  have : M = M' := funext e
  rw [← this]; exact h

/-- The sets of the map that are still to come. -/
def toCome (left : Lit → Bool) (s : Nat) : Bool := left (klit s)

section
variable (w : World) {ops : Array Oper} {rest : List Oper} {o : Oper} {a : Act} {Q : Exit → Act → World → Prop}
end
end Go.Proofs.Ytldpdjnedoflcaa

namespace Go.Proofs.Ytldpdjnedoflcaa
open Go.RowKit Vo
attribute [local go_sem] Oper.semAt_some

/-- What has come: each once, just those that are no longer to come. -/
structure Came (M : Nat → Bool) (left : Lit → Bool) (ps : List Set9) : Prop where
  nodup : (ps.map (·.1)).Nodup
  iff : ∀ s, s ∈ ps.map (·.1) ↔ (M s = true ∧ left (klit s) = false)
theorem Came.start {D : DU} {M : Nat → Bool} (h : MapIs D M) : Came M (Go.Maps.has D) [] := by
  refine ⟨List.Pairwise.nil, fun s => ⟨fun h => by simp at h, fun ⟨h1, h2⟩ => ?_⟩⟩
  rw [h.has s (h.dom s h1), h1] at h2; cases h2
end Go.Proofs.Ytldpdjnedoflcaa
