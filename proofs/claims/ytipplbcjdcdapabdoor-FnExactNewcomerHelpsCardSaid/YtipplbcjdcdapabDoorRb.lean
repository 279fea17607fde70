/- What the condition on the laid tables of math/bits gives a walk; a heap that meets it. For the seats of tied cards. -/
import Derived.Test.YtipplbcjdcdapabDoorRa
import Derived.Test.YtipplbcjdcdapabDoorTie
import Derived.ProofKit
import Derived.LaidMore
import Derived.OpenShut
import Derived.Stop.Joined
namespace Go.Proofs.YtipplbcjdcdapabDoor
open Go.ChangeShapes Go.WideShapes Go.ChangeAt Go.RowKit Vo

abbrev laid2 : List (String × DataW Unit) := [("math/bits.deBruijn32tab", Rows.laid_math_bits_deBruijn32tab), ("math/bits.deBruijn64tab", Rows.laid_math_bits_deBruijn64tab)]
theorem g64 : Tryd.prog.globalNamed "math/bits.deBruijn64tab" = some 1 := by kernel_rfl
theorem t64 : (Tryd.prog.globals[1]?).map (·.type) = some 86 := by kernel_rfl
theorem datum64 : (Rows.laid_math_bits_deBruijn64tab : DataW Unit) = .agg (Lib.deBruijn64tab.map fun k => .lit (.int .u8 (k : Nat))) := by kernel_rfl
theorem tab_len : Lib.deBruijn64tab.length = 64 := by decide

/-- The door's own heap meets the condition. -/
theorem door_met (os : Os) (args : Array Value) : laidMetH Tryd.prog laid2 ((World.doorLaid Tryd.prog 400 os).forCall (fun _ _ => 0) ⟨#[], args, []⟩).memory :=
  laidMetH_of_parts3 (fuel := 8) (laidMet_of_run' 8 (by kernel_rfl) (by kernel_rfl)) (by kernel_rfl) (by kernel_rfl)

theorem take_one {α : Type} {L : List α} {j : Nat} {v : α} (h : (L.drop j).take 1 = [v]) : L[j]? = some v := by
  have h2 := congrArg (fun l => l[0]?) h
  simpa [List.getElem?_take, List.getElem?_drop] using h2
theorem tab_of_laid {W : World} (h : laidMetH Tryd.prog laid2 W) : Tab W := by
  rw [MakeChecks.laidMetH_plain _ _ _ (by kernel_rfl)] at h
  obtain ⟨ps, ⟨g0, t0, cs0, f0, p0, q0, hg0, ht0, hv0, hd0, ⟨g1, t1, cs1, f1, p1, q1, hg1, ht1, hv1, hd1, _, _⟩, _⟩, _, _⟩ := h
  obtain rfl := Option.some.inj (g64.symm.trans hg1)
  obtain rfl := Option.some.inj (t64.symm.trans ht1)
  obtain ⟨xs, m1, rfl, hx1, hlen, hn3, hel⟩ := DataW.trod_array Tryd.underlying86 hd1
  have c5 : Tryd.prog.cellsOf 5 = 1 := by kernel_rfl
  rw [datum64] at hx1
  simp only [Prod.mk.injEq, DataW.agg.injEq] at hx1
  have hcell : ∀ j, j < 64 → W.cell? ⟨1, j, none⟩ = some (.int .u8 (Lib.deBruijn64tab.getD j 0 : Nat)) := by
    intro j hj
    have h := hel j hj
    rw [c5, Nat.mul_one] at h
    have hxj : j < xs.length := by omega
    rw [List.getElem?_eq_getElem hxj] at h
    obtain ⟨k, e1, e2, _⟩ := DataW.trod_int Tryd.underlying5 h
    have e3 := congrArg (fun l => l[j]?) hx1.1
    have hjt : j < Lib.deBruijn64tab.length := by rw [tab_len]; exact hj
    simp only [List.getElem?_map, List.getElem?_eq_getElem hxj, List.getElem?_eq_getElem hjt, Option.map_some, e2, Option.some.injEq, DataW.lit.injEq, Lit.int.injEq] at e3
    have e4 := World.var?_cell hg1 hv1 j
    have e5 := take_one e1
    rw [e4, show cs1[j]? = cs1.toList[j]? by simp, e5, List.getD_eq_getElem?_getD, List.getElem?_eq_getElem hjt]
    simp only [Option.getD_some]
    first | rw [e3.2] | (obtain ⟨_, e3⟩ := e3; subst e3; rfl) | (subst e3; rfl)
  refine ⟨?_, fun j hj => hcell j (by rw [tab_len] at hj; exact hj)⟩
  exact World.block_lt_of_cell? W _ (hcell 0 (by decide))
end Go.Proofs.YtipplbcjdcdapabDoor
