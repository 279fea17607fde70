/- For every argument that is given, the exact law of InnerChances returns true, and the arguments read afterwards as before. No conditions. -/
import Derived.Test.YtkckefjpkhjeaabRows
import Derived.Test.YtkckefjpkhjeaabLI3
import Derived.ProofKit
import Derived.OpenShut
import Derived.Lib.SmallJoins
import Derived.ChangeSame
import Derived.ChangeOld
import Derived.Deep.SlicePairs
namespace Go.Proofs.Ytkckefjpkhjeaab.HInnerChances
open Go.ChangeShapes Go.WideShapes Go.ChangeAt Go.RowKit Go.Joins
set_option linter.unusedVariables false

theorem own : ownKnob Try.prog.godebug = none := by kernel_rfl
theorem laidOut : laidOutB Try.prog = true := by kernel_rfl

/-- What a slice of integers that came in is known by. -/
theorem known_of {H : Type} {enc : TypeId × Value → H} {W : World} {fuel : Nat} {c : Value} {y : DataW H × List MemPlace} (hf : DataW.trod enc Try.prog W 0 (fun _ => true) true fuel 37 [c] = some y) :
    ∃ a n cap zs, c = .slice a n cap ∧ n ≤ 9223372036854775807 ∧ Known W a n zs := by
  rcases open_ints Try.underlying37 Try.underlying3 (by kernel_rfl) hf with ⟨hcs, _⟩ | ⟨x, l, cp, zs, hcs, _, hl, hm, hz, _, hcell, _⟩
  · simp at hcs
    exact ⟨none, 0, 0, [], hcs, by omega, 0, 0, fun h => by omega, fun h => by omega⟩
  · simp at hcs
    simp at hz
    unfold maxLen at hm
    refine ⟨some x, l, cp, zs, hcs, by omega, ?_⟩
    by_cases h1 : 1 ≤ l
    · obtain ⟨b, off, rfl, hc⟩ := ints_at hcell (by omega)
      have h0 := hc 0 (by omega)
      exact Known.of ⟨World.block_lt_of_cell? W _ h0, fun j hj => hc j (by omega)⟩
    · exact ⟨0, 0, fun h => absurd h h1, fun h => absurd h h1⟩

/-- What a slice of committees that came in is known by. -/
theorem known_K {H : Type} {enc : TypeId × Value → H} {W : World} {fuel : Nat} {c : Value} {y : DataW H × List MemPlace} (hf : DataW.trod enc Try.prog W 0 (fun _ => true) true fuel 22 [c] = some y) :
    ∃ a n cap C, c = .slice a n cap ∧ n ≤ 9223372036854775807 ∧ KCS W a n C := by
  rcases Go.Deep.open_slice_pairs Try.underlying22 Try.underlying39 (by kernel_rfl) rfl rfl (by kernel_rfl) (by kernel_rfl) hf with ⟨hcs, _⟩ | ⟨a, len, cap, m, n, V0, V1, D0, D1, P0, P1, hcs, _, hl, hm, hmm, _, hrow⟩
  · simp at hcs
    exact ⟨none, 0, 0, [], hcs, by omega, rfl, 0, 0, fun h => by omega, fun i h => by omega⟩
  · simp at hcs
    simp only [if_true] at hmm
    subst hmm
    unfold maxLen at hm
    have each : ∀ i, i < m → ∃ z : Int × List Int, ∃ A' cp', V0 i = .int .i64 z.1 ∧ V1 i = .slice A' z.2.length cp' ∧ z.2.length ≤ 9223372036854775807 ∧ Known W A' z.2.length z.2 := fun i hi => by
      obtain ⟨_, _, h0, h1⟩ := hrow i hi
      obtain ⟨q0, e0, _⟩ := DataW.trod_int Try.underlying3 h0
      simp at e0
      obtain ⟨A', k, cp', zs, e1, hk, hkn⟩ := known_of h1
      refine ⟨(q0, (List.range k).map fun j => zs.getD j 0), A', cp', e0, by rw [e1]; simp, by simpa using hk, ?_⟩
      obtain ⟨b, off, h2, h3⟩ := hkn
      refine ⟨b, off, fun h => h2 (by simpa using h), fun h => ?_⟩
      have h4 := h3 (by simpa using h)
      refine ⟨h4.lt, fun j hj => ?_⟩
      have hj' : j < k := by simpa using hj
      rw [h4.cell j hj']
      congr 2
      rw [List.getD_eq_getElem?_getD, List.getD_eq_getElem?_getD, List.getElem?_map, List.getElem?_range hj']
      rfl
    obtain ⟨z, hz⟩ := Go.Deep.choose_lt each
    refine ⟨some a, len, m, (List.range len).map z, hcs, by omega, by simp, ?_⟩
    by_cases h1 : 1 ≤ len
    · obtain ⟨b, off, spot⟩ := a
      have h0 := (hrow 0 (by omega)).1
      have hspot : spot = none := by simpa [Addr.add] using World.cell?_spot h0
      subst hspot
      refine ⟨b, off, fun _ => ⟨rfl, World.block_lt_of_cell? W _ h0⟩, fun i hi => ?_⟩
      obtain ⟨A', cp', e0, e1, hk, hkn⟩ := hz i (by omega)
      obtain ⟨c0, c1, _, _⟩ := hrow i (by omega)
      rw [Go.WideShapes.add_plain] at c0 c1
      have hget : ((List.range len).map z).getD i (0, []) = z i := by
        rw [List.getD_eq_getElem?_getD, List.getElem?_map, List.getElem?_range hi]; rfl
      unfold nAt wAt qAt
      rw [hget]
      exact ⟨A', cp', by rw [c0, e0], by rw [show off + i * 2 + 1 = off + (i * 2 + 1) from by omega, c1, e1], hk, hkn⟩
    · exact ⟨0, 0, fun h => absurd h h1, fun i hi => by omega⟩

set_option maxRecDepth 100000 in
theorem lifted (os : Os) (started : os.Started) (H : Type) (enc : TypeId × Value → H) :
    ReturnsInHanded {} Try.checked os 3 .any (Rows.fnExactInnerChancesSpec.pre6 enc Try.prog Try.f3 Rows.fnExactInnerChancesRow.domain false) (Rows.fnExactInnerChancesSpec.post enc Try.prog Try.f3 false true false false) := by
  refine returnsInHanded_of_change (C := Try.checked) own started (by kernel_rfl) Try.func3
    (ChangeSpec.witness6 (enc := enc) (C := Try.checked) false ⟨#[], #[.slice none 0 0], []⟩ 8 (by kernel_rfl) (by kernel_rfl) (by kernel_rfl) (by kernel_rfl)) ?_
  intro W base args ds gs before hval0 hW hcnd _
  have hval : ∀ (j : Nat) t v, Try.f3.params[j]? = some t → args[j]? = some v → Value.okWide Try.prog W .any base t v := hval0
  have hW' := hW
  obtain ⟨p, q, hA0, hV, rfl, hfz, hnd⟩ := hW
  have hA : DataW.TrodAll enc Try.prog W 0 (fun _ => true) true Try.f3.params.toList args.toList ds p := hA0
  rw [Try.params3] at hA hval
  obtain ⟨v0, vs0, d0, ds0, p0, q0, hargs, rfl, rfl, h0, r0⟩ := trodAll_cons hA
  obtain ⟨rfl, rfl, rfl⟩ := trodAll_nil r0
  obtain rfl : args = #[v0] := by cases args; simp_all
  obtain ⟨rfl, rfl⟩ := trodVars_none hV
  have k0 := h0
  have lt0 : ∀ x ∈ p0, x.block < W.heap.size := by obtain ⟨m, hm⟩ := k0; exact DataW.trod_lt m _ _ _ hm
  obtain ⟨aa0, ll0, cc0, rfl⟩ := okWide_slice Try.underlying22 (hval 0 22 v0 rfl rfl)
  obtain ⟨fu0, hf0⟩ := h0
  obtain ⟨a0, n0, cap0, zs0, e0, hm0, hk0⟩ := known_K (show DataW.trod enc Try.prog W 0 (fun _ => true) true fu0 22 [.slice aa0 ll0 cc0] = some _ from by simpa [Value.cells] using hf0)
  obtain ⟨rfl, rfl, rfl⟩ : aa0 = a0 ∧ ll0 = n0 ∧ cc0 = cap0 := by simpa using e0
  clear hA0 hval0
  refine (lawInnerChances aa0 ll0 cc0 zs0 W hm0 hk0).mono fun e W' ⟨he, bel⟩ => ?_
  subst he
  exact ⟨_, rfl, _, _, _, [], _, [], hW', trodAll_mk1 (shut_bool Try.underlying4 _), (trodAll_cons_mk (Below.trod laidOut (by kernel_rfl) (of_decide_eq_true (by kernel_rfl)) k0 bel lt0) trodAll_mk0), rfl, bel.frame _, fun h => by cases h⟩

set_option maxHeartbeats 16000000 in
theorem closed : joinedFacts Try.prog 3 Try.f3 Rows.fnExactInnerChancesSpec Rows.fnExactInnerChancesRow = true := by
  unfold joinedFacts
  simp only [Bool.and_eq_true]
  repeat' (with_reducible refine And.intro ?_ ?_)
  all_goals (as_aux_lemma => kernel_rfl)

theorem holds : Rows.FnExactInnerChancesSaid :=
  OpenClaim.holds_of_wide 3 Try.f3 rfl rfl rfl rfl rfl rfl rfl ⟨rfl, rfl, rfl, rfl, rfl⟩ rfl rfl rfl rfl rfl (by kernel_rfl) Try.func3 closed
    (of_decide_eq_true (by kernel_rfl)) (by unfold Func.isWrapper; first | (rw [if_pos (by decide +kernel)]; kernel_rfl) | (rw [if_neg (by decide +kernel)]; exact ⟨rfl, rfl⟩))
    (fun os started H enc _ => lifted os started H enc)

#print axioms holds
end Go.Proofs.Ytkckefjpkhjeaab.HInnerChances
