/- For every argument that is given, the exact law of Solutions returns true, and the arguments read afterwards as before. No conditions. -/
import Derived.Test.YtnldodnpakpeeaaRows
import Derived.Test.YtnldodnpakpeeaaPkQ56
import Derived.ProofKit
import Derived.OpenShut
import Derived.Lib.SmallJoins
import Derived.ChangeSame
import Derived.ChangeOld
import Derived.Deep.SlicePairs
namespace Go.Proofs.Ytnldodnpakpeeaa.HSolutions
open Go.ChangeShapes Go.WideShapes Go.ChangeAt Go.RowKit Go.Joins
set_option linter.unusedVariables false

theorem own : ownKnob Try.prog.godebug = none := by kernel_rfl
theorem laidOut : laidOutB Try.prog = true := by kernel_rfl

/-- What a slice of integers that came in is known by. -/
theorem known_of {H : Type} {enc : TypeId × Value → H} {W : World} {fuel : Nat} {c : Value} {y : DataW H × List MemPlace} (hf : DataW.trod enc Try.prog W 0 (fun _ => true) true fuel 35 [c] = some y) :
    ∃ a n cap zs, c = .slice a n cap ∧ n ≤ 9223372036854775807 ∧ Known W a n zs := by
  rcases open_ints Try.underlying35 Try.underlying3 (by kernel_rfl) hf with ⟨hcs, _⟩ | ⟨x, l, cp, zs, hcs, _, hl, hm, hz, _, hcell, _⟩
  · simp at hcs
    exact ⟨none, 0, 0, [], hcs, by omega, 0, 0, fun h => by omega, fun h => by omega⟩
  · simp at hcs
    simp at hz
    unfold maxLen at hm
    refine ⟨some x, l, cp, zs, hcs, by omega, ?_⟩
    by_cases h1 : 1 ≤ l
    · obtain ⟨b, off, rfl, hc⟩ := ints_at hcell (by omega)
      have h0 := hc 0 (by omega)
      exact Known.of ⟨World.block_lt_of_cell? W _ h0, fun j hj => hc j (by omega)⟩
    · exact ⟨0, 0, fun h => absurd h h1, fun h => absurd h h1⟩

theorem list_three {α : Type} {l : List α} (h : l.length = 3) : ∃ a b c, l = [a, b, c] := by
  match l, h with
  | [a, b, c], _ => exact ⟨a, b, c, rfl⟩
/-- What a slice of clues that came in is known by. -/
theorem known_P {H : Type} {enc : TypeId × Value → H} {W : World} {fuel : Nat} {c : Value} {y : DataW H × List MemPlace} (hf : DataW.trod enc Try.prog W 0 (fun _ => true) true fuel 22 [c] = some y) :
    ∃ a n cap C, c = .slice a n cap ∧ n ≤ 9223372036854775807 ∧ KCl W a n C := by
  rcases Go.Deep.open_slice Try.underlying22 hf with ⟨hcs, _⟩ | ⟨a, len, cap, m, n, D, Pl, hcs, _, hl, hm, hmm, _, hrow⟩
  · simp at hcs
    exact ⟨none, 0, 0, [], hcs, by omega, rfl, 0, 0, fun h => by omega⟩
  · simp at hcs
    simp only [if_true] at hmm
    subst hmm
    unfold maxLen at hm
    have ce : Try.prog.cellsOf 133 = 3 := by kernel_rfl
    simp only [ce] at hrow
    have each : ∀ i, i < m → ∃ z : Int × Int × Int, W.cell? (a.add (i * 3)) = some (.int .i64 z.1) ∧ W.cell? (a.add (i * 3 + 1)) = some (.int .i64 z.2.1) ∧ W.cell? (a.add (i * 3 + 2)) = some (.int .i64 z.2.2) := fun i hi => by
      obtain ⟨cs', h1, h2⟩ := hrow i hi
      obtain ⟨_, hlen, hcell⟩ := World.cells?_some h1
      obtain ⟨xs, k, hk, hxy, _, hxl, hf⟩ := DataW.trod_struct Try.underlying133 h2
      obtain ⟨y0, y1, y2, rfl⟩ := list_three (show xs.length = 3 from hxl)
      obtain ⟨v0, v1, v2, rfl⟩ := list_three hlen
      · have g0 := hf 0 _ rfl
        have g1 := hf 1 _ rfl
        have g2 := hf 2 _ rfl
        have ci : Try.prog.cellsOf 3 = 1 := by kernel_rfl
        have w0 : DataW.trod enc Try.prog W 0 (fun _ => true) true k 3 [v0] = some y0 := by
          rw [show [v0] = List.take (Try.prog.cellsOf 3) (List.drop 0 [v0, v1, v2]) from by rw [ci]; rfl]
          exact g0
        have w1 : DataW.trod enc Try.prog W 0 (fun _ => true) true k 3 [v1] = some y1 := by
          rw [show [v1] = List.take (Try.prog.cellsOf 3) (List.drop 1 [v0, v1, v2]) from by rw [ci]; rfl]
          exact g1
        have w2 : DataW.trod enc Try.prog W 0 (fun _ => true) true k 3 [v2] = some y2 := by
          rw [show [v2] = List.take (Try.prog.cellsOf 3) (List.drop 2 [v0, v1, v2]) from by rw [ci]; rfl]
          exact g2
        clear g0 g1 g2
        obtain ⟨q0, e0, _⟩ := DataW.trod_int Try.underlying3 w0
        obtain ⟨q1, e1, _⟩ := DataW.trod_int Try.underlying3 w1
        obtain ⟨q2, e2, _⟩ := DataW.trod_int Try.underlying3 w2
        simp at e0 e1 e2
        have k0 := hcell 0 (by omega)
        have k1 := hcell 1 (by omega)
        have k2 := hcell 2 (by omega)
        rw [Go.Deep.add_add] at k0 k1 k2
        refine ⟨(q0, q1, q2), ?_, ?_, ?_⟩
        · rw [← e0]; simpa using k0
        · rw [← e1]; simpa using k1
        · rw [← e2]; simpa using k2
    obtain ⟨z, hz⟩ := Go.Deep.choose_lt each
    refine ⟨some a, len, m, (List.range len).map z, hcs, by omega, by simp, ?_⟩
    by_cases h1 : 1 ≤ len
    · obtain ⟨b, off, spot⟩ := a
      have h0 := (hz 0 (by omega)).1
      have hspot : spot = none := by simpa [Addr.add] using World.cell?_spot h0
      subst hspot
      refine ⟨b, off, fun _ => ⟨rfl, World.block_lt_of_cell? W _ h0, fun j hj => ?_⟩⟩
      obtain ⟨i, r, hr, rfl⟩ : ∃ i r, r < 3 ∧ j = i * 3 + r := ⟨j / 3, j % 3, by omega, by omega⟩
      have hi : i < len := by omega
      obtain ⟨c0, c1, c2⟩ := hz i (by omega)
      rw [Go.WideShapes.add_plain] at c0 c1 c2
      have hget : cAt ((List.range len).map z) i = z i := by
        unfold cAt
        rw [List.getD_eq_getElem?_getD, List.getElem?_map, List.getElem?_range hi]; rfl
      match r, hr with
      | 0, _ => rw [Nat.add_zero, clF_0, hget]; exact c0
      | 1, _ => rw [clF_1, hget]; exact c1
      | 2, _ => rw [clF_2, hget]; exact c2
    · exact ⟨0, 0, fun h => absurd h h1⟩

set_option maxRecDepth 100000 in
theorem lifted (os : Os) (started : os.Started) (H : Type) (enc : TypeId × Value → H) :
    ReturnsInHanded {} Try.checked os 7 .any (Rows.fnExactSolutionsSpec.pre6 enc Try.prog Try.f7 Rows.fnExactSolutionsRow.domain false) (Rows.fnExactSolutionsSpec.post enc Try.prog Try.f7 false true false false) := by
  refine returnsInHanded_of_change (C := Try.checked) own started (by kernel_rfl) Try.func7
    (ChangeSpec.witness6 (enc := enc) (C := Try.checked) false ⟨#[], #[.agg #[.int .i64 0, .slice none 0 0]], []⟩ 8 (by kernel_rfl) (by kernel_rfl) (by kernel_rfl) (by kernel_rfl)) ?_
  intro W base args ds gs before hval0 hW hcnd _
  have hval : ∀ (j : Nat) t v, Try.f7.params[j]? = some t → args[j]? = some v → Value.okWide Try.prog W .any base t v := hval0
  have hW' := hW
  obtain ⟨p, q, hA0, hV, rfl, hfz, hnd⟩ := hW
  have hA : DataW.TrodAll enc Try.prog W 0 (fun _ => true) true Try.f7.params.toList args.toList ds p := hA0
  rw [Try.params7] at hA hval
  obtain ⟨v0, vs0, d0, ds0, p0, q0, hargs, rfl, rfl, h0, r0⟩ := trodAll_cons hA
  obtain ⟨rfl, rfl, rfl⟩ := trodAll_nil r0
  obtain rfl : args = #[v0] := by cases args; simp_all
  obtain ⟨rfl, rfl⟩ := trodVars_none hV
  have k0 := h0
  have lt0 : ∀ x ∈ p0, x.block < W.heap.size := by obtain ⟨m, hm⟩ := k0; exact DataW.trod_lt m _ _ _ hm
  obtain ⟨c00, c01, y00, y01, m0, rfl, hd0, hp0, hy00, hy01⟩ := open_agg2 Try.underlying24 (by kernel_rfl) (by kernel_rfl) (hval 0 24 v0 rfl rfl) h0
  obtain ⟨qq0, e00, _, _⟩ := DataW.trod_int Try.underlying3 hy00
  simp at e00
  subst e00
  obtain ⟨a0, n0, cap0, zs0, rfl, hm0, hk0⟩ := known_P hy01
  clear hA0 hval0
  refine (lawSolutions qq0 a0 n0 cap0 zs0 W hm0 hk0).mono fun e W' ⟨he, bel⟩ => ?_
  subst he
  exact ⟨_, rfl, _, _, _, [], _, [], hW', trodAll_mk1 (shut_bool Try.underlying4 _), (trodAll_cons_mk (Below.trod laidOut (by kernel_rfl) (of_decide_eq_true (by kernel_rfl)) k0 bel lt0) trodAll_mk0), rfl, bel.frame _, fun h => by cases h⟩

set_option maxHeartbeats 16000000 in
theorem closed : joinedFacts Try.prog 7 Try.f7 Rows.fnExactSolutionsSpec Rows.fnExactSolutionsRow = true := by
  unfold joinedFacts
  simp only [Bool.and_eq_true]
  repeat' (with_reducible refine And.intro ?_ ?_)
  all_goals (as_aux_lemma => kernel_rfl)

theorem holds : Rows.FnExactSolutionsSaid :=
  OpenClaim.holds_of_wide 7 Try.f7 rfl rfl rfl rfl rfl rfl rfl ⟨rfl, rfl, rfl, rfl, rfl⟩ rfl rfl rfl rfl rfl (by kernel_rfl) Try.func7 closed
    (of_decide_eq_true (by kernel_rfl)) (by unfold Func.isWrapper; first | (rw [if_pos (by decide +kernel)]; kernel_rfl) | (rw [if_neg (by decide +kernel)]; exact ⟨rfl, rfl⟩))
    (fun os started H enc _ => lifted os started H enc)

#print axioms holds
end Go.Proofs.Ytnldodnpakpeeaa.HSolutions
