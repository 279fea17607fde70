/- For every argument that is given, the exact law of IsDesk returns true, and the arguments read afterwards as before. No conditions. -/
import Derived.Test.YtlcfimddcedbcaaRows
import Derived.Test.YtlcfimddcedbcaaLM1
import Derived.ProofKit
import Derived.OpenShut
import Derived.Lib.SmallJoins
import Derived.ChangeSame
import Derived.ChangeOld
import Derived.Deep.Matrix
namespace Go.Proofs.Ytlcfimddcedbcaa.HIsDesk
open Go.ChangeShapes Go.WideShapes Go.ChangeAt Go.RowKit Go.Joins
set_option linter.unusedVariables false

theorem own : ownKnob Try.prog.godebug = none := by kernel_rfl
theorem laidOut : laidOutB Try.prog = true := by kernel_rfl

/-- What a slice of integers that came in is known by. -/
theorem known_of {H : Type} {enc : TypeId × Value → H} {W : World} {fuel : Nat} {c : Value} {y : DataW H × List MemPlace} (hf : DataW.trod enc Try.prog W 0 (fun _ => true) true fuel 22 [c] = some y) :
    ∃ a n cap zs, c = .slice a n cap ∧ n ≤ 9223372036854775807 ∧ Known W a n zs := by
  rcases open_ints Try.underlying22 Try.underlying3 (by kernel_rfl) hf with ⟨hcs, _⟩ | ⟨x, l, cp, zs, hcs, _, hl, hm, hz, _, hcell, _⟩
  · simp at hcs
    exact ⟨none, 0, 0, [], hcs, by omega, 0, 0, fun h => by omega, fun h => by omega⟩
  · simp at hcs
    simp at hz
    unfold maxLen at hm
    refine ⟨some x, l, cp, zs, hcs, by omega, ?_⟩
    by_cases h1 : 1 ≤ l
    · obtain ⟨b, off, rfl, hc⟩ := ints_at hcell (by omega)
      have h0 := hc 0 (by omega)
      exact Known.of ⟨World.block_lt_of_cell? W _ h0, fun j hj => hc j (by omega)⟩
    · exact ⟨0, 0, fun h => absurd h h1, fun h => absurd h h1⟩

/-- What a slice of slices of integers that came in is known by. -/
theorem known_G {H : Type} {enc : TypeId × Value → H} {W : World} {fuel : Nat} {c : Value} {y : DataW H × List MemPlace} (hf : DataW.trod enc Try.prog W 0 (fun _ => true) true fuel 25 [c] = some y) :
    ∃ a n cap L, c = .slice a n cap ∧ n ≤ 9223372036854775807 ∧ KSS W a n L := by
  rcases Go.Deep.open_int_rows Try.underlying25 Try.underlying22 Try.underlying3 (by kernel_rfl) (by kernel_rfl) hf with ⟨hcs, _⟩ | ⟨a, len, cap, A, L, C, Z, hcs, _, hl, hm, _, hrow⟩
  · simp at hcs
    exact ⟨none, 0, 0, [], hcs, by omega, rfl, 0, 0, fun h => by omega, fun i h => by omega⟩
  · simp at hcs
    unfold maxLen at hm
    refine ⟨some a, len, cap, (List.range len).map fun r => (Z r).take (L r), hcs, by omega, by simp, ?_⟩
    by_cases h1 : 1 ≤ len
    · obtain ⟨b, off, spot⟩ := a
      have h0 := (hrow 0 (by omega)).1
      have hspot : spot = none := by simpa [Addr.add] using World.cell?_spot h0
      subst hspot
      have hc : ∀ r, r < cap → W.cell? ⟨b, off + r, none⟩ = some (.slice (A r) (L r) (C r)) := fun r hr => by rw [← Go.WideShapes.add_plain]; exact (hrow r hr).1
      refine ⟨b, off, fun _ => ⟨rfl, World.block_lt_of_cell? W _ (hc 0 (by omega))⟩, fun r hr => ?_⟩
      obtain ⟨_, hLC, hCm, hZ, _, hn, hA⟩ := hrow r (by omega)
      unfold maxLen at hCm
      have hget : ((List.range len).map fun r => (Z r).take (L r)).getD r [] = (Z r).take (L r) := by
        rw [List.getD_eq_getElem?_getD, List.getElem?_map, List.getElem?_range hr]; rfl
      have hlen : ((Z r).take (L r)).length = L r := by rw [List.length_take]; omega
      rw [hget, hlen]
      refine ⟨A r, C r, hc r (by omega), by omega, ?_⟩
      by_cases hL : 1 ≤ L r
      · cases ha : A r with
        | none => have := hn ha; omega
        | some a' =>
          obtain ⟨_, hcz⟩ := hA a' ha
          obtain ⟨b', off', spot'⟩ := a'
          have hs' : spot' = none := by simpa [Addr.add] using World.cell?_spot (hcz 0 (by omega))
          subst hs'
          have hcell : ∀ j, j < C r → W.cell? ⟨b', off' + j, none⟩ = some (.int .i64 ((Z r).getD j 0)) := fun j hj => by rw [← Go.WideShapes.add_plain]; exact hcz j hj
          refine Known.of ⟨World.block_lt_of_cell? W _ (hcell 0 (by omega)), fun j hj => ?_⟩
          rw [hcell j (by omega)]
          congr 2
          rw [List.getD_eq_getElem?_getD, List.getD_eq_getElem?_getD, List.getElem?_take]
          simp [hj]
      · exact ⟨0, 0, fun h => absurd h hL, fun h => absurd h hL⟩
    · exact ⟨0, 0, fun h => absurd h h1, fun i hi => by omega⟩

set_option maxRecDepth 100000 in
theorem lifted (os : Os) (started : os.Started) (H : Type) (enc : TypeId × Value → H) :
    ReturnsInHanded {} Try.checked os 4 .any (Rows.fnExactIsDeskSpec.pre6 enc Try.prog Try.f4 Rows.fnExactIsDeskRow.domain false) (Rows.fnExactIsDeskSpec.post enc Try.prog Try.f4 false true false false) := by
  refine returnsInHanded_of_change (C := Try.checked) own started (by kernel_rfl) Try.func4
    (ChangeSpec.witness6 (enc := enc) (C := Try.checked) false ⟨#[], #[.agg #[.int .i64 0, .slice none 0 0, .int .i64 0, .slice none 0 0]], []⟩ 8 (by kernel_rfl) (by kernel_rfl) (by kernel_rfl) (by kernel_rfl)) ?_
  intro W base args ds gs before hval0 hW hcnd _
  have hval : ∀ (j : Nat) t v, Try.f4.params[j]? = some t → args[j]? = some v → Value.okWide Try.prog W .any base t v := hval0
  have hW' := hW
  obtain ⟨p, q, hA0, hV, rfl, hfz, hnd⟩ := hW
  have hA : DataW.TrodAll enc Try.prog W 0 (fun _ => true) true Try.f4.params.toList args.toList ds p := hA0
  rw [Try.params4] at hA hval
  obtain ⟨v0, vs0, d0, ds0, p0, q0, hargs, rfl, rfl, h0, r0⟩ := trodAll_cons hA
  obtain ⟨rfl, rfl, rfl⟩ := trodAll_nil r0
  obtain rfl : args = #[v0] := by cases args; simp_all
  obtain ⟨rfl, rfl⟩ := trodVars_none hV
  have k0 := h0
  have lt0 : ∀ x ∈ p0, x.block < W.heap.size := by obtain ⟨m, hm⟩ := k0; exact DataW.trod_lt m _ _ _ hm
  obtain ⟨cs0, rfl, hsz0⟩ := okWide_struct Try.underlying37 (hval 0 37 v0 rfl rfl)
  obtain ⟨c00, c01, c02, c03, rfl⟩ := array4 (hsz0.trans (show Try.prog.cellsOf 37 = 4 from by kernel_rfl))
  obtain ⟨fu0, hf0⟩ := h0
  have kC0 : Try.prog.cellsOf 34 = 2 := by kernel_rfl
  have kG0 : Try.prog.cellsOf 35 = 2 := by kernel_rfl
  have kI0 : Try.prog.cellsOf 3 = 1 := by kernel_rfl
  have kS0 : Try.prog.cellsOf 22 = 1 := by kernel_rfl
  have kT0 : Try.prog.cellsOf 25 = 1 := by kernel_rfl
  obtain ⟨y00, y01, nn0, hx0, _, g00, g01⟩ := trod_struct2 Try.underlying37 hf0
  obtain ⟨z00, z01, nn0a, hx0a, _, g000, g001⟩ := trod_struct2 Try.underlying34 g00
  obtain ⟨z02, z03, nn0b, hx0b, _, g010, g011⟩ := trod_struct2 Try.underlying35 g01
  simp only [kC0, kG0, kI0, kS0, kT0, Value.cells] at g000 g001 g010 g011
  obtain ⟨qq0, e00, _, _⟩ := DataW.trod_int Try.underlying3 g000
  simp at e00
  subst e00
  obtain ⟨a0, n0, cap0, zs0, e01, hm0, hk0⟩ := known_of (show DataW.trod enc Try.prog W 0 (fun _ => true) true nn0a 22 [c01] = some z01 from by simpa using g001)
  subst e01
  obtain ⟨mm0, e02, _, _⟩ := DataW.trod_int Try.underlying3 g010
  simp at e02
  subst e02
  obtain ⟨b0, l0, cp0, L0, e03, hm0b, hk0b⟩ := known_G (show DataW.trod enc Try.prog W 0 (fun _ => true) true nn0b 25 [c03] = some z03 from by simpa using g011)
  subst e03
  clear hA0 hval0
  refine (lawIsDesk qq0 a0 n0 cap0 zs0 mm0 b0 l0 cp0 L0 W hm0 hm0b hk0 hk0b).mono fun e W' ⟨he, bel⟩ => ?_
  subst he
  exact ⟨_, rfl, _, _, _, [], _, [], hW', trodAll_mk1 (shut_bool Try.underlying4 _), (trodAll_cons_mk (Below.trod laidOut (by kernel_rfl) (of_decide_eq_true (by kernel_rfl)) k0 bel lt0) trodAll_mk0), rfl, bel.frame _, fun h => by cases h⟩

set_option maxHeartbeats 16000000 in
theorem closed : joinedFacts Try.prog 4 Try.f4 Rows.fnExactIsDeskSpec Rows.fnExactIsDeskRow = true := by
  unfold joinedFacts
  simp only [Bool.and_eq_true]
  repeat' (with_reducible refine And.intro ?_ ?_)
  all_goals (as_aux_lemma => kernel_rfl)

theorem holds : Rows.FnExactIsDeskSaid :=
  OpenClaim.holds_of_wide 4 Try.f4 rfl rfl rfl rfl rfl rfl rfl ⟨rfl, rfl, rfl, rfl, rfl⟩ rfl rfl rfl rfl rfl (by kernel_rfl) Try.func4 closed
    (of_decide_eq_true (by kernel_rfl)) (by unfold Func.isWrapper; first | (rw [if_pos (by decide +kernel)]; kernel_rfl) | (rw [if_neg (by decide +kernel)]; exact ⟨rfl, rfl⟩))
    (fun os started H enc _ => lifted os started H enc)

#print axioms holds
end Go.Proofs.Ytlcfimddcedbcaa.HIsDesk
