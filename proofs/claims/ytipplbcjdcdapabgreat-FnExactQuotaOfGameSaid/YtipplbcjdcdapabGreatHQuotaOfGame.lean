/- For every argument that is given, the exact law of QuotaOfGame returns true, and the arguments read afterwards as before. No conditions. -/
import Derived.Test.YtipplbcjdcdapabGreatRows
import Derived.Test.YtipplbcjdcdapabGreatLF5
import Derived.ProofKit
import Derived.OpenShut
import Derived.Lib.SmallJoins
import Derived.ChangeSame
import Derived.ChangeOld
import Derived.Deep.Matrix
namespace Go.Proofs.YtipplbcjdcdapabGreat.HQuotaOfGame
open Go.ChangeShapes Go.WideShapes Go.ChangeAt Go.RowKit Go.Joins
set_option linter.unusedVariables false

theorem own : ownKnob Tryz.prog.godebug = none := by kernel_rfl
theorem laidOut : laidOutB Tryz.prog = true := by kernel_rfl

/-- What a slice of integers that came in is known by. -/
theorem known_of {H : Type} {enc : TypeId × Value → H} {W : World} {fuel : Nat} {c : Value} {y : DataW H × List MemPlace} (hf : DataW.trod enc Tryz.prog W 0 (fun _ => true) true fuel 25 [c] = some y) :
    ∃ a n cap zs, c = .slice a n cap ∧ n ≤ 9223372036854775807 ∧ Known W a n zs := by
  rcases open_ints Tryz.underlying25 Tryz.underlying3 (by kernel_rfl) hf with ⟨hcs, _⟩ | ⟨x, l, cp, zs, hcs, _, hl, hm, hz, _, hcell, _⟩
  · simp at hcs
    exact ⟨none, 0, 0, [], hcs, by omega, 0, 0, fun h => by omega, fun h => by omega⟩
  · simp at hcs
    simp at hz
    unfold maxLen at hm
    refine ⟨some x, l, cp, zs, hcs, by omega, ?_⟩
    by_cases h1 : 1 ≤ l
    · obtain ⟨b, off, rfl, hc⟩ := ints_at hcell (by omega)
      have h0 := hc 0 (by omega)
      exact Known.of ⟨World.block_lt_of_cell? W _ h0, fun j hj => hc j (by omega)⟩
    · exact ⟨0, 0, fun h => absurd h h1, fun h => absurd h h1⟩

/-- What a slice of slices of integers that came in is known by. -/
theorem known_G {H : Type} {enc : TypeId × Value → H} {W : World} {fuel : Nat} {c : Value} {y : DataW H × List MemPlace} (hf : DataW.trod enc Tryz.prog W 0 (fun _ => true) true fuel 22 [c] = some y) :
    ∃ a n cap L, c = .slice a n cap ∧ n ≤ 9223372036854775807 ∧ KSS W a n L := by
  rcases Go.Deep.open_int_rows Tryz.underlying22 Tryz.underlying25 Tryz.underlying3 (by kernel_rfl) (by kernel_rfl) hf with ⟨hcs, _⟩ | ⟨a, len, cap, A, L, C, Z, hcs, _, hl, hm, _, hrow⟩
  · simp at hcs
    exact ⟨none, 0, 0, [], hcs, by omega, rfl, 0, 0, fun h => by omega, fun i h => by omega⟩
  · simp at hcs
    unfold maxLen at hm
    refine ⟨some a, len, cap, (List.range len).map fun r => (Z r).take (L r), hcs, by omega, by simp, ?_⟩
    by_cases h1 : 1 ≤ len
    · obtain ⟨b, off, spot⟩ := a
      have h0 := (hrow 0 (by omega)).1
      have hspot : spot = none := by simpa [Addr.add] using World.cell?_spot h0
      subst hspot
      have hc : ∀ r, r < cap → W.cell? ⟨b, off + r, none⟩ = some (.slice (A r) (L r) (C r)) := fun r hr => by rw [← Go.WideShapes.add_plain]; exact (hrow r hr).1
      refine ⟨b, off, fun _ => ⟨rfl, World.block_lt_of_cell? W _ (hc 0 (by omega))⟩, fun r hr => ?_⟩
      obtain ⟨_, hLC, hCm, hZ, _, hn, hA⟩ := hrow r (by omega)
      unfold maxLen at hCm
      have hget : ((List.range len).map fun r => (Z r).take (L r)).getD r [] = (Z r).take (L r) := by
        rw [List.getD_eq_getElem?_getD, List.getElem?_map, List.getElem?_range hr]; rfl
      have hlen : ((Z r).take (L r)).length = L r := by rw [List.length_take]; omega
      rw [hget, hlen]
      refine ⟨A r, C r, hc r (by omega), by omega, ?_⟩
      by_cases hL : 1 ≤ L r
      · cases ha : A r with
        | none => have := hn ha; omega
        | some a' =>
          obtain ⟨_, hcz⟩ := hA a' ha
          obtain ⟨b', off', spot'⟩ := a'
          have hs' : spot' = none := by simpa [Addr.add] using World.cell?_spot (hcz 0 (by omega))
          subst hs'
          have hcell : ∀ j, j < C r → W.cell? ⟨b', off' + j, none⟩ = some (.int .i64 ((Z r).getD j 0)) := fun j hj => by rw [← Go.WideShapes.add_plain]; exact hcz j hj
          refine Known.of ⟨World.block_lt_of_cell? W _ (hcell 0 (by omega)), fun j hj => ?_⟩
          rw [hcell j (by omega)]
          congr 2
          rw [List.getD_eq_getElem?_getD, List.getD_eq_getElem?_getD, List.getElem?_take]
          simp [hj]
      · exact ⟨0, 0, fun h => absurd h hL, fun h => absurd h hL⟩
    · exact ⟨0, 0, fun h => absurd h h1, fun i hi => by omega⟩

set_option maxRecDepth 100000 in
theorem lifted (os : Os) (started : os.Started) (H : Type) (enc : TypeId × Value → H) :
    ReturnsInHanded {} Tryz.checked os 3 .any (Rows.fnExactQuotaOfGameSpec.pre6 enc Tryz.prog Tryz.f3 Rows.fnExactQuotaOfGameRow.domain false) (Rows.fnExactQuotaOfGameSpec.post enc Tryz.prog Tryz.f3 false true false false) := by
  refine returnsInHanded_of_change (C := Tryz.checked) own started (by kernel_rfl) Tryz.func3
    (ChangeSpec.witness6 (enc := enc) (C := Tryz.checked) false ⟨#[], #[.agg #[.int .i64 0, .slice none 0 0], .slice none 0 0], []⟩ 8 (by kernel_rfl) (by kernel_rfl) (by kernel_rfl) (by kernel_rfl)) ?_
  intro W base args ds gs before hval0 hW hcnd _
  have hval : ∀ (j : Nat) t v, Tryz.f3.params[j]? = some t → args[j]? = some v → Value.okWide Tryz.prog W .any base t v := hval0
  have hW' := hW
  obtain ⟨p, q, hA0, hV, rfl, hfz, hnd⟩ := hW
  have hA : DataW.TrodAll enc Tryz.prog W 0 (fun _ => true) true Tryz.f3.params.toList args.toList ds p := hA0
  rw [Tryz.params3] at hA hval
  obtain ⟨v0, vs0, d0, ds0, p0, q0, hargs, rfl, rfl, h0, r0⟩ := trodAll_cons hA
  obtain ⟨v1, vs1, d1, ds1, p1, q1, rfl, rfl, rfl, h1, r1⟩ := trodAll_cons r0
  obtain ⟨rfl, rfl, rfl⟩ := trodAll_nil r1
  obtain rfl : args = #[v0, v1] := by cases args; simp_all
  obtain ⟨rfl, rfl⟩ := trodVars_none hV
  have k0 := h0
  have lt0 : ∀ x ∈ p0, x.block < W.heap.size := by obtain ⟨m, hm⟩ := k0; exact DataW.trod_lt m _ _ _ hm
  obtain ⟨c00, c01, y00, y01, m0, rfl, hd0, hp0, hy00, hy01⟩ := open_agg2 Tryz.underlying24 (by kernel_rfl) (by kernel_rfl) (hval 0 24 v0 rfl rfl) h0
  obtain ⟨qq0, e00, _, _⟩ := DataW.trod_int Tryz.underlying3 hy00
  simp at e00
  subst e00
  obtain ⟨a0, n0, cap0, zs0, rfl, hm0, hk0⟩ := known_G hy01
  have k1 := h1
  have lt1 : ∀ x ∈ p1, x.block < W.heap.size := by obtain ⟨m, hm⟩ := k1; exact DataW.trod_lt m _ _ _ hm
  obtain ⟨aa1, ll1, cc1, rfl⟩ := okWide_slice Tryz.underlying25 (hval 1 25 v1 rfl rfl)
  obtain ⟨fu1, hf1⟩ := h1
  obtain ⟨a1, n1, cap1, zs1, e1, hm1, hk1⟩ := known_of (show DataW.trod enc Tryz.prog W 0 (fun _ => true) true fu1 25 [.slice aa1 ll1 cc1] = some _ from by simpa [Value.cells] using hf1)
  obtain ⟨rfl, rfl, rfl⟩ : aa1 = a1 ∧ ll1 = n1 ∧ cc1 = cap1 := by simpa using e1
  clear hA0 hval0
  refine (lawQuotaOfGame qq0 a0 n0 cap0 zs0 aa1 ll1 cc1 zs1 W hm0 hk0 hm1 hk1).mono fun e W' ⟨he, bel⟩ => ?_
  subst he
  exact ⟨_, rfl, _, _, _, [], _, [], hW', trodAll_mk1 (shut_bool Tryz.underlying4 _), (trodAll_cons_mk (Below.trod laidOut (by kernel_rfl) (of_decide_eq_true (by kernel_rfl)) k0 bel lt0) (trodAll_cons_mk (Below.trod laidOut (by kernel_rfl) (of_decide_eq_true (by kernel_rfl)) k1 bel lt1) trodAll_mk0)), rfl, bel.frame _, fun h => by cases h⟩

set_option maxHeartbeats 16000000 in
theorem closed : joinedFacts Tryz.prog 3 Tryz.f3 Rows.fnExactQuotaOfGameSpec Rows.fnExactQuotaOfGameRow = true := by
  unfold joinedFacts
  simp only [Bool.and_eq_true]
  repeat' (with_reducible refine And.intro ?_ ?_)
  all_goals (as_aux_lemma => kernel_rfl)

theorem holds : Rows.FnExactQuotaOfGameSaid :=
  OpenClaim.holds_of_wide 3 Tryz.f3 rfl rfl rfl rfl rfl rfl rfl ⟨rfl, rfl, rfl, rfl, rfl⟩ rfl rfl rfl rfl rfl (by kernel_rfl) Tryz.func3 closed
    (of_decide_eq_true (by kernel_rfl)) (by unfold Func.isWrapper; first | (rw [if_pos (by decide +kernel)]; kernel_rfl) | (rw [if_neg (by decide +kernel)]; exact ⟨rfl, rfl⟩))
    (fun os started H enc _ => lifted os started H enc)

#print axioms holds
end Go.Proofs.YtipplbcjdcdapabGreat.HQuotaOfGame
