/- Maps from keys of sets to sets: what is read of them, and how they are ranged over. -/
import Derived.Test.YthjooblibkckmaaE3
import Derived.Test.YthjooblibkckmaaR1
import Derived.Maps.RangeWalk
import Derived.Maps.OwnOps
import Derived.Maps.OwnSet
import Derived.DeepKeys4
namespace Go.Proofs.Ythjooblibkckmaa
open Go.RowKit Vo

theorem mapLaid : laidOutB Try.prog = true := by kernel_rfl
theorem keyLaw : Go.Maps.Keyed Try.prog 116 :=
  Go.Maps.Keyed.of_law (deep_law_laid mapLaid (m := 3) (by omega) (of_decide_eq_true (by kernel_rfl)) (by kernel_rfl) (by rw [Try.underlying116]))

theorem wf_small {a : Int} (h0 : 0 ≤ a) (h1 : a ≤ 9) : (Lit.int .i64 a).wf = true := WalkArith.wf_i64 (by omega)
theorem keyLits9 (d : Nat) (a0 a1 a2 a3 a4 a5 a6 a7 a8 : Int) (h0 : (Lit.int .i64 a0).wf = true) (h1 : (Lit.int .i64 a1).wf = true) (h2 : (Lit.int .i64 a2).wf = true) (h3 : (Lit.int .i64 a3).wf = true) (h4 : (Lit.int .i64 a4).wf = true) (h5 : (Lit.int .i64 a5).wf = true) (h6 : (Lit.int .i64 a6).wf = true) (h7 : (Lit.int .i64 a7).wf = true) (h8 : (Lit.int .i64 a8).wf = true) :
    Try.prog.keyLits (d + 2) 116 [.int .i64 a0, .int .i64 a1, .int .i64 a2, .int .i64 a3, .int .i64 a4, .int .i64 a5, .int .i64 a6, .int .i64 a7, .int .i64 a8] = some [.int .i64 a0, .int .i64 a1, .int .i64 a2, .int .i64 a3, .int .i64 a4, .int .i64 a5, .int .i64 a6, .int .i64 a7, .int .i64 a8] := by
  have hc : Try.prog.cellsOf 116 = 9 := by kernel_rfl
  have hi : Try.prog.cellsOf 3 = 1 := by kernel_rfl
  have e : ∀ a : Int, (Lit.int .i64 a).wf = true → Try.prog.keyLits (d + 1) 3 [.int .i64 a] = some [.int .i64 a] := fun a h => by
    simp only [Program.keyLits, Try.underlying3]
    rw [if_pos ⟨trivial, h⟩]
  unfold Program.keyLits
  rw [Try.underlying116]
  simp only [hc, hi, List.length_cons, List.length_nil, Nat.reduceAdd, if_true]
  rw [show List.range 9 = [0, 1, 2, 3, 4, 5, 6, 7, 8] from rfl]
  simp [e, h0, h1, h2, h3, h4, h5, h6, h7, h8]

/-- What the key of a set reads as. -/
def klit (s : Nat) : Lit := .string (keyBytes [.int .i64 (keyAt s 0), .int .i64 (keyAt s 1), .int .i64 (keyAt s 2), .int .i64 (keyAt s 3), .int .i64 (keyAt s 4), .int .i64 (keyAt s 5), .int .i64 (keyAt s 6), .int .i64 (keyAt s 7), .int .i64 (keyAt s 8)])
theorem keyV_cells (s : Nat) : (keyV s).cells.toList = [.int .i64 (keyAt s 0), .int .i64 (keyAt s 1), .int .i64 (keyAt s 2), .int .i64 (keyAt s 3), .int .i64 (keyAt s 4), .int .i64 (keyAt s 5), .int .i64 (keyAt s 6), .int .i64 (keyAt s 7), .int .i64 (keyAt s 8)] := rfl
theorem keyV_formed (s : Nat) : (keyV s).formed Try.prog 116 = true := by
  have hc : Try.prog.cellsOf 116 = 9 := by kernel_rfl
  unfold keyV Value.formed
  rw [Try.underlying116]
  simp [hc]
theorem key_reads (s : Nat) : keyOf Try.prog 116 (keyV s) = some (klit s) := by
  have hw : ∀ j, (Lit.int .i64 (keyAt s j)).wf = true := fun j => wf_small (keyAt_bd s j).1 (keyAt_bd s j).2
  have hk : Try.prog.keyType 116 = true := by kernel_rfl
  have hf := keyV_formed s
  obtain ⟨d, hd⟩ : ∃ d, Try.prog.types.size + 1 = d + 2 := ⟨Try.prog.types.size - 1, by
    have : 0 < Try.prog.types.size := of_decide_eq_true (by kernel_rfl)
    omega⟩
  have h9 := keyLits9 d _ _ _ _ _ _ _ _ _ (hw 0) (hw 1) (hw 2) (hw 3) (hw 4) (hw 5) (hw 6) (hw 7) (hw 8)
  unfold keyOf
  rw [Try.underlying116]
  show (if (Try.prog.keyType 116 && (keyV s).formed Try.prog 116) = true then _ else none) = _
  rw [hk, hf, hd, keyV_cells, h9]
  rfl
theorem klit_key (s : Nat) : WideAt.IsKeyLit (klit s) := keyLaw.key (key_reads s)
theorem keyV_inj {s t : Nat} (hs : s < 512) (ht : t < 512) (h : keyV s = keyV t) : s = t := by
  have e := congrArg (fun v : Value => v.cells.toList) h
  simp only [keyV_cells] at e
  simp only [List.cons.injEq, Value.int.injEq, true_and, and_true] at e
  obtain ⟨h0, h1, h2, h3, h4, h5, h6, h7, h8⟩ := e
  refine keyAt_inj hs ht fun j hj => ?_
  have hj' : j = 0 ∨ j = 1 ∨ j = 2 ∨ j = 3 ∨ j = 4 ∨ j = 5 ∨ j = 6 ∨ j = 7 ∨ j = 8 := by omega
  rcases hj' with rfl | rfl | rfl | rfl | rfl | rfl | rfl | rfl | rfl
  · exact h0
  · exact h1
  · exact h2
  · exact h3
  · exact h4
  · exact h5
  · exact h6
  · exact h7
  · exact h8
theorem klit_inj {s t : Nat} (hs : s < 512) (ht : t < 512) (h : klit s = klit t) : s = t :=
  keyV_inj hs ht (keyLaw.inj (key_reads s) (by rw [h]; exact key_reads t))
theorem same_klit {s t : Nat} (hs : s < 512) (ht : t < 512) : (klit s).sameKey (klit t) = decide (s = t) := by
  by_cases e : s = t
  · subst e; rw [WideAt.sameKey_self (klit_key s)]; simp
  · rw [Go.Maps.sameKey_ne (fun h => e (klit_inj hs ht h))]; simp [e]

abbrev DU : Type := DataW Unit
/-- The map has just the sets of M, each at its key. -/
structure MapIs (D : DU) (M : Nat → Bool) : Prop where
  map : Go.Maps.IsMap D
  dom : ∀ s, M s = true → s < 512
  has : ∀ s, s < 512 → Go.Maps.has D (klit s) = M s
  only : ∀ kl, Go.Maps.has D kl = true → ∃ s, s < 512 ∧ kl = klit s
  at_ : ∀ s, M s = true → ∀ zd, D.atKey (klit s) zd = .lit (.int .u64 (s : Int))
theorem MapIs.nil : MapIs (.map []) (fun _ => false) :=
  ⟨Go.Maps.isMap_empty, fun _ h => by simp at h, fun _ _ => rfl, fun _ h => by simp [Go.Maps.has] at h, fun _ h => by simp at h⟩
theorem MapIs.put {D : DU} {M : Nat → Bool} (h : MapIs D M) {s : Nat} (hs : s < 512) : MapIs (D.put (klit s) (.lit (.int .u64 (s : Int)))) (fun t => decide (t = s) || M t) := by
  refine ⟨h.map.put _ _, fun t ht => ?_, fun t ht => ?_, fun kl hkl => ?_, fun t ht zd => ?_⟩
  · simp at ht; rcases ht with rfl | ht
    · exact hs
    · exact h.dom t ht
  · by_cases e : t = s
    · subst e; rw [Go.Maps.has_put_same h.map (klit_key t)]; simp
    · rw [Go.Maps.has_put_other (fun h' => e (klit_inj ht hs h')), h.has t ht]; simp [e]
  · by_cases e : kl = klit s
    · exact ⟨s, hs, e⟩
    · rw [Go.Maps.has_put_other e] at hkl; exact h.only kl hkl
  · by_cases e : t = s
    · subst e; rw [Go.Maps.atKey_put_same h.map (klit_key t)]
    · simp [e] at ht
      rw [Go.Maps.atKey_put_other (fun h' => e (klit_inj (h.dom t ht) hs h'))]
      exact h.at_ t ht zd
theorem MapIs.del {D : DU} {M : Nat → Bool} (h : MapIs D M) {s : Nat} (hs : s < 512) : MapIs (D.del (klit s)) (fun t => M t && decide (t ≠ s)) := by
  refine ⟨h.map.del _, fun t ht => ?_, fun t ht => ?_, fun kl hkl => ?_, fun t ht zd => ?_⟩
  · simp at ht; exact h.dom t ht.1
  · by_cases e : t = s
    · subst e; rw [Go.Maps.has_del_same]; simp
    · rw [Go.Maps.has_del_other (fun h' => e (klit_inj ht hs h')), h.has t ht]; simp [e]
  · by_cases e : kl = klit s
    · rw [e, Go.Maps.has_del_same] at hkl; cases hkl
    · rw [Go.Maps.has_del_other e] at hkl; exact h.only kl hkl
  · simp at ht
    rw [Go.Maps.atKey_del_other (fun h' => ht.2 (klit_inj (h.dom t ht.1) hs h'))]
    exact h.at_ t ht.1 zd
theorem MapIs.congr {D : DU} {M M' : Nat → Bool} (h : MapIs D M) (e : ∀ s, M s = M' s) : MapIs D M' := by
  have : M = M' := funext e
  rw [← this]; exact h

/-- The sets of the map that are still to come. -/
def toCome (left : Lit → Bool) (s : Nat) : Bool := left (klit s)

section
variable (w : World) {ops : Array Oper} {rest : List Oper} {o : Oper} {a : Act} {Q : Exit → Act → World → Prop}
/-- The step of a range over such a map: nothing is left, or some set that is to come comes. -/
theorem wpList_next_sets (hg : o.guard = none) (it : Operand) (hop : o.op = Op.next it false) (b r n : Nat) (D : DU) (M : Nat → Bool) (left : Lit → Bool) (cnt : Nat)
    (hit : a.eval it = .pointer (some ⟨r, 0, none⟩)) (h : w.ranges Try.prog 116 (plainElem (H := Unit) Try.prog 78) b r n D left cnt) (hM : MapIs D M)
    (hDone : cnt = 0 → (∀ s, s < 512 → left (klit s) = false) → wpList Try.prog ops Q rest (a.put o.dst (.tuple #[.bool false])) w)
    (hMore : ∀ (s : Nat) (w' : World) (cnt' : Nat), s < 512 → M s = true → left (klit s) = true → w'.ranges Try.prog 116 (plainElem (H := Unit) Try.prog 78) b r n D (fun z => left z && !z.sameKey (klit s)) cnt' → cnt' < cnt →
      w.grownBy w' (some r) → w'.heap.size = w.heap.size → (Instr.entry (.pointer (some ⟨r, 0, none⟩))).run Try.prog w' = .ok (.tuple #[keyV s, .int .u64 (s : Int)]) w' → wpList Try.prog ops Q rest (a.put o.dst (.tuple #[.bool true, keyV s, .int .u64 (s : Int)])) w') :
    wpList Try.prog ops Q (o :: rest) a w := by
  refine wpList_plain hg fun K' hK' => ?_
  unfold Oper.wp
  rcases h.next keyLaw o.type with ⟨h0, hl, hrun⟩ | ⟨key, v, kl, y, w', cnt', hkey, hlk, hv, hat, hrun, hrg, hlt, hgr, hsz, hen⟩
  · simp [execOp, hop, hit, hrun, Result.andThen]
    exact hK' _ _ (hDone h0 (fun s _ => hl _))
  · obtain ⟨s, hs, rfl⟩ := hM.only kl (Go.Maps.has_true_of_atKey hat)
    have hMs : M s = true := by rw [← hM.has s hs]; exact Go.Maps.has_true_of_atKey hat
    obtain rfl : key = keyV s := keyLaw.inj hkey (key_reads s)
    obtain ⟨c, rfl, rfl, _⟩ := Go.plainElem_int_inv (q := .u64) Try.underlying78 hv
    have hc : c = (s : Int) := by
      have h1 := hat (.lit (.bool false))
      rw [hM.at_ s hMs] at h1
      simpa using h1.symm
    subst hc
    simp [execOp, hop, hit, hrun, Result.andThen]
    exact hK' _ _ (hMore s w' cnt' hs hMs hlk hrg hlt hgr hsz hen)
end
end Go.Proofs.Ythjooblibkckmaa
