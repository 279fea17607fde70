/- Texts of E9, Eb. -/
import Derived.Test.YtlcfimddcedbcabPkQ16
import Derived.Sort.MapsRangeIn
import Derived.RegionIn
import Derived.Test.YtlcfimddcedbcabPkQ14
import Derived.Test.YtlcfimddcedbcabPkQ07
import Derived.Maps.RangeWalk
import Derived.Maps.OwnOps
import Derived.Maps.OwnSet
import Derived.DeepKeys4
import Derived.Outline
namespace Go.Proofs.Ytlcfimddcedbcab
open Go.RowKit Vo

theorem mapLaid : laidOutB Try.prog = true := by kernel_rfl
theorem keyLaw : Go.Maps.Keyed Try.prog 151 :=
  Go.Maps.Keyed.of_law (deep_law_laid mapLaid (m := 3) (by omega) (of_decide_eq_true (by kernel_rfl)) (by kernel_rfl) (by rw [Try.underlying151]))

theorem wf_small {a : Int} (h0 : 0 ≤ a) (h1 : a ≤ 9) : (Lit.int .i64 a).wf = true := WalkArith.wf_i64 (by omega)
theorem keyLits9 (d : Nat) (a0 a1 a2 a3 a4 a5 a6 a7 a8 : Int) (h0 : (Lit.int .i64 a0).wf = true) (h1 : (Lit.int .i64 a1).wf = true) (h2 : (Lit.int .i64 a2).wf = true) (h3 : (Lit.int .i64 a3).wf = true) (h4 : (Lit.int .i64 a4).wf = true) (h5 : (Lit.int .i64 a5).wf = true) (h6 : (Lit.int .i64 a6).wf = true) (h7 : (Lit.int .i64 a7).wf = true) (h8 : (Lit.int .i64 a8).wf = true) :
    Try.prog.keyLits (d + 2) 151 [.int .i64 a0, .int .i64 a1, .int .i64 a2, .int .i64 a3, .int .i64 a4, .int .i64 a5, .int .i64 a6, .int .i64 a7, .int .i64 a8] = some [.int .i64 a0, .int .i64 a1, .int .i64 a2, .int .i64 a3, .int .i64 a4, .int .i64 a5, .int .i64 a6, .int .i64 a7, .int .i64 a8] := by
  have hc : Try.prog.cellsOf 151 = 9 := by kernel_rfl
  have hi : Try.prog.cellsOf 3 = 1 := by kernel_rfl
  have e : ∀ a : Int, (Lit.int .i64 a).wf = true → Try.prog.keyLits (d + 1) 3 [.int .i64 a] = some [.int .i64 a] := fun a h => by
    simp only [Program.keyLits, Try.underlying3]
    rw [if_pos ⟨trivial, h⟩]
  unfold Program.keyLits
  rw [Try.underlying151]
  simp only [hc, hi, List.length_cons, List.length_nil, Nat.reduceAdd, if_true]
  rw [show List.range 9 = [0, 1, 2, 3, 4, 5, 6, 7, 8] from rfl]
  simp [e, h0, h1, h2, h3, h4, h5, h6, h7, h8]

/-- What the key of a set reads as. -/
def klit (s : Nat) : Lit := .string (keyBytes [.int .i64 (keyAt s 0), .int .i64 (keyAt s 1), .int .i64 (keyAt s 2), .int .i64 (keyAt s 3), .int .i64 (keyAt s 4), .int .i64 (keyAt s 5), .int .i64 (keyAt s 6), .int .i64 (keyAt s 7), .int .i64 (keyAt s 8)])
theorem keyV_cells (s : Nat) : (keyV s).cells.toList = [.int .i64 (keyAt s 0), .int .i64 (keyAt s 1), .int .i64 (keyAt s 2), .int .i64 (keyAt s 3), .int .i64 (keyAt s 4), .int .i64 (keyAt s 5), .int .i64 (keyAt s 6), .int .i64 (keyAt s 7), .int .i64 (keyAt s 8)] := rfl
theorem keyV_formed (s : Nat) : (keyV s).formed Try.prog 151 = true := by
  have hc : Try.prog.cellsOf 151 = 9 := by kernel_rfl
  unfold keyV Value.formed
  rw [Try.underlying151]
  simp [hc]
theorem key_reads (s : Nat) : keyOf Try.prog 151 (keyV s) = some (klit s) := by
  have hw : ∀ j, (Lit.int .i64 (keyAt s j)).wf = true := fun j => wf_small (keyAt_bd s j).1 (keyAt_bd s j).2
  have hk : Try.prog.keyType 151 = true := by kernel_rfl
  have hf := keyV_formed s
  obtain ⟨d, hd⟩ : ∃ d, Try.prog.types.size + 1 = d + 2 := ⟨Try.prog.types.size - 1, by
    have : 0 < Try.prog.types.size := of_decide_eq_true (by kernel_rfl)
    omega⟩
  have h9 := keyLits9 d _ _ _ _ _ _ _ _ _ (hw 0) (hw 1) (hw 2) (hw 3) (hw 4) (hw 5) (hw 6) (hw 7) (hw 8)
  unfold keyOf
  rw [Try.underlying151]
  show (if (Try.prog.keyType 151 && (keyV s).formed Try.prog 151) = true then _ else none) = _
  rw [hk, hf, hd, keyV_cells, h9]
  rfl
theorem klit_key (s : Nat) : WideAt.IsKeyLit (klit s) := keyLaw.key (key_reads s)
theorem keyV_inj {s t : Nat} (hs : s < 512) (ht : t < 512) (h : keyV s = keyV t) : s = t := by
  have e := congrArg (fun v : Value => v.cells.toList) h
  simp only [keyV_cells] at e
  simp only [List.cons.injEq, Value.int.injEq, true_and, and_true] at e
  obtain ⟨h0, h1, h2, h3, h4, h5, h6, h7, h8⟩ := e
  refine keyAt_inj hs ht fun j hj => ?_
  have hj' : j = 0 ∨ j = 1 ∨ j = 2 ∨ j = 3 ∨ j = 4 ∨ j = 5 ∨ j = 6 ∨ j = 7 ∨ j = 8 := by omega
  rcases hj' with rfl | rfl | rfl | rfl | rfl | rfl | rfl | rfl | rfl
  · exact h0
  · exact h1
  · exact h2
  · exact h3
  · exact h4
  · exact h5
  · exact h6
  · exact h7
  · exact h8
theorem klit_inj {s t : Nat} (hs : s < 512) (ht : t < 512) (h : klit s = klit t) : s = t :=
  keyV_inj hs ht (keyLaw.inj (key_reads s) (by rw [h]; exact key_reads t))
theorem same_klit {s t : Nat} (hs : s < 512) (ht : t < 512) : (klit s).sameKey (klit t) = decide (s = t) := by
  by_cases e : s = t
  · subst e; rw [WideAt.sameKey_self (klit_key s)]; simp
  · rw [Go.Maps.sameKey_ne (fun h => e (klit_inj hs ht h))]; simp [e]

abbrev DU : Type := DataW Unit
/-- The map has just the sets of M, each at its key. -/
structure MapIs (D : DU) (M : Nat → Bool) : Prop where
  map : Go.Maps.IsMap D
  dom : ∀ s, M s = true → s < 512
  has : ∀ s, s < 512 → Go.Maps.has D (klit s) = M s
  only : ∀ kl, Go.Maps.has D kl = true → ∃ s, s < 512 ∧ kl = klit s
  at_ : ∀ s, M s = true → ∀ zd, D.atKey (klit s) zd = .lit (.int .u64 (s : Int))
theorem MapIs.nil : MapIs (.map []) (fun _ => false) :=
  ⟨Go.Maps.isMap_empty, fun _ h => by simp at h, fun _ _ => rfl, fun _ h => by simp [Go.Maps.has] at h, fun _ h => by simp at h⟩
theorem MapIs.put {D : DU} {M : Nat → Bool} (h : MapIs D M) {s : Nat} (hs : s < 512) : MapIs (D.put (klit s) (.lit (.int .u64 (s : Int)))) (fun t => decide (t = s) || M t) := by
  refine ⟨h.map.put _ _, fun t ht => ?_, fun t ht => ?_, fun kl hkl => ?_, fun t ht zd => ?_⟩
  · simp at ht; rcases ht with rfl | ht
    · exact hs
    · exact h.dom t ht
  · by_cases e : t = s
    · subst e; rw [Go.Maps.has_put_same h.map (klit_key t)]; simp
    · rw [Go.Maps.has_put_other (fun h' => e (klit_inj ht hs h')), h.has t ht]; simp [e]
  · by_cases e : kl = klit s
    · exact ⟨s, hs, e⟩
    · rw [Go.Maps.has_put_other e] at hkl; exact h.only kl hkl
  · by_cases e : t = s
    · subst e; rw [Go.Maps.atKey_put_same h.map (klit_key t)]
    · simp [e] at ht
      rw [Go.Maps.atKey_put_other (fun h' => e (klit_inj (h.dom t ht) hs h'))]
      exact h.at_ t ht zd
theorem MapIs.del {D : DU} {M : Nat → Bool} (h : MapIs D M) {s : Nat} (hs : s < 512) : MapIs (D.del (klit s)) (fun t => M t && decide (t ≠ s)) := by
  refine ⟨h.map.del _, fun t ht => ?_, fun t ht => ?_, fun kl hkl => ?_, fun t ht zd => ?_⟩
  · simp at ht; exact h.dom t ht.1
  · by_cases e : t = s
    · subst e; rw [Go.Maps.has_del_same]; simp
    · rw [Go.Maps.has_del_other (fun h' => e (klit_inj ht hs h')), h.has t ht]; simp [e]
  · by_cases e : kl = klit s
    · rw [e, Go.Maps.has_del_same] at hkl; cases hkl
    · rw [Go.Maps.has_del_other e] at hkl; exact h.only kl hkl
  · simp at ht
    rw [Go.Maps.atKey_del_other (fun h' => ht.2 (klit_inj (h.dom t ht.1) hs h'))]
    exact h.at_ t ht.1 zd
theorem MapIs.congr {D : DU} {M M' : Nat → Bool} (h : MapIs D M) (e : ∀ s, M s = M' s) : MapIs D M' := by
  have : M = M' := funext e
  rw [← this]; exact h

/-- The sets of the map that are still to come. -/
def toCome (left : Lit → Bool) (s : Nat) : Bool := left (klit s)

section
variable (w : World) {ops : Array Oper} {rest : List Oper} {o : Oper} {a : Act} {Q : Exit → Act → World → Prop}
/-- The step of a range over such a map: nothing is left, or some set that is to come comes. -/
theorem wpList_next_sets (hg : o.guard = none) (it : Operand) (hop : o.op = Op.next it false) (b r n : Nat) (D : DU) (M : Nat → Bool) (left : Lit → Bool) (cnt : Nat)
    (hit : a.eval it = .pointer (some ⟨r, 0, none⟩)) (h : w.ranges Try.prog 151 (plainElem (H := Unit) Try.prog 107) b r n D left cnt) (hM : MapIs D M)
    (hDone : cnt = 0 → (∀ s, s < 512 → left (klit s) = false) → wpList Try.prog ops Q rest (a.put o.dst (.tuple #[.bool false])) w)
    (hMore : ∀ (s : Nat) (w' : World) (cnt' : Nat), s < 512 → M s = true → left (klit s) = true → w'.ranges Try.prog 151 (plainElem (H := Unit) Try.prog 107) b r n D (fun z => left z && !z.sameKey (klit s)) cnt' → cnt' < cnt →
      w.grownBy w' (some r) → w'.heap.size = w.heap.size → (Instr.entry (.pointer (some ⟨r, 0, none⟩))).run Try.prog w' = .ok (.tuple #[keyV s, .int .u64 (s : Int)]) w' → wpList Try.prog ops Q rest (a.put o.dst (.tuple #[.bool true, keyV s, .int .u64 (s : Int)])) w') :
    wpList Try.prog ops Q (o :: rest) a w := by
  refine wpList_plain hg fun K' hK' => ?_
  unfold Oper.wp
  rcases h.next keyLaw o.type with ⟨h0, hl, hrun⟩ | ⟨key, v, kl, y, w', cnt', hkey, hlk, hv, hat, hrun, hrg, hlt, hgr, hsz, hen⟩
  · simp [execOp, hop, hit, hrun, Result.andThen]
    exact hK' _ _ (hDone h0 (fun s _ => hl _))
  · obtain ⟨s, hs, rfl⟩ := hM.only kl (Go.Maps.has_true_of_atKey hat)
    have hMs : M s = true := by rw [← hM.has s hs]; exact Go.Maps.has_true_of_atKey hat
    obtain rfl : key = keyV s := keyLaw.inj hkey (key_reads s)
    obtain ⟨c, rfl, rfl, _⟩ := Go.plainElem_int_inv (q := .u64) Try.underlying107 hv
    have hc : c = (s : Int) := by
      have h1 := hat (.lit (.bool false))
      rw [hM.at_ s hMs] at h1
      simpa using h1.symm
    subst hc
    simp [execOp, hop, hit, hrun, Result.andThen]
    exact hK' _ _ (hMore s w' cnt' hs hMs hlk hrg hlt hgr hsz hen)
end
end Go.Proofs.Ytlcfimddcedbcab

namespace Go.Proofs.Ytlcfimddcedbcab
open Go.RowKit Vo
attribute [local go_sem] Oper.semAt_some

theorem wpListIn_next_sets {F : Fence} {m : Nat} (w : World) {ops : Array Oper} {rest : List Oper} {o : Oper} {a : Act} {Q : Exit → Act → World → Prop} (hg : o.guard = none) (it : Operand) (hop : o.op = Op.next it false) (b r n : Nat) (D : DU) (M : Nat → Bool) (left : Lit → Bool) (cnt : Nat)
    (hit : a.eval it = .pointer (some ⟨r, 0, none⟩)) (h : w.ranges Try.prog 151 (plainElem (H := Unit) Try.prog 107) b r n D left cnt) (hM : MapIs D M)
    (hDone : cnt = 0 → (∀ s, s < 512 → left (klit s) = false) → wpListIn F m Try.prog ops Q rest (a.put o.dst (.tuple #[.bool false])) w)
    (hMore : ∀ (s : Nat) (w' : World) (cnt' : Nat), s < 512 → M s = true → left (klit s) = true → w'.ranges Try.prog 151 (plainElem (H := Unit) Try.prog 107) b r n D (fun z => left z && !z.sameKey (klit s)) cnt' → cnt' < cnt →
      w.grownBy w' (some r) → w'.heap.size = w.heap.size → (Instr.entry (.pointer (some ⟨r, 0, none⟩))).run Try.prog w' = .ok (.tuple #[keyV s, .int .u64 (s : Int)]) w' → wpListIn F m Try.prog ops Q rest (a.put o.dst (.tuple #[.bool true, keyV s, .int .u64 (s : Int)])) w') :
    wpListIn F m Try.prog ops Q (o :: rest) a w := by
  refine wpListIn_plain hg fun K' hK' => ?_
  unfold Oper.wpIn
  refine ⟨by simp [Oper.about, hop], ?_⟩
  rw [Oper.semAt_plain F _ _ (by rw [hop]; intro c hc'; cases hc')]
  rcases h.next keyLaw o.type with ⟨h0, hl, hrun⟩ | ⟨key, v, kl, y, w', cnt', hkey, hlk, hv, hat, hrun, hrg, hlt, hgr, hsz, hen⟩
  · simp [execOp, hop, hit, hrun, Result.andThen]
    exact hK' _ _ (hDone h0 (fun s _ => hl _))
  · obtain ⟨s, hs, rfl⟩ := hM.only kl (Go.Maps.has_true_of_atKey hat)
    have hMs : M s = true := by rw [← hM.has s hs]; exact Go.Maps.has_true_of_atKey hat
    obtain rfl : key = keyV s := keyLaw.inj hkey (key_reads s)
    obtain ⟨c, rfl, rfl, _⟩ := Go.plainElem_int_inv (q := .u64) Try.underlying107 hv
    have hc : c = (s : Int) := by
      have h1 := hat (.lit (.bool false))
      rw [hM.at_ s hMs] at h1
      simpa using h1.symm
    subst hc
    simp [execOp, hop, hit, hrun, Result.andThen]
    exact hK' _ _ (hMore s w' cnt' hs hMs hlk hrg hlt hgr hsz hen)

theorem map_size_le {w : World} {b n : Nat} {D : DU} (h : w.ownsMap Try.prog 151 (plainElem (H := Unit) Try.prog 107) b n D) : Go.Maps.size D ≤ n := by
  obtain ⟨es, clock, _, F, hs, rfl⟩ := h
  show (List.foldr DataW.insert [] _).length ≤ n
  rw [(Go.WideShapes.sorted_perm _).length_eq]; simpa using hs

/-- What has come: each once, just those that are no longer to come. -/
structure Came (M : Nat → Bool) (left : Lit → Bool) (ps : List Set9) : Prop where
  nodup : (ps.map (·.1)).Nodup
  iff : ∀ s, s ∈ ps.map (·.1) ↔ (M s = true ∧ left (klit s) = false)
theorem Came.start {D : DU} {M : Nat → Bool} (h : MapIs D M) : Came M (Go.Maps.has D) [] := by
  refine ⟨List.Pairwise.nil, fun s => ⟨fun h => by simp at h, fun ⟨h1, h2⟩ => ?_⟩⟩
  rw [h.has s (h.dom s h1), h1] at h2; cases h2
theorem Came.step {M : Nat → Bool} (hd : ∀ s, M s = true → s < 512) {left : Lit → Bool} {ps : List Set9} (h : Came M left ps) {s : Nat} (hs : s < 512) (hM : M s = true) (hl : left (klit s) = true) : Came M (fun z => left z && !z.sameKey (klit s)) (ps ++ [⟨s, hs⟩]) := by
  refine ⟨?_, fun t => ?_⟩
  · rw [List.map_append, List.nodup_append]
    refine ⟨h.nodup, by simp, fun a ha b hb e => ?_⟩
    simp at hb
    subst e; subst hb
    have := (h.iff _).1 ha
    rw [hl] at this; cases this.2
  · rw [List.map_append, List.mem_append, h.iff t]
    constructor
    · rintro (⟨h1, h2⟩ | h1)
      · exact ⟨h1, by rw [h2]; rfl⟩
      · simp at h1; subst h1; exact ⟨hM, by rw [same_klit hs hs]; simp⟩
    · rintro ⟨h1, h2⟩
      by_cases e : t = s
      · subst e; right; simp
      · left
        refine ⟨h1, ?_⟩
        rw [same_klit (hd t h1) hs] at h2
        simpa [e] using h2

set_option maxRecDepth 100000 in
set_option maxHeartbeats 1000000 in
theorem mapValues1_in (F : Fence) (n : Nat) (hf : F.fn 157) (hro : F.round = none) (hn : 1 ≤ n) (l Bm b nn : Nat) (D0 : DU) (M : Nat → Bool) (hM : MapIs D0 M) (J Jx : List Set9 → World → Prop)
    (hY : ∀ pre x W, J pre W → pre.length < nn → YieldAt F (n - 1) Try.prog l #[Value.int .u64 (x.1 : Int)] W fun e W' =>
      (e = .returned (.bool true) ∧ J (pre ++ [x]) W' ∧ KeepsWalks W W') ∨ (e = .returned (.bool false) ∧ Jx (pre ++ [x]) W'))
    (W : World) (hJ : AbidesFrom W.heap.size J) (hm : W.cell? ⟨Bm, 0, none⟩ = some (.map (some b))) (hown : W.ownsMap Try.prog 151 (plainElem (H := Unit) Try.prog 107) b nn D0) (h0 : J [] W) :
    CallsIn F n Try.prog 157 #[.func (.yield l) #[] #[], .pointer (some ⟨Bm, 0, none⟩)] W fun e W' => (∃ v, e = .returned v) ∧
      ((∃ xs : List Set9, ((xs.map (·.1)).Nodup ∧ ∀ s, s ∈ xs.map (·.1) ↔ M s = true) ∧ J xs W') ∨ (∃ pre, Jx pre W')) := by
  have hsz := map_size_le hown
  have HM := Lib.hid hM
  clear hM
  refine callsIn_of_wp Try.func157 rfl hf ?_ hro
  simp only [Try.ntmps157, List.size_toArray, List.length_cons, List.length_nil, Nat.reduceAdd, Nat.reduceSub, Array.replicate_succ, Array.replicate_zero, List.push_toArray, List.append_toArray, List.nil_append, List.cons_append]
  gi_wp2_with (first
    | (gi_at_range; refine wpListIn_range_own _ rfl _ 149 rfl 151 107 keyLaw Try.underlying149 _ b nn _ rfl hown ?_; intro w0 hrg0 hg0 hs0)
    | gi_in)
  go_frame
  gi_loopw [4] (fun _ wr => ∃ (left : Lit → Bool) (cnt : Nat) (ps : List Set9), wr.ranges Try.prog 151 (plainElem (H := Unit) Try.prog 107) b W.heap.size nn D0 left cnt ∧ ps.length + cnt ≤ nn ∧ Came M left ps ∧ J ps wr)
    (fun _ wr => wr.rangeLeft b W.heap.size)
  case atStart =>
    exact ⟨_, _, [], hrg0, by simpa using hsz, Came.start HM.out, hJ [] W w0 none h0 hg0 (fun r e => by cases e)⟩
  case round =>
    obtain ⟨left, cnt, ps, hrg, hcs, hC, hJs⟩ := hrel
    gi_wp2_with (first
      | (gi_at_next; refine wpListIn_next_sets _ rfl _ rfl b W.heap.size nn _ M _ _ rfl hrg HM.out ?_ ?_)
      | gi_in)
    · intro hc0 hl0
      gi_wp2
      go_end0
      exact ⟨⟨_, rfl⟩, .inl ⟨ps, ⟨hC.nodup, fun s => by
        rw [hC.iff s]
        exact ⟨fun h => h.1, fun h => ⟨h, hl0 s (HM.out.dom s h)⟩⟩⟩, hJs⟩⟩
    · intro s w2 cnt2 hs hMs hls hrg2 hlt hg2 hs2 hen
      have hJ2 : J ps w2 := hJ ps wr w2 (some W.heap.size) hJs hg2 (fun r e => by cases e; exact ⟨Nat.le_refl _, hrg.iter_walk⟩)
      obtain ⟨fn, tmps, assign, body, hy, hR⟩ := hY ps ⟨s, hs⟩ w2 hJ2 (by omega)
      dsimp only at hy
      have HC2 := Lib.hid (hC.step HM.out.dom hs hMs hls)
      clear hs2 hC
      unfold keyV at hen ⊢
      gi_wp2
      refine hR.mono ?_
      rintro e W3 (⟨rfl, hJ3, hk3⟩ | ⟨rfl, hJx3⟩)
      · gi_wp2
        have hrg3 := hrg2.of_walks hk3
        go_roundw
        case rel => exact ⟨_, cnt2, ps ++ [⟨s, hs⟩], hrg3, by simp; omega, HC2.out, hJ3⟩
        case measure => rw [hrg3.left_eq, hrg.left_eq]; exact hlt
      · gi_wp2
        refine bodyPost_ret (results_none rfl _ _ _) rfl ?_
        exact ⟨⟨_, rfl⟩, .inr ⟨ps ++ [⟨s, hs⟩], hJx3⟩⟩

set_option maxHeartbeats 1000000 in
theorem mapValues_any (b : Nat) (w : World) :
    Calls Try.prog 139 #[.map (some b)] w fun e w' => e = .returned (.func (.func 157) #[] #[.pointer (some ⟨w.heap.size, 0, none⟩)]) ∧ w' = w.alloc (.cells #[.map (some b)] 149) := by
  go_enter Try.func139, Try.ntmps139
  go_wp2
  go_ret
  exact ⟨rfl, rfl⟩

theorem ownsMap_below {w w' : World} {b n : Nat} {D : DU} (h : w.ownsMap Try.prog 151 (plainElem (H := Unit) Try.prog 107) b n D) (hb : Below w.heap.size w w') : w'.ownsMap Try.prog 151 (plainElem (H := Unit) Try.prog 107) b n D := by
  have hlt := h.lt
  obtain ⟨es, clock, hbk, F, hs, hD⟩ := h
  exact ⟨es, clock, (hb.block b hlt).trans hbk, F, hs, hD⟩

theorem mapValues_stops (Bm b nn : Nat) (D0 : DU) (M : Nat → Bool) (hM : MapIs D0 M) (w : World) (hBm : Bm < w.heap.size) (hm : w.cell? ⟨Bm, 0, none⟩ = some (.map (some b))) (hown : w.ownsMap Try.prog 151 (plainElem (H := Unit) Try.prog 107) b nn D0) :
    SeqStopsK Fence.wide 8 Try.prog 157 #[.pointer (some ⟨Bm, 0, none⟩)] (fun x : Set9 => #[Value.int .u64 (x.1 : Int)]) KeepsWalks (fun xs => (xs.map (·.1)).Nodup ∧ ∀ s, s ∈ xs.map (·.1) ↔ M s = true) (fun _ => True) nn w := fun l J Jx W hW hJ _ hY h0 =>
  (mapValues1_in Fence.wide 8 trivial rfl (by omega) l Bm b nn D0 M hM J Jx hY W hJ ((hW.cell (p := ⟨Bm, 0, none⟩) hBm).trans hm) (ownsMap_below hown hW) h0).mono fun e W' ⟨he, h⟩ => ⟨he, h.imp id fun ⟨pre, h2⟩ => ⟨pre, trivial, h2⟩⟩
end Go.Proofs.Ytlcfimddcedbcab

namespace Go.Proofs.Ytlcfimddcedbcab
open Go.RowKit Vo

theorem eq_int (d : Nat) (a b : Int) (w : World) : (Op.equalIn (d + 1) 3 (.int .i64 a) (.int .i64 b)).run Try.prog w = .ok (a == b) w := run_equalIn_int w d 3 .i64 .i64 a b Try.underlying3
theorem part_int (xs : Array Value) (i : Nat) (a : Int) (h : xs[i]? = some (.int .i64 a)) (w : World) : (part 3 xs i).run Try.prog w = .ok (.int .i64 a) w := by
  simp [part, Try.isAgg3, h]

theorem eq_list (xs ys : Array Value) (f g : Nat → Int) (w : World) : ∀ (l : List Nat), (∀ i ∈ l, xs[i]? = some (.int .i64 (f i)) ∧ ys[i]? = some (.int .i64 (g i))) →
    (forIn l ((none, ()) : Option Bool × Unit) (fun i (_ : Option Bool × Unit) => (do
      let a ← part 3 xs (i * 1)
      let b ← part 3 ys (i * 1)
      let r ← Op.equalIn 9999 3 a b
      if (!r) = true then pure (ForInStep.done (some false, ())) else pure (ForInStep.yield (none, ())) : Sem (ForInStep (Option Bool × Unit))))).run Try.prog w = .ok (if l.all (fun i => f i == g i) then (none, ()) else (some false, ())) w
  | [], _ => by simp
  | i :: l, h => by
    obtain ⟨h1, h2⟩ := h i (by simp)
    have ih := eq_list xs ys f g w l (fun j hj => h j (by simp [hj]))
    have heq : (Op.equalIn 9999 3 (.int .i64 (f i)) (.int .i64 (g i))).run Try.prog w = .ok (f i == g i) w := eq_int 9998 (f i) (g i) w
    simp only [Nat.mul_one] at ih ⊢
    simp only [List.forIn_cons, Sem.run_bind, part_int xs i _ h1, part_int ys i _ h2, Result.andThen_ok, heq, List.all_cons]
    by_cases he : f i = g i
    · have hb : (f i == g i) = true := by simpa using he
      simp only [hb, Bool.not_true, Bool.false_eq_true, if_false, Sem.run_pure, Result.andThen_ok, Bool.true_and]
      exact ih
    · have hb : (f i == g i) = false := by simpa using he
      simp only [hb, Bool.not_false, if_true, Sem.run_pure, Result.andThen_ok, Bool.false_and, Bool.false_eq_true, if_false]
theorem keys_all {s t : Nat} (hs : s < 512) (ht : t < 512) : ([0, 1, 2, 3, 4, 5, 6, 7, 8] : List Nat).all (fun i => keyAt s i == keyAt t i) = decide (s = t) := by
  rw [Bool.eq_iff_iff, List.all_eq_true, decide_eq_true_iff]
  constructor
  · intro h
    refine keyAt_inj hs ht fun j hj => ?_
    have hj' : j = 0 ∨ j = 1 ∨ j = 2 ∨ j = 3 ∨ j = 4 ∨ j = 5 ∨ j = 6 ∨ j = 7 ∨ j = 8 := by omega
    have := h j (by simp; exact hj')
    simpa using this
  · rintro rfl i _; simp

set_option maxHeartbeats 1000000 in
theorem eq_keys {s t : Nat} (hs : s < 512) (ht : t < 512) (w : World) : (Op.equalIn 10000 151 (keyV s) (keyV t)).run Try.prog w = .ok (decide (s = t)) w := by
  have hz := Try.sizeOf3
  have hu := run_underlying Try.underlying151
  have hl := eq_list #[.int .i64 (keyAt s 0), .int .i64 (keyAt s 1), .int .i64 (keyAt s 2), .int .i64 (keyAt s 3), .int .i64 (keyAt s 4), .int .i64 (keyAt s 5), .int .i64 (keyAt s 6), .int .i64 (keyAt s 7), .int .i64 (keyAt s 8)]
    #[.int .i64 (keyAt t 0), .int .i64 (keyAt t 1), .int .i64 (keyAt t 2), .int .i64 (keyAt t 3), .int .i64 (keyAt t 4), .int .i64 (keyAt t 5), .int .i64 (keyAt t 6), .int .i64 (keyAt t 7), .int .i64 (keyAt t 8)] (keyAt s) (keyAt t) w [0, 1, 2, 3, 4, 5, 6, 7, 8] (fun i hi => by
      simp at hi
      rcases hi with rfl | rfl | rfl | rfl | rfl | rfl | rfl | rfl | rfl <;> exact ⟨rfl, rfl⟩)
  rw [keys_all hs ht] at hl
  unfold keyV
  rw [show (10000 : Nat) = 9999 + 1 from rfl]
  unfold Op.equalIn
  simp only [Sem.run_bind, hu, Result.andThen_ok, hz]
  simp only [Std.Legacy.Range.forIn_eq_forIn_range', Std.Legacy.Range.size, List.range']
  refine (congrArg (fun r => Result.andThen r _) hl).trans ?_
  cases decide (s = t) <;> rfl

/-- The test that the program makes. -/
theorem neq_keys {s t : Nat} (hs : s < 512) (ht : t < 512) (w : World) : (binOp .neq 151 (keyV s) (keyV t)).run Try.prog w = .ok (.bool (!decide (s = t))) w := by
  have h := eq_keys hs ht w
  unfold keyV at h ⊢
  rw [run_neq_struct, h]
  rfl
end Go.Proofs.Ytlcfimddcedbcab

namespace Go.Proofs.Ytlcfimddcedbcab
open Go.RowKit Vo

set_option maxHeartbeats 400000 in
theorem hasAll_any (s t : Nat) (w : World) (hs : s < 512) (ht : t < 512) :
    Calls Try.prog 104 #[.int .u64 s, .int .u64 t] w fun e w' => e = .returned (.bool (partB s t)) ∧ w = w' := by
  have hb : bits BinOp.and IntKind.u64 (s : Int) (t : Int) = ((s &&& t : Nat) : Int) := u64_and_nat s t (by omega) (by omega)
  have HB := Lib.hid hb
  clear hb
  go_enter Try.func104, Try.ntmps104
  go_wp2
  go_ret
  refine ⟨ret_bool ?_, rfl⟩
  rw [HB.out]
  unfold partB
  rw [Bool.eq_iff_iff]
  simp
  omega

theorem nodup_len : ∀ (n : Nat) (l : List Nat), l.Nodup → (∀ s ∈ l, s < n) → l.length ≤ n
  | 0, [], _, _ => by simp
  | 0, s :: l, _, h => by have := h s (by simp); omega
  | n+1, l, hd, h => by
    by_cases hn : n ∈ l
    · have h1 := nodup_len n (l.erase n) (hd.erase n) (fun s hs => by
        have h2 := (hd.mem_erase_iff).1 hs
        have := h s h2.2
        have := h2.1
        omega)
      rw [List.length_erase_of_mem hn] at h1
      omega
    · have h1 := nodup_len n l hd (fun s hs => by
        have h2 : s ≠ n := fun e => hn (by rw [← e]; exact hs)
        have := h s hs
        omega)
      omega

/-- How far the parting has come. -/
structure Parted (S M : Nat → Bool) (left : Lit → Bool) : Prop where
  sub : ∀ s, M s = true → S s = true
  all : ∀ s, minB S s = true → M s = true
  done : ∀ s, M s = true → left (klit s) = false → minB S s = true
theorem Parted.start {S : Nat → Bool} {left : Lit → Bool} (hS : ∀ s, S s = true → s < 512) (hl : ∀ s, S s = true → left (klit s) = true) : Parted S S left :=
  ⟨fun _ h => h, fun s h => ((minB_iff hS).1 h).1, fun s h h2 => by rw [hl s h] at h2; cases h2⟩
theorem Parted.stays {S M : Nat → Bool} {left : Lit → Bool} (hS : ∀ s, S s = true → s < 512) (h : Parted S M left) {s : Nat} (hs : M s = true) (hn : ∀ t, M t = true → t ≠ s → s &&& t = t → False) : Parted S M (fun z => left z && !z.sameKey (klit s)) := by
  refine ⟨h.sub, h.all, fun t ht h2 => ?_⟩
  have hs5 := hS s (h.sub s hs)
  have ht5 := hS t (h.sub t ht)
  by_cases e : t = s
  · subst e; exact min_of_left hS h.sub h.all ht hn
  · refine h.done t ht ?_
    rw [same_klit ht5 hs5] at h2
    simpa [e] using h2
theorem Parted.goes {S M : Nat → Bool} {left : Lit → Bool} (hS : ∀ s, S s = true → s < 512) (h : Parted S M left) {s t : Nat} (hs : M s = true) (ht : M t = true) (hne : t ≠ s) (hp : s &&& t = t) : Parted S (fun u => M u && decide (u ≠ s)) (fun z => left z && !z.sameKey (klit s)) := by
  have hs5 := hS s (h.sub s hs)
  refine ⟨fun u hu => h.sub u (by simp at hu; exact hu.1), fun u hu => ?_, fun u hu h2 => ?_⟩
  · by_cases e : u = s
    · subst e; rw [not_min hS (h.sub t ht) hne hp] at hu; cases hu
    · simp [h.all u hu, e]
  · simp at hu
    have hu5 := hS u (h.sub u hu.1)
    refine h.done u hu.1 ?_
    rw [same_klit hu5 hs5] at h2
    simpa [hu.2] using h2

theorem Own.nineV {w : World} {s : Nat} (t : TypeId) : Own (w.alloc (.cells #[.int .i64 (keyAt s 0), .int .i64 (keyAt s 1), .int .i64 (keyAt s 2), .int .i64 (keyAt s 3), .int .i64 (keyAt s 4), .int .i64 (keyAt s 5), .int .i64 (keyAt s 6), .int .i64 (keyAt s 7), .int .i64 (keyAt s 8)] t)) w.heap.size t 9 (fun j => .int .i64 (keyAt s j)) :=
  ⟨_, heap_alloc_new w _, by simp, fun i hi => by
    rcases i with _ | _ | _ | _ | _ | _ | _ | _ | _ | i
    all_goals first | rfl | omega⟩

set_option maxRecDepth 20000 in
set_option maxHeartbeats 8000000 in
theorem leastOf_any (S : List Nat) (base k cap : Nat) (A : Option Addr) (w : World) (hk : k = S.length) (hk5 : k ≤ 1048576) (hin : ∀ s ∈ S, s < 512) (hown : w.ownsRow base 107 1 (.slice A k cap) k (setsV S)) :
    Calls Try.prog 114 #[.slice A k cap] w fun e w' => SetsAt w.heap.size (leastL (fun s => decide (s ∈ S))) w w' e := by
  have hmm := @run_makeMap Try.prog
  have HCELL := Lib.hid (show ∀ W, Below w.heap.size w W → ∀ j, j < k → ∃ g, A = some ⟨g, 0, none⟩ ∧ g < w.heap.size ∧ W.cell? ⟨g, j, none⟩ = some (.int .u64 (S.getD j 0 : Nat)) ∧ S.getD j 0 < 512 from fun W hW j h => by
    obtain ⟨g, cap', hv, hg, _, _⟩ := owns_head hown (by omega)
    obtain ⟨rfl, rfl⟩ : A = some ⟨g, 0, none⟩ ∧ cap = cap' := by simpa using hv
    have hlt : g < w.heap.size := owns_lt hown rfl
    have ho : Own w g 107 k (fun i => .int .u64 (S.getD i 0 : Nat)) := Own.of_own hown (fun i hi => by
      have : i < S.length := by omega
      simp [setsV, List.getD_eq_getElem?_getD, this])
    refine ⟨g, rfl, hlt, (Own.below ho hW hlt).cell h, hin _ ?_⟩
    rw [List.getD_eq_getElem?_getD, List.getElem?_eq_getElem (by omega)]
    exact List.getElem_mem _)
  have HTK := Lib.hid (show ∀ j, j < k → ∀ s, decide (s ∈ S.take (j+1)) = (decide (s = S.getD j 0) || decide (s ∈ S.take j)) from fun j hj s => by
    rw [List.take_add_one, List.getElem?_eq_getElem (by omega)]
    rw [List.getD_eq_getElem?_getD, List.getElem?_eq_getElem (by omega)]
    rw [Bool.eq_iff_iff]
    simp only [List.mem_append, Option.toList, List.mem_singleton, Bool.or_eq_true, decide_eq_true_eq, Option.getD_some]
    exact Or.comm)
  have HALL := Lib.hid (show S.take k = S from by rw [hk, List.take_length])
  obtain ⟨S0, hS0⟩ : ∃ S0 : Nat → Bool, S0 = fun s => decide (s ∈ S) := ⟨_, rfl⟩
  have HS0 := Lib.hid hS0
  have HSI := Lib.hid (show ∀ s, S0 s = true → s < 512 from fun s h => by rw [hS0] at h; exact hin s (by simpa using h))
  rw [← hS0]
  clear hS0 hin hown hk
  go_enter Try.func114, Try.ntmps114
  go_wp2_with fail
  go_loopw [5, 13] (fun _ i wr => ∃ (j : Nat) (D : DU), j ≤ k ∧ i = .int .i64 j ∧ wr.ownsMap Try.prog 151 (plainElem (H := Unit) Try.prog 107) w.heap.size j D ∧ MapIs D (fun s => decide (s ∈ S.take j)) ∧ Below w.heap.size w wr) (fun _ i _ => k - (intOf i).toNat)
  case atStart => exact ⟨0, .map [], Nat.zero_le _, rfl, World.ownsMap_made _ _ _ _, MapIs.nil.congr (fun s => by simp), below1 _ _⟩
  case round =>
    obtain ⟨j, D, hj, rfl, hom, hmi, hb⟩ := hrel
    have HMI := Lib.hid hmi
    have HOM := Lib.hid hom
    have hsz := hb.size
    clear hmi hom
    by_cases hlt : j < k
    · obtain ⟨g, rfl, hg, hcell, hs5⟩ := HCELL.out _ hb j hlt
      have HT := Lib.hid (HTK.out j hlt)
      have hHM := HOM.out.lt
      generalize S.getD j 0 = s at *
      have hkey := key_reads s
      unfold keyV at hkey
      have HKEY := Lib.hid hkey
      clear hkey
      go_wp2_with fail
      refine (key_any s _ hs5).mono ?_
      rintro e w1 ⟨rfl, hg1⟩
      unfold keyV
      have hom1 := Lib.hid (ownsMap_below HOM.out hg1.1)
      have hb1 := bfrom hb hg1.1
      have HB1 := Lib.hid hb1
      clear hb1 hg1
      go_wp2_with (first | (at_mapUpdate; refine wpList_mapUpdate_own _ rfl _ _ _ 149 rfl 151 107 keyLaw Try.underlying149 _ w.heap.size j _ rfl hom1.out (by unfold maxLen; omega) _ _ _ rfl rfl HKEY.out _ [] (plainElem_int Try.underlying107 (WalkArith.wf_u64 (by omega))) ?_; intro w2 hom2 hgr2) | go_in)
      have HOM2 := Lib.hid hom2
      have hb2 : Below w.heap.size w w2 := HB1.out.grown hgr2 HB1.out.size (fun i hi => by injection hi with hi; omega)
      clear hom2
      go_roundw
      case rel => exact ⟨j + 1, _, by omega, by go_num, HOM2.out, (HMI.out.put hs5).congr (fun t => by rw [HT.out]), hb2⟩
      case measure => simp [intOf]; omega
    · obtain rfl : k = j := by omega
      have HMS := Lib.hid (show MapIs D S0 from HMI.out.congr (fun s => by rw [HALL.out, HS0.out]))
      clear HMI
      obtain ⟨b, hbe⟩ : ∃ b, b = w.heap.size := ⟨_, rfl⟩
      rw [← hbe] at HOM
      have HBE := Lib.hid hbe
      have HB := Lib.hid hb
      have hlb := HOM.out.lt
      rw [← hbe]
      go_wp2_with (first | (at_range; refine wpList_range_own _ rfl _ 149 rfl 151 107 keyLaw Try.underlying149 _ b k D rfl HOM.out ?_; intro w0 hrg0 hg0 hs0) | go_in)
      go_frame
      obtain ⟨r, hre⟩ : ∃ r, r = wr.heap.size := ⟨_, rfl⟩
      rw [← hre] at hrg0 ⊢
      have hb0 : Below b w w0 := by rw [HBE.out]; exact HB.out.grown hg0 HB.out.size (fun i hi => by cases hi)
      have hbr : b ≤ r := by rw [HBE.out, hre]; exact HB.out.size
      have HRG0 := Lib.hid hrg0
      have HB0 := Lib.hid hb0
      have hsw : b ≤ w0.heap.size := by rw [HBE.out]; rw [HBE.out] at hb0; exact hb0.size
      have HBW := Lib.hid (show w.heap.size ≤ b from by rw [HBE.out]; exact Nat.le_refl _)
      clear hrg0 hb0 hg0 hs0 HOM hsz hbe hre hb hlb
      go_loopw [7] (fun _ wq => ∃ (left : Lit → Bool) (cnt : Nat) (D1 : DU) (M : Nat → Bool), wq.ranges Try.prog 151 (plainElem (H := Unit) Try.prog 107) b r k D1 left cnt ∧ MapIs D1 M ∧ Parted S0 M left ∧ Below b w wq ∧ b ≤ wq.heap.size) (fun _ wq => wq.rangeLeft b r)
      case atStart => exact ⟨_, _, D, S0, HRG0.out, HMS.out, Parted.start HSI.out (fun s h => by rw [HMS.out.has s (HSI.out s h)]; exact h), HB0.out, hsw⟩
      case round =>
        obtain ⟨left, cnt, D1, M, hrg, hmi, hpa, hbq, hbs⟩ := hrel
        have HRG := Lib.hid hrg
        have HMI := Lib.hid hmi
        have HPA := Lib.hid hpa
        have HBQ := Lib.hid hbq
        clear hrg hmi hpa hbq HRG0 HB0 hsw
        go_wp2_with (first | (at_next; refine wpList_next_sets _ rfl _ rfl b r k _ M _ _ rfl HRG.out HMI.out ?_ ?_) | go_in)
        · intro hc0 hl0
          have HFM := Lib.hid (show ∀ s, M s = true ↔ minB S0 s = true from fun s => ⟨fun h => HPA.out.done s h (hl0 s (HMI.out.dom s h)), HPA.out.all s⟩)
          clear hl0 hc0
          have hBx := below1 wr (.cells #[.map (some b)] 149)
          have hbx := Box1.new 149 wr (.map (some b))
          have hst := mapValues_stops wr.heap.size b k D1 M HMI.out (wr.alloc (.cells #[.map (some b)] 149)) (by simp) hbx.cell (HRG.out.alloc _).owns
          have HF := Lib.hid (collect_any 157 #[.pointer (some ⟨wr.heap.size, 0, none⟩)] (enters_of Try.func157 (by kernel_rfl) rfl) KeepsWalks _ (fun _ => True) k hk5 _ walksK_t (fun W l o o' _ h2 _ h4 => KeepsWalks.putObj _ h2 h4) (fun _ _ h _ => keeps_walks h) hst)
          clear hst hbx
          go_wp2_with (go_at_call 139; refine (mapValues_any b _).mono ?_; rintro e w1 ⟨rfl, rfl⟩)
          refine HF.out.mono ?_
          rintro e w2 ⟨v, ss, rfl, ⟨hnd, hmem⟩, hown, _, hb2⟩
          rw [enc_map] at hown
          have hlen : (ss.map (·.1)).length ≤ 512 := nodup_len 512 _ hnd (fun s hs => by obtain ⟨x, _, rfl⟩ := List.mem_map.1 hs; exact x.2)
          have HM2 := Lib.hid hmem
          have HND := Lib.hid hnd
          have HI2 := Lib.hid (show ∀ s ∈ ss.map (·.1), s < 512 from fun s hs => by obtain ⟨x, _, rfl⟩ := List.mem_map.1 hs; exact x.2)
          obtain ⟨T, hT⟩ : ∃ T, T = ss.map (·.1) := ⟨_, rfl⟩
          rw [← hT] at hown hlen HM2 HND HI2
          obtain ⟨m, hm⟩ : ∃ m, m = T.length := ⟨_, rfl⟩
          rw [show ss.length = m from by rw [hm, hT]; simp] at hown
          rw [← hm] at hlen
          obtain ⟨A2, cap2, rfl⟩ : ∃ A cap, v = .slice A m cap := by
            rcases hown.2 with ⟨rfl, h0⟩ | ⟨g', cap, _, rfl, _⟩
            · exact ⟨none, 0, by rw [h0]⟩
            · exact ⟨_, cap, rfl⟩
          have HO2 := Lib.hid hown
          have HML := Lib.hid hm
          clear hown hm hT hnd hmem
          go_wp2_with fail
          refine (inOrder_any T _ m cap2 A2 _ HML.out hlen HI2.out HO2.out).mono ?_
          rintro e w3 ⟨A3, cap3, ss3, S3, rfl, hss3, hp3, hs3, hown3, hb3⟩
          have HO3 := Lib.hid hown3
          have HEQ := Lib.hid (show S3 = leastL S0 from leastL_unique HSI.out (hs3 (by rw [hss3]; exact HND.out)) (fun s => by rw [hp3.mem_iff, hss3, HM2.out s, HFM.out s]))
          have hbb := bfrom hBx hb2
          have HBB := Lib.hid (bfrom hbb hb3)
          have hz3 := hbb.size
          clear hown3 hp3 hs3 hss3
          go_wp2
          go_ret
          have hBF : Below w.heap.size w wr := by rw [← HBE.out]; exact HBQ.out
          have hsq : w.heap.size ≤ wr.heap.size := hBF.size
          refine ⟨A3, cap3, by rw [← HEQ.out]; rfl, ?_, bfrom hBF HBB.out⟩
          rw [← HEQ.out]
          exact owns_less HO3.out (by omega)
        · intro s w2 cnt2 hs hMs hls hrg2 hlt2 hg2 hs2 hen
          have HR2 := Lib.hid hrg2
          have hkey := key_reads s
          unfold keyV at hen hkey ⊢
          have HKEY := Lib.hid hkey
          have hb2 : Below b w w2 := HBQ.out.grown hg2 hbs (fun i hi => by injection hi with hi; omega)
          have hr2 : r < w2.heap.size := by rw [hs2]; exact HRG.out.lt
          have HB2 := Lib.hid hb2
          have HLT2 := Lib.hid hlt2
          have HMS2 := Lib.hid hMs
          have HGK := Lib.hid (Own.nineV (w := w2) (s := s) 151)
          have hz2 := hg2.size
          clear hrg2 hkey hb2 hg2 hlt2 hls hMs hs2
          go_wp2_with (first | (at_range; refine wpList_range_own _ rfl _ 149 rfl 151 107 keyLaw Try.underlying149 _ b k D1 rfl (HR2.out.alloc _).owns ?_; intro w3 hrgI hgI hsI) | go_in)
          go_frame
          have hrgO : w3.ranges Try.prog 151 (plainElem (H := Unit) Try.prog 107) b r k D1 (fun z => left z && !z.sameKey (klit s)) cnt2 := (HR2.out.alloc _).kept hgI (by simp) (by simp)
          have hgk : Own w3 w2.heap.size 151 9 (fun j => .int .i64 (keyAt s j)) := HGK.out.grown hgI (by simp)
          have hb3 : Below b w w3 := (HB2.out.alloc (by omega) (.cells #[.int .i64 (keyAt s 0), .int .i64 (keyAt s 1), .int .i64 (keyAt s 2), .int .i64 (keyAt s 3), .int .i64 (keyAt s 4), .int .i64 (keyAt s 5), .int .i64 (keyAt s 6), .int .i64 (keyAt s 7), .int .i64 (keyAt s 8)] 151)).grown hgI (by simp; omega) (fun i hi => by cases hi)
          simp only [World.size_alloc] at hrgI hsI ⊢
          obtain ⟨gk, hgke⟩ : ∃ gk, gk = w2.heap.size := ⟨_, rfl⟩
          rw [← hgke] at hrgI hsI hgk hr2 ⊢
          have HRI := Lib.hid hrgI
          have HRO := Lib.hid hrgO
          have HG3 := Lib.hid hgk
          have HB3 := Lib.hid hb3
          have hs3 : b ≤ w3.heap.size := by rw [hsI]; omega
          clear hrgI hrgO hgk hb3 hgI hgke HGK HB2 HR2 hen
          go_loopw [9] (fun _ wi => ∃ (leftI : Lit → Bool) (cntI : Nat), wi.ranges Try.prog 151 (plainElem (H := Unit) Try.prog 107) b (gk + 1) k D1 leftI cntI ∧ wi.ranges Try.prog 151 (plainElem (H := Unit) Try.prog 107) b r k D1 (fun z => left z && !z.sameKey (klit s)) cnt2 ∧ Own wi gk 151 9 (fun j => .int .i64 (keyAt s j)) ∧ (∀ t, M t = true → leftI (klit t) = false → t ≠ s → s &&& t = t → False) ∧ Below b w wi ∧ b ≤ wi.heap.size) (fun _ wi => wi.rangeLeft b (gk + 1))
          case atStart => exact ⟨_, _, HRI.out, HRO.out, HG3.out, fun t ht h => (by rw [HMI.out.has t (HMI.out.dom t ht), ht] at h; cases h), HB3.out, hs3⟩
          case round =>
            obtain ⟨leftI, cntI, hrI, hrO, hgk, hseen, hbi, hbsi⟩ := hrel
            have HRI4 := Lib.hid hrI
            have HRO4 := Lib.hid hrO
            have HG4 := Lib.hid hgk
            have HSEEN := Lib.hid hseen
            have HBI := Lib.hid hbi
            have hgks := hgk.lt
            clear hrI hrO hgk hseen hbi HRI HRO HG3 HB3
            go_wp2_with (first | (at_next; refine wpList_next_sets _ rfl _ rfl b (gk + 1) k _ M _ _ rfl HRI4.out HMI.out ?_ ?_) | go_in)
            · intro hc0 hl0
              have HPN := Lib.hid (HPA.out.stays HSI.out HMS2.out (fun t ht => HSEEN.out t ht (hl0 t (HMI.out.dom t ht))))
              clear hl0 hc0
              go_wp2
              go_roundw
              case rel => exact ⟨_, cnt2, D1, M, HRO4.out, HMI.out, HPN.out, HBI.out, hbsi⟩
              case measure => rw [HRO4.out.left_eq, HRG.out.left_eq]; exact HLT2.out
            · intro t w4 cnt4 ht hMt hlt hrI4 hltI hg4 hs4 hen4
              have hz4 := hg4.size
              clear hs4
              unfold keyV at hen4 ⊢
              have HRO5 := Lib.hid (show (w4.alloc (.cells #[.int .i64 (keyAt t 0), .int .i64 (keyAt t 1), .int .i64 (keyAt t 2), .int .i64 (keyAt t 3), .int .i64 (keyAt t 4), .int .i64 (keyAt t 5), .int .i64 (keyAt t 6), .int .i64 (keyAt t 7), .int .i64 (keyAt t 8)] 151)).ranges Try.prog 151 (plainElem (H := Unit) Try.prog 107) b r k D1 (fun z => left z && !z.sameKey (klit s)) cnt2 from (HRO4.out.kept hg4 (by simp; omega) (by simp; omega)).alloc _)
              have HRI5 := Lib.hid (show (w4.alloc (.cells #[.int .i64 (keyAt t 0), .int .i64 (keyAt t 1), .int .i64 (keyAt t 2), .int .i64 (keyAt t 3), .int .i64 (keyAt t 4), .int .i64 (keyAt t 5), .int .i64 (keyAt t 6), .int .i64 (keyAt t 7), .int .i64 (keyAt t 8)] 151)).ranges Try.prog 151 (plainElem (H := Unit) Try.prog 107) b (gk + 1) k D1 (fun z => leftI z && !z.sameKey (klit t)) cnt4 from hrI4.alloc _)
              have HGK5 := Lib.hid (show Own (w4.alloc (.cells #[.int .i64 (keyAt t 0), .int .i64 (keyAt t 1), .int .i64 (keyAt t 2), .int .i64 (keyAt t 3), .int .i64 (keyAt t 4), .int .i64 (keyAt t 5), .int .i64 (keyAt t 6), .int .i64 (keyAt t 7), .int .i64 (keyAt t 8)] 151)) gk 151 9 (fun j => .int .i64 (keyAt s j)) from (HG4.out.grown hg4 (by simp)).alloc _)
              have HBI5 := Lib.hid (show Below b w (w4.alloc (.cells #[.int .i64 (keyAt t 0), .int .i64 (keyAt t 1), .int .i64 (keyAt t 2), .int .i64 (keyAt t 3), .int .i64 (keyAt t 4), .int .i64 (keyAt t 5), .int .i64 (keyAt t 6), .int .i64 (keyAt t 7), .int .i64 (keyAt t 8)] 151)) from (HBI.out.grown hg4 hbsi (fun i hi => by injection hi with hi; omega)).alloc (by omega) _)
              have hsz5 : b ≤ (w4.alloc (.cells #[.int .i64 (keyAt t 0), .int .i64 (keyAt t 1), .int .i64 (keyAt t 2), .int .i64 (keyAt t 3), .int .i64 (keyAt t 4), .int .i64 (keyAt t 5), .int .i64 (keyAt t 6), .int .i64 (keyAt t 7), .int .i64 (keyAt t 8)] 151)).heap.size := by simp; omega
              have HMT := Lib.hid hMt
              have HLI := Lib.hid hltI
              have HNEQ := Lib.hid (fun W => neq_keys ht hs W)
              have hgd : Try.prog.eqGuardType Try.prog.depth 151 = false := by kernel_rfl
              clear hrI4 hg4 hMt hltI hlt
              have y0 := HGK5.out.cell (i := 0) (by omega)
              have y1 := HGK5.out.cell (i := 1) (by omega)
              have y2 := HGK5.out.cell (i := 2) (by omega)
              have y3 := HGK5.out.cell (i := 3) (by omega)
              have y4 := HGK5.out.cell (i := 4) (by omega)
              have y5 := HGK5.out.cell (i := 5) (by omega)
              have y6 := HGK5.out.cell (i := 6) (by omega)
              have y7 := HGK5.out.cell (i := 7) (by omega)
              have y8 := HGK5.out.cell (i := 8) (by omega)
              by_cases e : t = s
              · have hneq := HNEQ.out
                rw [decide_eq_true e] at hneq
                unfold keyV at hneq
                simp only [Bool.not_true] at hneq
                have HSN := Lib.hid (show ∀ u, M u = true → (fun z : Lit => leftI z && !z.sameKey (klit t)) (klit u) = false → u ≠ s → s &&& u = u → False from fun u hu h hne hp => by
                  have hu5 := HMI.out.dom u hu
                  simp only [same_klit hu5 ht] at h
                  have hne2 : u ≠ t := by rw [e]; exact hne
                  exact HSEEN.out u hu (by simpa [hne2] using h) hne hp)
                clear e
                go_wp2
                go_roundw
                case rel => exact ⟨_, cnt4, HRI5.out, HRO5.out, HGK5.out, HSN.out, HBI5.out, hsz5⟩
                case measure => rw [HRI5.out.left_eq, HRI4.out.left_eq]; exact HLI.out
              · have hneq := HNEQ.out
                rw [decide_eq_false e] at hneq
                unfold keyV at hneq
                simp only [Bool.not_false] at hneq
                have HE := Lib.hid e
                clear e
                cases hpb : partB s t
                · have HPB := Lib.hid hpb
                  clear hpb
                  have HSN := Lib.hid (show ∀ u, M u = true → (fun z : Lit => leftI z && !z.sameKey (klit t)) (klit u) = false → u ≠ s → s &&& u = u → False from fun u hu h hne hp => by
                    have hu5 := HMI.out.dom u hu
                    simp only [same_klit hu5 ht] at h
                    by_cases e2 : u = t
                    · subst e2; rw [partB_iff.2 hp] at HPB; cases HPB.out
                    · exact HSEEN.out u hu (by simpa [e2] using h) hne hp)
                  go_wp2_with (go_at_call 104; refine (hasAll_any s t _ hs ht).mono ?_; rintro e w' ⟨rfl, rfl⟩; rw [HPB.out])
                  go_roundw
                  case rel => exact ⟨_, cnt4, HRI5.out, HRO5.out, HGK5.out, HSN.out, HBI5.out, hsz5⟩
                  case measure => rw [HRI5.out.left_eq, HRI4.out.left_eq]; exact HLI.out
                · have HPB := Lib.hid hpb
                  have HPN := Lib.hid (HPA.out.goes HSI.out HMS2.out HMT.out HE.out (partB_iff.1 hpb))
                  clear hpb
                  go_wp2_with (first
                    | (go_at_call 104; refine (hasAll_any s t _ hs ht).mono ?_; rintro e w' ⟨rfl, rfl⟩; rw [HPB.out])
                    | (at_delete; refine wpList_delete_ranges _ rfl _ _ 149 151 rfl 107 keyLaw Try.underlying149 _ b r k D1 _ cnt2 rfl HRO5.out _ (klit s) rfl HKEY.out ?_; intro w6 cnt6 hrg6 hle6 hturn6; go_frame))
                  rw [Go.Maps.strike_twice] at hrg6
                  have HRG6 := Lib.hid hrg6
                  have HLE := Lib.hid hle6
                  have hb6 : Below b w w6 := HBI5.out.grown hturn6.grown hsz5 (fun i hi => by injection hi with hi; omega)
                  have hs6 : b ≤ w6.heap.size := Nat.le_trans hsz5 hturn6.grown.size
                  clear hrg6 hle6 hturn6
                  go_roundw
                  case rel => exact ⟨_, cnt6, _, _, HRG6.out, HMI.out.del hs, HPN.out, hb6, hs6⟩
                  case measure => rw [HRG6.out.left_eq, HRG.out.left_eq]; have := HLE.out; have := HLT2.out; omega
end Go.Proofs.Ytlcfimddcedbcab
