/- Contracts of the library's iterator over the values of a map of sets. -/
import Derived.Test.YtipplbcjdcdapabGreatE7
import Derived.Sort.MapsRangeIn
import Derived.RegionIn
import Derived.Test.YtipplbcjdcdapabGreatE4
import Derived.Test.YtipplbcjdcdapabGreatR3
import Derived.Maps.RangeWalk
import Derived.Maps.OwnOps
import Derived.Maps.OwnSet
import Derived.DeepKeys4
namespace Go.Proofs.YtipplbcjdcdapabGreat
open Go.RowKit Vo

theorem mapLaid : laidOutB Tryz.prog = true := by kernel_rfl
theorem keyLaw : Go.Maps.Keyed Tryz.prog 80 :=
  Go.Maps.Keyed.of_law (deep_law_laid mapLaid (m := 3) (by omega) (of_decide_eq_true (by kernel_rfl)) (by kernel_rfl) (by rw [Tryz.underlying80]))

theorem wf_small {a : Int} (h0 : 0 ≤ a) (h1 : a ≤ 9) : (Lit.int .i64 a).wf = true := WalkArith.wf_i64 (by omega)
theorem keyLits9 (d : Nat) (a0 a1 a2 a3 a4 a5 a6 a7 a8 : Int) (h0 : (Lit.int .i64 a0).wf = true) (h1 : (Lit.int .i64 a1).wf = true) (h2 : (Lit.int .i64 a2).wf = true) (h3 : (Lit.int .i64 a3).wf = true) (h4 : (Lit.int .i64 a4).wf = true) (h5 : (Lit.int .i64 a5).wf = true) (h6 : (Lit.int .i64 a6).wf = true) (h7 : (Lit.int .i64 a7).wf = true) (h8 : (Lit.int .i64 a8).wf = true) :
    Tryz.prog.keyLits (d + 2) 80 [.int .i64 a0, .int .i64 a1, .int .i64 a2, .int .i64 a3, .int .i64 a4, .int .i64 a5, .int .i64 a6, .int .i64 a7, .int .i64 a8] = some [.int .i64 a0, .int .i64 a1, .int .i64 a2, .int .i64 a3, .int .i64 a4, .int .i64 a5, .int .i64 a6, .int .i64 a7, .int .i64 a8] := by
  have hc : Tryz.prog.cellsOf 80 = 9 := by kernel_rfl
  have hi : Tryz.prog.cellsOf 3 = 1 := by kernel_rfl
  have e : ∀ a : Int, (Lit.int .i64 a).wf = true → Tryz.prog.keyLits (d + 1) 3 [.int .i64 a] = some [.int .i64 a] := fun a h => by
    simp only [Program.keyLits, Tryz.underlying3]
    rw [if_pos ⟨trivial, h⟩]
  unfold Program.keyLits
  rw [Tryz.underlying80]
  simp only [hc, hi, List.length_cons, List.length_nil, Nat.reduceAdd, if_true]
  rw [show List.range 9 = [0, 1, 2, 3, 4, 5, 6, 7, 8] from rfl]
  simp [e, h0, h1, h2, h3, h4, h5, h6, h7, h8]

/-- What the key of a set reads as. -/
def klit (s : Nat) : Lit := .string (keyBytes [.int .i64 (keyAt s 0), .int .i64 (keyAt s 1), .int .i64 (keyAt s 2), .int .i64 (keyAt s 3), .int .i64 (keyAt s 4), .int .i64 (keyAt s 5), .int .i64 (keyAt s 6), .int .i64 (keyAt s 7), .int .i64 (keyAt s 8)])
theorem keyV_cells (s : Nat) : (keyV s).cells.toList = [.int .i64 (keyAt s 0), .int .i64 (keyAt s 1), .int .i64 (keyAt s 2), .int .i64 (keyAt s 3), .int .i64 (keyAt s 4), .int .i64 (keyAt s 5), .int .i64 (keyAt s 6), .int .i64 (keyAt s 7), .int .i64 (keyAt s 8)] := rfl
theorem keyV_formed (s : Nat) : (keyV s).formed Tryz.prog 80 = true := by
  have hc : Tryz.prog.cellsOf 80 = 9 := by kernel_rfl
  unfold keyV Value.formed
  rw [Tryz.underlying80]
  simp [hc]
theorem key_reads (s : Nat) : keyOf Tryz.prog 80 (keyV s) = some (klit s) := by
  have hw : ∀ j, (Lit.int .i64 (keyAt s j)).wf = true := fun j => wf_small (keyAt_bd s j).1 (keyAt_bd s j).2
  have hk : Tryz.prog.keyType 80 = true := by kernel_rfl
  have hf := keyV_formed s
  obtain ⟨d, hd⟩ : ∃ d, Tryz.prog.types.size + 1 = d + 2 := ⟨Tryz.prog.types.size - 1, by
    have : 0 < Tryz.prog.types.size := of_decide_eq_true (by kernel_rfl)
    omega⟩
  have h9 := keyLits9 d _ _ _ _ _ _ _ _ _ (hw 0) (hw 1) (hw 2) (hw 3) (hw 4) (hw 5) (hw 6) (hw 7) (hw 8)
  unfold keyOf
  rw [Tryz.underlying80]
  show (if (Tryz.prog.keyType 80 && (keyV s).formed Tryz.prog 80) = true then _ else none) = _
  rw [hk, hf, hd, keyV_cells, h9]
  rfl
theorem klit_key (s : Nat) : WideAt.IsKeyLit (klit s) := keyLaw.key (key_reads s)
theorem keyV_inj {s t : Nat} (hs : s < 512) (ht : t < 512) (h : keyV s = keyV t) : s = t := by
  have e := congrArg (fun v : Value => v.cells.toList) h
  simp only [keyV_cells] at e
  simp only [List.cons.injEq, Value.int.injEq, true_and, and_true] at e
  obtain ⟨h0, h1, h2, h3, h4, h5, h6, h7, h8⟩ := e
  refine keyAt_inj hs ht fun j hj => ?_
  have hj' : j = 0 ∨ j = 1 ∨ j = 2 ∨ j = 3 ∨ j = 4 ∨ j = 5 ∨ j = 6 ∨ j = 7 ∨ j = 8 := by omega
  rcases hj' with rfl | rfl | rfl | rfl | rfl | rfl | rfl | rfl | rfl
  · exact h0
  · exact h1
  · exact h2
  · exact h3
  · exact h4
  · exact h5
  · exact h6
  · exact h7
  · exact h8
theorem klit_inj {s t : Nat} (hs : s < 512) (ht : t < 512) (h : klit s = klit t) : s = t :=
  keyV_inj hs ht (keyLaw.inj (key_reads s) (by rw [h]; exact key_reads t))
theorem same_klit {s t : Nat} (hs : s < 512) (ht : t < 512) : (klit s).sameKey (klit t) = decide (s = t) := by
  by_cases e : s = t
  · subst e; rw [WideAt.sameKey_self (klit_key s)]; simp
  · rw [Go.Maps.sameKey_ne (fun h => e (klit_inj hs ht h))]; simp [e]

abbrev DU : Type := DataW Unit
/-- The map has just the sets of M, each at its key. -/
structure MapIs (D : DU) (M : Nat → Bool) : Prop where
  map : Go.Maps.IsMap D
  dom : ∀ s, M s = true → s < 512
  has : ∀ s, s < 512 → Go.Maps.has D (klit s) = M s
  only : ∀ kl, Go.Maps.has D kl = true → ∃ s, s < 512 ∧ kl = klit s
  at_ : ∀ s, M s = true → ∀ zd, D.atKey (klit s) zd = .lit (.int .u64 (s : Int))
theorem MapIs.nil : MapIs (.map []) (fun _ => false) :=
  ⟨Go.Maps.isMap_empty, fun _ h => by simp at h, fun _ _ => rfl, fun _ h => by simp [Go.Maps.has] at h, fun _ h => by simp at h⟩
theorem MapIs.put {D : DU} {M : Nat → Bool} (h : MapIs D M) {s : Nat} (hs : s < 512) : MapIs (D.put (klit s) (.lit (.int .u64 (s : Int)))) (fun t => decide (t = s) || M t) := by
  refine ⟨h.map.put _ _, fun t ht => ?_, fun t ht => ?_, fun kl hkl => ?_, fun t ht zd => ?_⟩
  · simp at ht; rcases ht with rfl | ht
    · exact hs
    · exact h.dom t ht
  · by_cases e : t = s
    · subst e; rw [Go.Maps.has_put_same h.map (klit_key t)]; simp
    · rw [Go.Maps.has_put_other (fun h' => e (klit_inj ht hs h')), h.has t ht]; simp [e]
  · by_cases e : kl = klit s
    · exact ⟨s, hs, e⟩
    · rw [Go.Maps.has_put_other e] at hkl; exact h.only kl hkl
  · by_cases e : t = s
    · subst e; rw [Go.Maps.atKey_put_same h.map (klit_key t)]
    · simp [e] at ht
      rw [Go.Maps.atKey_put_other (fun h' => e (klit_inj (h.dom t ht) hs h'))]
      exact h.at_ t ht zd
theorem MapIs.del {D : DU} {M : Nat → Bool} (h : MapIs D M) {s : Nat} (hs : s < 512) : MapIs (D.del (klit s)) (fun t => M t && decide (t ≠ s)) := by
  refine ⟨h.map.del _, fun t ht => ?_, fun t ht => ?_, fun kl hkl => ?_, fun t ht zd => ?_⟩
  · simp at ht; exact h.dom t ht.1
  · by_cases e : t = s
    · subst e; rw [Go.Maps.has_del_same]; simp
    · rw [Go.Maps.has_del_other (fun h' => e (klit_inj ht hs h')), h.has t ht]; simp [e]
  · by_cases e : kl = klit s
    · rw [e, Go.Maps.has_del_same] at hkl; cases hkl
    · rw [Go.Maps.has_del_other e] at hkl; exact h.only kl hkl
  · simp at ht
    rw [Go.Maps.atKey_del_other (fun h' => ht.2 (klit_inj (h.dom t ht.1) hs h'))]
    exact h.at_ t ht.1 zd
theorem MapIs.congr {D : DU} {M M' : Nat → Bool} (h : MapIs D M) (e : ∀ s, M s = M' s) : MapIs D M' := by
  have : M = M' := funext e
  rw [← this]; exact h

/-- The sets of the map that are still to come. -/
def toCome (left : Lit → Bool) (s : Nat) : Bool := left (klit s)

section
variable (w : World) {ops : Array Oper} {rest : List Oper} {o : Oper} {a : Act} {Q : Exit → Act → World → Prop}
/-- The step of a range over such a map: nothing is left, or some set that is to come comes. -/
theorem wpList_next_sets (hg : o.guard = none) (it : Operand) (hop : o.op = Op.next it false) (b r n : Nat) (D : DU) (M : Nat → Bool) (left : Lit → Bool) (cnt : Nat)
    (hit : a.eval it = .pointer (some ⟨r, 0, none⟩)) (h : w.ranges Tryz.prog 80 (plainElem (H := Unit) Tryz.prog 66) b r n D left cnt) (hM : MapIs D M)
    (hDone : cnt = 0 → (∀ s, s < 512 → left (klit s) = false) → wpList Tryz.prog ops Q rest (a.put o.dst (.tuple #[.bool false])) w)
    (hMore : ∀ (s : Nat) (w' : World) (cnt' : Nat), s < 512 → M s = true → left (klit s) = true → w'.ranges Tryz.prog 80 (plainElem (H := Unit) Tryz.prog 66) b r n D (fun z => left z && !z.sameKey (klit s)) cnt' → cnt' < cnt →
      w.grownBy w' (some r) → w'.heap.size = w.heap.size → (Instr.entry (.pointer (some ⟨r, 0, none⟩))).run Tryz.prog w' = .ok (.tuple #[keyV s, .int .u64 (s : Int)]) w' → wpList Tryz.prog ops Q rest (a.put o.dst (.tuple #[.bool true, keyV s, .int .u64 (s : Int)])) w') :
    wpList Tryz.prog ops Q (o :: rest) a w := by
  refine wpList_plain hg fun K' hK' => ?_
  unfold Oper.wp
  rcases h.next keyLaw o.type with ⟨h0, hl, hrun⟩ | ⟨key, v, kl, y, w', cnt', hkey, hlk, hv, hat, hrun, hrg, hlt, hgr, hsz, hen⟩
  · simp [execOp, hop, hit, hrun, Result.andThen]
    exact hK' _ _ (hDone h0 (fun s _ => hl _))
  · obtain ⟨s, hs, rfl⟩ := hM.only kl (Go.Maps.has_true_of_atKey hat)
    have hMs : M s = true := by rw [← hM.has s hs]; exact Go.Maps.has_true_of_atKey hat
    obtain rfl : key = keyV s := keyLaw.inj hkey (key_reads s)
    obtain ⟨c, rfl, rfl, _⟩ := Go.plainElem_int_inv (q := .u64) Tryz.underlying66 hv
    have hc : c = (s : Int) := by
      have h1 := hat (.lit (.bool false))
      rw [hM.at_ s hMs] at h1
      simpa using h1.symm
    subst hc
    simp [execOp, hop, hit, hrun, Result.andThen]
    exact hK' _ _ (hMore s w' cnt' hs hMs hlk hrg hlt hgr hsz hen)
end
end Go.Proofs.YtipplbcjdcdapabGreat

namespace Go.Proofs.YtipplbcjdcdapabGreat
open Go.RowKit Vo
attribute [local go_sem] Oper.semAt_some

theorem wpListIn_next_sets {F : Fence} {m : Nat} (w : World) {ops : Array Oper} {rest : List Oper} {o : Oper} {a : Act} {Q : Exit → Act → World → Prop} (hg : o.guard = none) (it : Operand) (hop : o.op = Op.next it false) (b r n : Nat) (D : DU) (M : Nat → Bool) (left : Lit → Bool) (cnt : Nat)
    (hit : a.eval it = .pointer (some ⟨r, 0, none⟩)) (h : w.ranges Tryz.prog 80 (plainElem (H := Unit) Tryz.prog 66) b r n D left cnt) (hM : MapIs D M)
    (hDone : cnt = 0 → (∀ s, s < 512 → left (klit s) = false) → wpListIn F m Tryz.prog ops Q rest (a.put o.dst (.tuple #[.bool false])) w)
    (hMore : ∀ (s : Nat) (w' : World) (cnt' : Nat), s < 512 → M s = true → left (klit s) = true → w'.ranges Tryz.prog 80 (plainElem (H := Unit) Tryz.prog 66) b r n D (fun z => left z && !z.sameKey (klit s)) cnt' → cnt' < cnt →
      w.grownBy w' (some r) → w'.heap.size = w.heap.size → (Instr.entry (.pointer (some ⟨r, 0, none⟩))).run Tryz.prog w' = .ok (.tuple #[keyV s, .int .u64 (s : Int)]) w' → wpListIn F m Tryz.prog ops Q rest (a.put o.dst (.tuple #[.bool true, keyV s, .int .u64 (s : Int)])) w') :
    wpListIn F m Tryz.prog ops Q (o :: rest) a w := by
  refine wpListIn_plain hg fun K' hK' => ?_
  unfold Oper.wpIn
  refine ⟨by simp [Oper.about, hop], ?_⟩
  rw [Oper.semAt_plain F _ _ (by rw [hop]; intro c hc'; cases hc')]
  rcases h.next keyLaw o.type with ⟨h0, hl, hrun⟩ | ⟨key, v, kl, y, w', cnt', hkey, hlk, hv, hat, hrun, hrg, hlt, hgr, hsz, hen⟩
  · simp [execOp, hop, hit, hrun, Result.andThen]
    exact hK' _ _ (hDone h0 (fun s _ => hl _))
  · obtain ⟨s, hs, rfl⟩ := hM.only kl (Go.Maps.has_true_of_atKey hat)
    have hMs : M s = true := by rw [← hM.has s hs]; exact Go.Maps.has_true_of_atKey hat
    obtain rfl : key = keyV s := keyLaw.inj hkey (key_reads s)
    obtain ⟨c, rfl, rfl, _⟩ := Go.plainElem_int_inv (q := .u64) Tryz.underlying66 hv
    have hc : c = (s : Int) := by
      have h1 := hat (.lit (.bool false))
      rw [hM.at_ s hMs] at h1
      simpa using h1.symm
    subst hc
    simp [execOp, hop, hit, hrun, Result.andThen]
    exact hK' _ _ (hMore s w' cnt' hs hMs hlk hrg hlt hgr hsz hen)

theorem map_size_le {w : World} {b n : Nat} {D : DU} (h : w.ownsMap Tryz.prog 80 (plainElem (H := Unit) Tryz.prog 66) b n D) : Go.Maps.size D ≤ n := by
  obtain ⟨es, clock, _, F, hs, rfl⟩ := h
  show (List.foldr DataW.insert [] _).length ≤ n
  rw [(Go.WideShapes.sorted_perm _).length_eq]; simpa using hs

/-- What has come: each once, just those that are no longer to come. -/
structure Came (M : Nat → Bool) (left : Lit → Bool) (ps : List Set9) : Prop where
  nodup : (ps.map (·.1)).Nodup
  iff : ∀ s, s ∈ ps.map (·.1) ↔ (M s = true ∧ left (klit s) = false)
theorem Came.start {D : DU} {M : Nat → Bool} (h : MapIs D M) : Came M (Go.Maps.has D) [] := by
  refine ⟨List.Pairwise.nil, fun s => ⟨fun h => by simp at h, fun ⟨h1, h2⟩ => ?_⟩⟩
  rw [h.has s (h.dom s h1), h1] at h2; cases h2
theorem Came.step {M : Nat → Bool} (hd : ∀ s, M s = true → s < 512) {left : Lit → Bool} {ps : List Set9} (h : Came M left ps) {s : Nat} (hs : s < 512) (hM : M s = true) (hl : left (klit s) = true) : Came M (fun z => left z && !z.sameKey (klit s)) (ps ++ [⟨s, hs⟩]) := by
  refine ⟨?_, fun t => ?_⟩
  · rw [List.map_append, List.nodup_append]
    refine ⟨h.nodup, by simp, fun a ha b hb e => ?_⟩
    simp at hb
    subst e; subst hb
    have := (h.iff _).1 ha
    rw [hl] at this; cases this.2
  · rw [List.map_append, List.mem_append, h.iff t]
    constructor
    · rintro (⟨h1, h2⟩ | h1)
      · exact ⟨h1, by rw [h2]; rfl⟩
      · simp at h1; subst h1; exact ⟨hM, by rw [same_klit hs hs]; simp⟩
    · rintro ⟨h1, h2⟩
      by_cases e : t = s
      · subst e; right; simp
      · left
        refine ⟨h1, ?_⟩
        rw [same_klit (hd t h1) hs] at h2
        simpa [e] using h2

set_option maxRecDepth 100000 in
set_option maxHeartbeats 1000000 in
theorem mapValues1_in (F : Fence) (n : Nat) (hf : F.fn 62) (hro : F.round = none) (hn : 1 ≤ n) (l Bm b nn : Nat) (D0 : DU) (M : Nat → Bool) (hM : MapIs D0 M) (J Jx : List Set9 → World → Prop)
    (hY : ∀ pre x W, J pre W → pre.length < nn → YieldAt F (n - 1) Tryz.prog l #[Value.int .u64 (x.1 : Int)] W fun e W' =>
      (e = .returned (.bool true) ∧ J (pre ++ [x]) W' ∧ KeepsWalks W W') ∨ (e = .returned (.bool false) ∧ Jx (pre ++ [x]) W'))
    (W : World) (hJ : AbidesFrom W.heap.size J) (hm : W.cell? ⟨Bm, 0, none⟩ = some (.map (some b))) (hown : W.ownsMap Tryz.prog 80 (plainElem (H := Unit) Tryz.prog 66) b nn D0) (h0 : J [] W) :
    CallsIn F n Tryz.prog 62 #[.func (.yield l) #[] #[], .pointer (some ⟨Bm, 0, none⟩)] W fun e W' => (∃ v, e = .returned v) ∧
      ((∃ xs : List Set9, ((xs.map (·.1)).Nodup ∧ ∀ s, s ∈ xs.map (·.1) ↔ M s = true) ∧ J xs W') ∨ (∃ pre, Jx pre W')) := by
  have hsz := map_size_le hown
  have HM := Lib.hid hM
  clear hM
  refine callsIn_of_wp Tryz.func62 rfl hf ?_ hro
  simp only [Tryz.ntmps62, List.size_toArray, List.length_cons, List.length_nil, Nat.reduceAdd, Nat.reduceSub, Array.replicate_succ, Array.replicate_zero, List.push_toArray, List.append_toArray, List.nil_append, List.cons_append]
  gi_wp2_with (first
    | (gi_at_range; refine wpListIn_range_own _ rfl _ 78 rfl 80 66 keyLaw Tryz.underlying78 _ b nn _ rfl hown ?_; intro w0 hrg0 hg0 hs0)
    | gi_in)
  go_frame
  gi_loopw [4] (fun _ wr => ∃ (left : Lit → Bool) (cnt : Nat) (ps : List Set9), wr.ranges Tryz.prog 80 (plainElem (H := Unit) Tryz.prog 66) b W.heap.size nn D0 left cnt ∧ ps.length + cnt ≤ nn ∧ Came M left ps ∧ J ps wr)
    (fun _ wr => wr.rangeLeft b W.heap.size)
  case atStart =>
    exact ⟨_, _, [], hrg0, by simpa using hsz, Came.start HM.out, hJ [] W w0 none h0 hg0 (fun r e => by cases e)⟩
  case round =>
    obtain ⟨left, cnt, ps, hrg, hcs, hC, hJs⟩ := hrel
    gi_wp2_with (first
      | (gi_at_next; refine wpListIn_next_sets _ rfl _ rfl b W.heap.size nn _ M _ _ rfl hrg HM.out ?_ ?_)
      | gi_in)
    · intro hc0 hl0
      gi_wp2
      go_end0
      exact ⟨⟨_, rfl⟩, .inl ⟨ps, ⟨hC.nodup, fun s => by
        rw [hC.iff s]
        exact ⟨fun h => h.1, fun h => ⟨h, hl0 s (HM.out.dom s h)⟩⟩⟩, hJs⟩⟩
    · intro s w2 cnt2 hs hMs hls hrg2 hlt hg2 hs2 hen
      have hJ2 : J ps w2 := hJ ps wr w2 (some W.heap.size) hJs hg2 (fun r e => by cases e; exact ⟨Nat.le_refl _, hrg.iter_walk⟩)
      obtain ⟨fn, tmps, assign, body, hy, hR⟩ := hY ps ⟨s, hs⟩ w2 hJ2 (by omega)
      dsimp only at hy
      have HC2 := Lib.hid (hC.step HM.out.dom hs hMs hls)
      clear hs2 hC
      unfold keyV at hen ⊢
      gi_wp2
      refine hR.mono ?_
      rintro e W3 (⟨rfl, hJ3, hk3⟩ | ⟨rfl, hJx3⟩)
      · gi_wp2
        have hrg3 := hrg2.of_walks hk3
        go_roundw
        case rel => exact ⟨_, cnt2, ps ++ [⟨s, hs⟩], hrg3, by simp; omega, HC2.out, hJ3⟩
        case measure => rw [hrg3.left_eq, hrg.left_eq]; exact hlt
      · gi_wp2
        refine bodyPost_ret (results_none rfl _ _ _) rfl ?_
        exact ⟨⟨_, rfl⟩, .inr ⟨ps ++ [⟨s, hs⟩], hJx3⟩⟩

set_option maxHeartbeats 1000000 in
theorem mapValues_any (b : Nat) (w : World) :
    Calls Tryz.prog 48 #[.map (some b)] w fun e w' => e = .returned (.func (.func 62) #[] #[.pointer (some ⟨w.heap.size, 0, none⟩)]) ∧ w' = w.alloc (.cells #[.map (some b)] 78) := by
  go_enter Tryz.func48, Tryz.ntmps48
  go_wp2
  go_ret
  exact ⟨rfl, rfl⟩

theorem ownsMap_below {w w' : World} {b n : Nat} {D : DU} (h : w.ownsMap Tryz.prog 80 (plainElem (H := Unit) Tryz.prog 66) b n D) (hb : Below w.heap.size w w') : w'.ownsMap Tryz.prog 80 (plainElem (H := Unit) Tryz.prog 66) b n D := by
  have hlt := h.lt
  obtain ⟨es, clock, hbk, F, hs, hD⟩ := h
  exact ⟨es, clock, (hb.block b hlt).trans hbk, F, hs, hD⟩

theorem mapValues_stops (Bm b nn : Nat) (D0 : DU) (M : Nat → Bool) (hM : MapIs D0 M) (w : World) (hBm : Bm < w.heap.size) (hm : w.cell? ⟨Bm, 0, none⟩ = some (.map (some b))) (hown : w.ownsMap Tryz.prog 80 (plainElem (H := Unit) Tryz.prog 66) b nn D0) :
    SeqStopsK Fence.wide 8 Tryz.prog 62 #[.pointer (some ⟨Bm, 0, none⟩)] (fun x : Set9 => #[Value.int .u64 (x.1 : Int)]) KeepsWalks (fun xs => (xs.map (·.1)).Nodup ∧ ∀ s, s ∈ xs.map (·.1) ↔ M s = true) (fun _ => True) nn w := fun l J Jx W hW hJ _ hY h0 =>
  (mapValues1_in Fence.wide 8 trivial rfl (by omega) l Bm b nn D0 M hM J Jx hY W hJ ((hW.cell (p := ⟨Bm, 0, none⟩) hBm).trans hm) (ownsMap_below hown hW) h0).mono fun e W' ⟨he, h⟩ => ⟨he, h.imp id fun ⟨pre, h2⟩ => ⟨pre, trivial, h2⟩⟩
end Go.Proofs.YtipplbcjdcdapabGreat
