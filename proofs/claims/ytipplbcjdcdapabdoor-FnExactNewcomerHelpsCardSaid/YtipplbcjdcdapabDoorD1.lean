/- Contracts of copies of committees with another quota. -/
import Derived.Test.YtipplbcjdcdapabDoorW2
import Derived.Deep.OwnRows
import Derived.Laws.CopyOwn
import Derived.Deep.RegionWith
namespace Go.Proofs.YtipplbcjdcdapabDoor
open Go.RowKit Vo

theorem splice_own {w : World} {g n : Nat} {ws : List Int} {cur cs : List Value} (hc : cs = (List.range n).map fun j => Value.int .i64 (ws.getD j 0)) (hn : cur.length = n)
    (h : w.heap[g]? = some (.cells (splice cur 0 cs).toArray 3 (0, 0))) : Ints w g n ws := by
  subst hc
  refine ⟨_, h, ?_, fun i hi => ?_⟩
  · have := length_splice cur 0 ((List.range n).map fun j => Value.int .i64 (ws.getD j 0)) (by simp [hn])
    show n ≤ (splice cur 0 _).toArray.size
    rw [List.size_toArray]; omega
  · simp [splice, List.getElem?_append, hi]

theorem splice_row {w : World} {base g n : Nat} {ws : List Int} {cur cs : List Value} (hb : base ≤ g) (h9 : n ≤ 9) (hc : cs = (List.range n).map fun j => Value.int .i64 (ws.getD j 0)) (hn : cur.length = n)
    (h : w.heap[g]? = some (.cells (splice cur 0 cs).toArray 3 (0, 0))) : w.ownsRow base 3 1 (.slice (some ⟨g, 0, none⟩) n n) n ((List.range n).map fun j => Value.int .i64 (ws.getD j 0)) := by
  have hl : cs.length = n := by rw [hc]; simp
  have e : splice cur 0 cs = cs := by
    unfold splice
    simp [List.drop_eq_nil_of_le (show cur.length ≤ cs.length by omega)]
  rw [e] at h
  refine ⟨by simp, Or.inr ⟨g, n, cs.toArray, rfl, hb, h, Nat.le_refl _, by unfold maxLen; omega, by simp [hl], ?_⟩⟩
  rw [← hc]
  simp [List.take_of_length_le (show cs.length ≤ n by omega)]
theorem owns_far {w : World} {base : Nat} {e : TypeId} {size : Nat} {v : Value} {n : Nat} {xs : List Value} (h : w.ownsRow base e size v n xs) {p : Addr} (hp : p.block < base) (u : Value) : (w.setCell p u).ownsRow base e size v n xs := by
  obtain ⟨h1, h2⟩ := h
  refine ⟨h1, ?_⟩
  rcases h2 with h2 | ⟨g, cap, cur, hv, hg, hh, r⟩
  · exact Or.inl h2
  · exact Or.inr ⟨g, cap, cur, hv, hg, (Below.heap_setCell w p u g (by omega)).trans hh, r⟩

set_option maxRecDepth 20000 in
set_option maxHeartbeats 2000000 in
theorem withQuota_row (q q' : Int) (b off n cap : Nat) (ws : List Int) (w : World) (h1 : 1 ≤ n) (h9 : n ≤ 9) (hsl : Sl w b off n ws) :
    Calls Tryd.prog 49 #[.agg #[.int .i64 q, .slice (some ⟨b, off, none⟩) n cap], .int .i64 q'] w fun e w' =>
      e = .returned (.agg #[.int .i64 q', .slice (some ⟨w.heap.size + 2, 0, none⟩) n n]) ∧ w'.ownsRow (w.heap.size + 2) 3 1 (.slice (some ⟨w.heap.size + 2, 0, none⟩) n n) n ((List.range n).map fun j => Value.int .i64 (ws.getD j 0)) ∧ Below w.heap.size w w' := by
  have HSL := Lib.hid hsl
  have hbl := hsl.lt
  clear hsl
  have hmk := run_make_row' (P := Tryd.prog) 22 3 (.int .i64 0) 8 Tryd.underlying22 infoInt rfl .i64 .i64 n (by omega) (by omega)
  have hsz1 : (Tryd.prog.info? 3).map (·.size) = some 1 := by kernel_rfl
  obtain ⟨cs, hcs⟩ : ∃ cs, cs = (List.range n).map fun j => Value.int .i64 (ws.getD j 0) := ⟨_, rfl⟩
  have hcl : cs.length = n := by rw [hcs]; simp
  have hco : ∀ v ∈ cs, v.oneCell' = true := by rw [hcs]; intro v hv; simp at hv; obtain ⟨j, _, rfl⟩ := hv; rfl
  have hcj : ∀ j v, cs[j]? = some v → j < n ∧ v = .int .i64 (ws.getD j 0) := by
    rw [hcs]; intro j v hv
    rcases Nat.lt_or_ge j n with hj | hj
    · rw [List.getElem?_map, List.getElem?_range hj] at hv
      simp at hv
      exact ⟨hj, by rw [← hv]; simp⟩
    · rw [List.getElem?_eq_none (by simp; omega)] at hv; cases hv
  have HCS := Lib.hid hcs
  have HCL := Lib.hid hcl
  have HCO := Lib.hid hco
  have HCJ := Lib.hid hcj
  obtain ⟨cur, hcur⟩ : ∃ cur : List Value, cur = (madeCells #[.int .i64 0] n).toList := ⟨_, rfl⟩
  have HCUR := Lib.hid hcur
  have HCURL := Lib.hid (show cur.length = n from by rw [hcur]; simp [size_madeCells])
  clear hcs hcl hco hcj hcur
  go_enter Tryd.func49, Tryd.ntmps49
  have hx := (BoxT.new 28 (w.alloc (.cells #[.int .i64 q, .slice (some ⟨b, off, none⟩) n cap] 28)) (.int .i64 0) (.slice none 0 0)).alloc (.cells (madeCells #[.int .i64 0] n) 3)
  simp only [World.size_alloc] at hx
  have hb3 : Below w.heap.size w (((w.alloc (.cells #[.int .i64 q, .slice (some ⟨b, off, none⟩) n cap] 28)).alloc (.cells #[.int .i64 0, .slice none 0 0] 28)).alloc (.cells (madeCells #[.int .i64 0] n) 3)) := ((below1 w _).alloc (by simp) _).alloc (by simp; omega) _
  have HSL3 := Lib.hid (HSL.out.now hb3)
  go_wp2_with (with_reducible refine wpList_copy_splice rfl _ _ 22 22 rfl 3 Tryd.underlying22 hsz1 _ _ _ _ _ _ rfl rfl (w.heap.size + 2) 0 cur 3 ?hg cs ?hn ?hpos ?hfit HCO.out (w.heap.size + 2) _ (Below.refl _ _) (by omega) ?_)
  case hg =>
    rw [HCUR.out]
    have := heap_alloc_new ((w.alloc (.cells #[.int .i64 q, .slice (some ⟨b, off, none⟩) n cap] 28)).alloc (.cells #[.int .i64 0, .slice none 0 0] 28)) (.cells (madeCells #[.int .i64 0] n) 3)
    simpa using this
  case hn => rw [HCL.out]; simp
  case hpos =>
    intro _ j v hv
    obtain ⟨hj, rfl⟩ := HCJ.out j v hv
    exact HSL3.out.cell j hj
  case hfit => rw [HCL.out, HCURL.out]; omega
  intro w4 hg4 hb4
  have HI := Lib.hid (splice_own HCS.out HCURL.out hg4.out)
  have HR := Lib.hid (splice_row (base := w.heap.size + 2) (Nat.le_refl _) h9 HCS.out HCURL.out hg4.out)
  have hx4 := hx.of_below hb4 (by omega)
  have hz4 : w.heap.size + 2 < w4.heap.size := HI.out.lt
  have hbf : Below w.heap.size w w4 := hb3.trans (hb4.mono (by omega))
  have hf4 : w4.frozen? ⟨w.heap.size + 1, 0, none⟩ = false ∧ w4.frozen? ⟨w.heap.size + 1, 1, none⟩ = false := by
    unfold BoxT at hx4; exact ⟨by simp [World.frozen?, hx4], by simp [World.frozen?, hx4]⟩
  clear hg4 hb4 hx hb3
  obtain ⟨c0, c1⟩ := hx4.cells
  obtain ⟨f0, f1⟩ := hf4
  go_wp2
  refine bodyPost_ret (v := .agg #[.int .i64 q', .slice (some ⟨w.heap.size + 2, 0, none⟩) n n]) (by simp [results, Tryd.results49, go_sem, c0, c1]) rfl ⟨rfl, ?_, ?_⟩
  · exact owns_far (owns_far HR.out (by simp) _) (by simp) _
  · exact (hbf.setCell (by simp) _).setCell (by simp) _

theorem ints_of_row {w : World} {base g n cap : Nat} {ws : List Int} (h : w.ownsRow base 3 1 (.slice (some ⟨g, 0, none⟩) n cap) n ((List.range n).map fun j => Value.int .i64 (ws.getD j 0))) : Ints w g n ws :=
  Own.of_own h fun i hi => by rw [List.getElem?_map, List.getElem?_range hi]; rfl

theorem withQuota_any (q q' : Int) (b off n cap : Nat) (ws : List Int) (w : World) (h1 : 1 ≤ n) (h9 : n ≤ 9) (hsl : Sl w b off n ws) :
    Calls Tryd.prog 49 #[.agg #[.int .i64 q, .slice (some ⟨b, off, none⟩) n cap], .int .i64 q'] w fun e w' =>
      e = .returned (.agg #[.int .i64 q', .slice (some ⟨w.heap.size + 2, 0, none⟩) n n]) ∧ Ints w' (w.heap.size + 2) n ws ∧ Below w.heap.size w w' := by
  refine (withQuota_row q q' b off n cap ws w h1 h9 hsl).mono ?_
  rintro e w' ⟨rfl, ho, hb⟩
  exact ⟨rfl, ints_of_row ho, hb⟩

theorem isSome_set {w : World} {p a : Addr} {u : Value} (h : (w.cell? a).isSome = true) : ((w.setCell p u).cell? a).isSome = true := by
  by_cases e : p = a
  · subst e; rw [World.cell?_setCell_same' w p u h]; rfl
  · rw [World.cell?_setCell_other w p a u e]; exact h

/-- The total's wrap. -/
theorem dual_q {q : Int} {ws : List Int} {n : Nat} (h : Vo.Good q ws n) : 1 ≤ sumK ws n - q + 1 ∧ sumK ws n - q + 1 ≤ 9000 := by
  have := h.tot; have := h.q1; have := h.q2; omega

/-- A slice that is empty, or holds these integers in a block from base on. -/
def Held (base : Nat) (w : World) (A : Option Addr) (m : Nat) (L : List Int) : Prop := (m = 0 ∧ A = none) ∨ ∃ g, A = some ⟨g, 0, none⟩ ∧ base ≤ g ∧ Ints w g m L
/-- A committee of the call's own, and a truth. -/
def ComAt (q' : Int) (m : Nat) (L : List Int) (ok : Bool) (w w' : World) (e : Ending) : Prop :=
  ∃ A cap, e = .returned (.tuple #[.agg #[.int .i64 q', .slice A m cap], .bool ok]) ∧ Held w.heap.size w' A m L ∧ Below w.heap.size w w'
def dualQ (q : Int) (ws : List Int) (n : Nat) : Int := if goodB q ws n then sumK ws n + 1 - q else 0
def dualN (q : Int) (ws : List Int) (n : Nat) : Nat := if goodB q ws n then n else 0
theorem dualQ_yes {q ws n} (h : goodB q ws n = true) : dualQ q ws n = sumK ws n + 1 - q := if_pos h
theorem dualQ_no {q ws n} (h : goodB q ws n = false) : dualQ q ws n = 0 := if_neg (by rw [h]; simp)
theorem dualN_yes {q ws n} (h : goodB q ws n = true) : dualN q ws n = n := if_pos h
theorem dualN_no {q ws n} (h : goodB q ws n = false) : dualN q ws n = 0 := if_neg (by rw [h]; simp)

theorem dualN_le (q : Int) (ws : List Int) (n : Nat) : dualN q ws n ≤ 9 := by
  by_cases hg : Vo.Good q ws n
  · rw [dualN_yes (goodB_true hg)]; exact hg.hi
  · rw [dualN_no (goodB_false hg)]; omega

end Go.Proofs.YtipplbcjdcdapabDoor
