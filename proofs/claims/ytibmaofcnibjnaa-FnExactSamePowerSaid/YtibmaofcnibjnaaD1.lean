/- Contracts of copies of committees with another quota. -/
import Derived.Test.YtibmaofcnibjnaaW2
import Derived.Deep.OwnRows
import Derived.Laws.CopyOwn
import Derived.Deep.RegionWith
namespace Go.Proofs.Ytibmaofcnibjnaa
open Go.RowKit Vo

theorem splice_own {w : World} {g n : Nat} {ws : List Int} {cur cs : List Value} (hc : cs = (List.range n).map fun j => Value.int .i64 (ws.getD j 0)) (hn : cur.length = n)
    (h : w.heap[g]? = some (.cells (splice cur 0 cs).toArray 3 (0, 0))) : Ints w g n ws := by
  subst hc
  refine ⟨_, h, ?_, fun i hi => ?_⟩
  · have := length_splice cur 0 ((List.range n).map fun j => Value.int .i64 (ws.getD j 0)) (by simp [hn])
    show n ≤ (splice cur 0 _).toArray.size
    rw [List.size_toArray]; omega
  · simp [splice, List.getElem?_append, hi]

theorem splice_row {w : World} {base g n : Nat} {ws : List Int} {cur cs : List Value} (hb : base ≤ g) (h9 : n ≤ 9) (hc : cs = (List.range n).map fun j => Value.int .i64 (ws.getD j 0)) (hn : cur.length = n)
    (h : w.heap[g]? = some (.cells (splice cur 0 cs).toArray 3 (0, 0))) : w.ownsRow base 3 1 (.slice (some ⟨g, 0, none⟩) n n) n ((List.range n).map fun j => Value.int .i64 (ws.getD j 0)) := by
  have hl : cs.length = n := by rw [hc]; simp
  have e : splice cur 0 cs = cs := by
    unfold splice
    simp [List.drop_eq_nil_of_le (show cur.length ≤ cs.length by omega)]
  rw [e] at h
  refine ⟨by simp, Or.inr ⟨g, n, cs.toArray, rfl, hb, h, Nat.le_refl _, by unfold maxLen; omega, by simp [hl], ?_⟩⟩
  rw [← hc]
  simp [List.take_of_length_le (show cs.length ≤ n by omega)]
theorem owns_far {w : World} {base : Nat} {e : TypeId} {size : Nat} {v : Value} {n : Nat} {xs : List Value} (h : w.ownsRow base e size v n xs) {p : Addr} (hp : p.block < base) (u : Value) : (w.setCell p u).ownsRow base e size v n xs := by
  obtain ⟨h1, h2⟩ := h
  refine ⟨h1, ?_⟩
  rcases h2 with h2 | ⟨g, cap, cur, hv, hg, hh, r⟩
  · exact Or.inl h2
  · exact Or.inr ⟨g, cap, cur, hv, hg, (Below.heap_setCell w p u g (by omega)).trans hh, r⟩

set_option maxRecDepth 20000 in
set_option maxHeartbeats 2000000 in
theorem withQuota_row (q q' : Int) (b off n cap : Nat) (ws : List Int) (w : World) (h1 : 1 ≤ n) (h9 : n ≤ 9) (hsl : Sl w b off n ws) :
    Calls Try.prog 52 #[.agg #[.int .i64 q, .slice (some ⟨b, off, none⟩) n cap], .int .i64 q'] w fun e w' =>
      e = .returned (.agg #[.int .i64 q', .slice (some ⟨w.heap.size + 2, 0, none⟩) n n]) ∧ w'.ownsRow (w.heap.size + 2) 3 1 (.slice (some ⟨w.heap.size + 2, 0, none⟩) n n) n ((List.range n).map fun j => Value.int .i64 (ws.getD j 0)) ∧ Below w.heap.size w w' := by
  have HSL := Lib.hid hsl
  have hbl := hsl.lt
  clear hsl
  have hmk := run_make_row' (P := Try.prog) 22 3 (.int .i64 0) 8 Try.underlying22 infoInt rfl .i64 .i64 n (by omega) (by omega)
  have hsz1 : (Try.prog.info? 3).map (·.size) = some 1 := by kernel_rfl
  obtain ⟨cs, hcs⟩ : ∃ cs, cs = (List.range n).map fun j => Value.int .i64 (ws.getD j 0) := ⟨_, rfl⟩
  have hcl : cs.length = n := by rw [hcs]; simp
  have hco : ∀ v ∈ cs, v.oneCell' = true := by rw [hcs]; intro v hv; simp at hv; obtain ⟨j, _, rfl⟩ := hv; rfl
  have hcj : ∀ j v, cs[j]? = some v → j < n ∧ v = .int .i64 (ws.getD j 0) := by
    rw [hcs]; intro j v hv
    rcases Nat.lt_or_ge j n with hj | hj
    · rw [List.getElem?_map, List.getElem?_range hj] at hv
      simp at hv
      exact ⟨hj, by rw [← hv]; simp⟩
    · rw [List.getElem?_eq_none (by simp; omega)] at hv; cases hv
  have HCS := Lib.hid hcs
  have HCL := Lib.hid hcl
  have HCO := Lib.hid hco
  have HCJ := Lib.hid hcj
  obtain ⟨cur, hcur⟩ : ∃ cur : List Value, cur = (madeCells #[.int .i64 0] n).toList := ⟨_, rfl⟩
  have HCUR := Lib.hid hcur
  have HCURL := Lib.hid (show cur.length = n from by rw [hcur]; simp [size_madeCells])
  clear hcs hcl hco hcj hcur
  go_enter Try.func52, Try.ntmps52
  have hx := (BoxT.new 24 (w.alloc (.cells #[.int .i64 q, .slice (some ⟨b, off, none⟩) n cap] 24)) (.int .i64 0) (.slice none 0 0)).alloc (.cells (madeCells #[.int .i64 0] n) 3)
  simp only [World.size_alloc] at hx
  have hb3 : Below w.heap.size w (((w.alloc (.cells #[.int .i64 q, .slice (some ⟨b, off, none⟩) n cap] 24)).alloc (.cells #[.int .i64 0, .slice none 0 0] 24)).alloc (.cells (madeCells #[.int .i64 0] n) 3)) := ((below1 w _).alloc (by simp) _).alloc (by simp; omega) _
  have HSL3 := Lib.hid (HSL.out.now hb3)
  go_wp2_with (with_reducible refine wpList_copy_splice rfl _ _ 22 22 rfl 3 Try.underlying22 hsz1 _ _ _ _ _ _ rfl rfl (w.heap.size + 2) 0 cur 3 ?hg cs ?hn ?hpos ?hfit HCO.out (w.heap.size + 2) _ (Below.refl _ _) (by omega) ?_)
  case hg =>
    rw [HCUR.out]
    have := heap_alloc_new ((w.alloc (.cells #[.int .i64 q, .slice (some ⟨b, off, none⟩) n cap] 24)).alloc (.cells #[.int .i64 0, .slice none 0 0] 24)) (.cells (madeCells #[.int .i64 0] n) 3)
    simpa using this
  case hn => rw [HCL.out]; simp
  case hpos =>
    intro _ j v hv
    obtain ⟨hj, rfl⟩ := HCJ.out j v hv
    exact HSL3.out.cell j hj
  case hfit => rw [HCL.out, HCURL.out]; omega
  intro w4 hg4 hb4
  have HI := Lib.hid (splice_own HCS.out HCURL.out hg4.out)
  have HR := Lib.hid (splice_row (base := w.heap.size + 2) (Nat.le_refl _) h9 HCS.out HCURL.out hg4.out)
  have hx4 := hx.of_below hb4 (by omega)
  have hz4 : w.heap.size + 2 < w4.heap.size := HI.out.lt
  have hbf : Below w.heap.size w w4 := hb3.trans (hb4.mono (by omega))
  have hf4 : w4.frozen? ⟨w.heap.size + 1, 0, none⟩ = false ∧ w4.frozen? ⟨w.heap.size + 1, 1, none⟩ = false := by
    unfold BoxT at hx4; exact ⟨by simp [World.frozen?, hx4], by simp [World.frozen?, hx4]⟩
  clear hg4 hb4 hx hb3
  obtain ⟨c0, c1⟩ := hx4.cells
  obtain ⟨f0, f1⟩ := hf4
  go_wp2
  refine bodyPost_ret (v := .agg #[.int .i64 q', .slice (some ⟨w.heap.size + 2, 0, none⟩) n n]) (by simp [results, Try.results52, go_sem, c0, c1]) rfl ⟨rfl, ?_, ?_⟩
  · exact owns_far (owns_far HR.out (by simp) _) (by simp) _
  · exact (hbf.setCell (by simp) _).setCell (by simp) _

theorem ints_of_row {w : World} {base g n cap : Nat} {ws : List Int} (h : w.ownsRow base 3 1 (.slice (some ⟨g, 0, none⟩) n cap) n ((List.range n).map fun j => Value.int .i64 (ws.getD j 0))) : Ints w g n ws :=
  Own.of_own h fun i hi => by rw [List.getElem?_map, List.getElem?_range hi]; rfl

theorem withQuota_any (q q' : Int) (b off n cap : Nat) (ws : List Int) (w : World) (h1 : 1 ≤ n) (h9 : n ≤ 9) (hsl : Sl w b off n ws) :
    Calls Try.prog 52 #[.agg #[.int .i64 q, .slice (some ⟨b, off, none⟩) n cap], .int .i64 q'] w fun e w' =>
      e = .returned (.agg #[.int .i64 q', .slice (some ⟨w.heap.size + 2, 0, none⟩) n n]) ∧ Ints w' (w.heap.size + 2) n ws ∧ Below w.heap.size w w' := by
  refine (withQuota_row q q' b off n cap ws w h1 h9 hsl).mono ?_
  rintro e w' ⟨rfl, ho, hb⟩
  exact ⟨rfl, ints_of_row ho, hb⟩

theorem isSome_set {w : World} {p a : Addr} {u : Value} (h : (w.cell? a).isSome = true) : ((w.setCell p u).cell? a).isSome = true := by
  by_cases e : p = a
  · subst e; rw [World.cell?_setCell_same' w p u h]; rfl
  · rw [World.cell?_setCell_other w p a u e]; exact h

/-- The total's wrap. -/
theorem dual_q {q : Int} {ws : List Int} {n : Nat} (h : Vo.Good q ws n) : 1 ≤ sumK ws n - q + 1 ∧ sumK ws n - q + 1 ≤ 9000 := by
  have := h.tot; have := h.q1; have := h.q2; omega

/-- A slice that is empty, or holds these integers in a block from base on. -/
def Held (base : Nat) (w : World) (A : Option Addr) (m : Nat) (L : List Int) : Prop := (m = 0 ∧ A = none) ∨ ∃ g, A = some ⟨g, 0, none⟩ ∧ base ≤ g ∧ Ints w g m L
/-- A committee of the call's own, and a truth. -/
def ComAt (q' : Int) (m : Nat) (L : List Int) (ok : Bool) (w w' : World) (e : Ending) : Prop :=
  ∃ A cap, e = .returned (.tuple #[.agg #[.int .i64 q', .slice A m cap], .bool ok]) ∧ Held w.heap.size w' A m L ∧ Below w.heap.size w w'
def dualQ (q : Int) (ws : List Int) (n : Nat) : Int := if goodB q ws n then sumK ws n + 1 - q else 0
def dualN (q : Int) (ws : List Int) (n : Nat) : Nat := if goodB q ws n then n else 0
theorem dualQ_yes {q ws n} (h : goodB q ws n = true) : dualQ q ws n = sumK ws n + 1 - q := if_pos h
theorem dualQ_no {q ws n} (h : goodB q ws n = false) : dualQ q ws n = 0 := if_neg (by rw [h]; simp)
theorem dualN_yes {q ws n} (h : goodB q ws n = true) : dualN q ws n = n := if_pos h
theorem dualN_no {q ws n} (h : goodB q ws n = false) : dualN q ws n = 0 := if_neg (by rw [h]; simp)

theorem dualN_le (q : Int) (ws : List Int) (n : Nat) : dualN q ws n ≤ 9 := by
  by_cases hg : Vo.Good q ws n
  · rw [dualN_yes (goodB_true hg)]; exact hg.hi
  · rw [dualN_no (goodB_false hg)]; omega

set_option maxRecDepth 20000 in
set_option maxHeartbeats 4000000 in
theorem dualCommittee_yes (q : Int) (A : Option Addr) (n cap : Nat) (ws : List Int) (w : World) (hk : Known w A n ws) (hg : Vo.Good q ws n) :
    Calls Try.prog 17 #[.agg #[.int .i64 q, .slice A n cap]] w fun e w' => ComAt (dualQ q ws n) (dualN q ws n) ws (goodB q ws n) w w' e := by
  have hdq := dual_q hg
  obtain ⟨b, off, rfl, hsl⟩ := hk.get hg.lo
  have HK := Lib.hid hk
  have HSL := Lib.hid hsl
  have HOK := Lib.hid hg.ok
  have HGB := Lib.hid (goodB_true hg)
  have HDQ := Lib.hid (dualQ_yes (goodB_true hg))
  have HDN := Lib.hid (dualN_yes (goodB_true hg))
  have hn9 := hg.hi
  have hn1 := hg.lo
  have htot := hg.tot
  have hq1 := hg.q1
  have hq2 := hg.q2
  have hn10 : n < 10 := by omega
  have hnm : n ≤ 9223372036854775807 := by omega
  clear hg hsl hk
  have hb0 : Below w.heap.size w ((w.alloc (.cells #[.int .i64 q, .slice (some ⟨b, off, none⟩) n cap] 24)).alloc (.cells #[.int .i64 0, .slice none 0 0] 24)) := (below1 w _).alloc (by simp) _
  have hx := (Box.new w (.int .i64 q) (.slice (some ⟨b, off, none⟩) n cap)).alloc (.cells #[.int .i64 0, .slice none 0 0] 24)
  have hr := Box.new (w.alloc (.cells #[.int .i64 q, .slice (some ⟨b, off, none⟩) n cap] 24)) (.int .i64 0) (.slice none 0 0)
  simp only [World.size_alloc] at hr
  go_enter Try.func17, Try.ntmps17
  go_wp2_with fail
  refine (isCommittee_any q _ n cap ws _ hnm (HK.out.now hb0)).mono ?_
  rintro e w1 ⟨rfl, hb1⟩
  rw [HGB.out]
  have g1 := bfrom hb0 hb1
  have hx1 := hx.now hb1
  have hr1 := hr.now hb1
  have hs1 := Lib.hid (HSL.out.now g1)
  clear hx hr hb0 hb1
  have K := Lib.hid (show ∀ W, Below w1.heap.size w1 W → (W.cell? ⟨w.heap.size, 0, none⟩ = some (.int .i64 q) ∧ W.cell? ⟨w.heap.size, 1, none⟩ = some (.slice (some ⟨b, off, none⟩) n cap) ∧ W.cell? ⟨w.heap.size + 1, 0, none⟩ = some (.int .i64 0) ∧ W.cell? ⟨w.heap.size + 1, 1, none⟩ = some (.slice none 0 0) ∧ W.frozen? ⟨w.heap.size + 1, 0, none⟩ = false ∧ W.frozen? ⟨w.heap.size + 1, 1, none⟩ = false) from fun W hb => ⟨(hx1.now hb).cells.1, (hx1.now hb).cells.2, (hr1.now hb).cells.1, (hr1.now hb).cells.2, by have h := hr1.now hb; unfold BoxT at h; simp [World.frozen?, h], by have h := hr1.now hb; unfold BoxT at h; simp [World.frozen?, h]⟩)
  obtain ⟨c0, c1, c2, c3, c4, c5⟩ := K.out _ (Below.refl _ _)
  go_wp2_with fail
  go_region_held3 (fun w' => w'.cell? ⟨w.heap.size, 0, none⟩ = some (.int .i64 q) ∧ w'.cell? ⟨w.heap.size, 1, none⟩ = some (.slice (some ⟨b, off, none⟩) n cap) ∧ (w'.cell? ⟨w.heap.size + 1, 0, none⟩).isSome = true ∧ (w'.cell? ⟨w.heap.size + 1, 1, none⟩).isSome = true ∧ w'.frozen? ⟨w.heap.size + 1, 0, none⟩ = false ∧ w'.frozen? ⟨w.heap.size + 1, 1, none⟩ = false)
    (first | exact ⟨b0, b1, by rw [b2]; rfl, by rw [b3]; rfl, b4, b5⟩ | exact ⟨d0, d1, by rw [d2]; rfl, by rw [d3]; rfl, d4, d5⟩ | ((try dsimp only); (repeat' apply And.intro); all_goals (first | exact isSome_set (isSome_set (Option.isSome_iff_exists.2 ⟨_, d2⟩)) | exact isSome_set (isSome_set (Option.isSome_iff_exists.2 ⟨_, d3⟩)) | go_keep)) | go_keep)
    (first
      | (go_at_call 48; refine (total_any _ b off n cap ws _ hn10 HOK.out (hs1.out.now (Below.refl _ _).drew)).mono ?_; rintro e wB ⟨rfl, hbB⟩; have gB := bfrom (Below.refl _ _).drew hbB; obtain ⟨b0, b1, b2, b3, b4, b5⟩ := K.out _ gB)
      | (go_at_call 52; refine (withQuota_any q _ b off n cap ws _ hn1 hn9 (hs1.out.now gB)).mono ?_; rintro e wC ⟨rfl, hiC, hbC⟩; have hiC' := Lib.hid hiC; clear hiC; have gC := bfrom gB hbC; obtain ⟨d0, d1, d2, d3, d4, d5⟩ := K.out _ gC))
  have HW := Lib.hid (show IntKind.i64.wrap (IntKind.i64.wrap (sumK ws n - q) + 1) = sumK ws n + 1 - q from by rw [IntWalk.i64_in (sumK ws n - q) (by omega), IntWalk.i64_in _ (by omega)]; omega)
  rw [HW.out]
  have hzB : w.heap.size + 1 < w1.heap.size := hr1.lt
  have hzC := gB.size
  clear b0 b1 b2 b3 b4 b5 c0 c1 c2 c3 c4 c5 d0 d1 d4 d5
  go_wp2
  refine bodyPost_ret (v := .tuple #[.agg #[.int .i64 (sumK ws n + 1 - q), .slice (some ⟨wB.heap.size + 2, 0, none⟩) n n], .bool true]) (by simp [results, Try.results17, go_sem, d2, d3]) rfl ?_
  rw [HDQ.out, HDN.out, HGB.out]
  refine ⟨_, _, rfl, Or.inr ⟨wB.heap.size + 2, rfl, by omega, ?_⟩, ?_⟩
  · exact (hiC'.out.far (by simp; omega) _).far (by simp; omega) _
  · exact ((bfrom g1 gC).setCell (by simp) _).setCell (by simp) _

set_option maxRecDepth 20000 in
set_option maxHeartbeats 2000000 in
theorem dualCommittee_any (q : Int) (A : Option Addr) (n cap : Nat) (ws : List Int) (w : World) (hm : n ≤ 9223372036854775807) (hk : Known w A n ws) :
    Calls Try.prog 17 #[.agg #[.int .i64 q, .slice A n cap]] w fun e w' => ComAt (dualQ q ws n) (dualN q ws n) ws (goodB q ws n) w w' e := by
  by_cases hg : Vo.Good q ws n
  · exact dualCommittee_yes q A n cap ws w hk hg
  · have HK := Lib.hid hk
    have HGB := Lib.hid (goodB_false hg)
    have HDQ := Lib.hid (dualQ_no (goodB_false hg))
    have HDN := Lib.hid (dualN_no (goodB_false hg))
    clear hg hk
    have hb0 : Below w.heap.size w ((w.alloc (.cells #[.int .i64 q, .slice A n cap] 24)).alloc (.cells #[.int .i64 0, .slice none 0 0] 24)) := (below1 w _).alloc (by simp) _
    have hr := Box.new (w.alloc (.cells #[.int .i64 q, .slice A n cap] 24)) (.int .i64 0) (.slice none 0 0)
    simp only [World.size_alloc] at hr
    go_enter Try.func17, Try.ntmps17
    go_wp2_with fail
    refine (isCommittee_any q _ n cap ws _ hm (HK.out.now hb0)).mono ?_
    rintro e w1 ⟨rfl, hb1⟩
    rw [HGB.out]
    have g1 := bfrom hb0 hb1
    have hr1 := hr.now hb1
    have hfz : w1.frozen? ⟨w.heap.size + 1, 0, none⟩ = false ∧ w1.frozen? ⟨w.heap.size + 1, 1, none⟩ = false := by
      unfold BoxT at hr1; exact ⟨by simp [World.frozen?, hr1], by simp [World.frozen?, hr1]⟩
    obtain ⟨c0, c1⟩ := hr1.cells
    obtain ⟨f0, f1⟩ := hfz
    clear hr hb0 hb1
    go_wp2
    refine bodyPost_ret (v := .tuple #[.agg #[.int .i64 0, .slice none 0 0], .bool false]) (by simp [results, Try.results17, go_sem, c0, c1]) rfl ?_
    rw [HDQ.out, HDN.out, HGB.out]
    exact ⟨_, _, rfl, Or.inl ⟨rfl, rfl⟩, (g1.setCell (by simp) _).setCell (by simp) _⟩
end Go.Proofs.Ytibmaofcnibjnaa
