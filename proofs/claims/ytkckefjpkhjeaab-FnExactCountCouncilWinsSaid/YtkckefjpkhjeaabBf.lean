/- Contracts of an assembly: it asks its function for a set and remembers the answer in a map. -/
import Derived.Test.YtkckefjpkhjeaabBe
import Derived.Maps.OwnSet
import Derived.Maps.Views
import Derived.Test.YtkckefjpkhjeaabR6
import Derived.Test.YtkckefjpkhjeaabA5
namespace Go.Proofs.Ytkckefjpkhjeaab
open Go.RowKit Vo

theorem setKeyed : Go.Maps.Keyed Try.prog 106 := Go.Maps.int_keyed (q := .u64) Try.underlying106
theorem zeroB (w : World) : (zeroValue 4).run Try.prog w = .ok (.bool false) w := by kernel_rfl
theorem set_wf {s : Nat} (hs : s < 512) : (Lit.int .u64 (s : Int)).wf = true := WalkArith.wf_u64 (by omega)
theorem set_key {s : Nat} (hs : s < 512) : keyOf Try.prog 106 (.int .u64 (s : Int)) = some (.int .u64 (s : Int)) := Go.Maps.keyOf_int_mk Try.underlying106 (set_wf hs)
theorem set_key_ne {s t : Nat} (h : s ≠ t) : (Lit.int .u64 (s : Int)) ≠ .int .u64 (t : Int) := fun e => h (by injection e with _ e; omega)
theorem plain_bool_inv {P : Program} {e : TypeId} (he : P.underlying e = some .bool) {v : Value} {z : DataW Unit × List MemPlace} (h : plainElem P e v = some z) : ∃ x, v = .bool x ∧ z = (.lit (.bool x), []) := by
  unfold plainElem at h
  rw [he] at h
  cases v <;> simp at h
  exact ⟨_, rfl, h.symm⟩
theorem plainElem_bool_inv {v : Value} {z : DataW Unit × List MemPlace} (h : plainElem Try.prog 4 v = some z) : ∃ x, v = .bool x ∧ z = (.lit (.bool x), []) := plain_bool_inv Try.underlying4 h

/-- In the map of block b lies of some sets whether they are of the kind p. -/
def Memo (p : Nat → Bool) (N b : Nat) (w : World) : Prop :=
  ∃ (K : Nat → Bool) (D : DataW Unit), w.ownsMap Try.prog 106 (plainElem Try.prog 4) b (cnt K N) D ∧ Go.Maps.IsMap D ∧ (∀ s, s < N → Go.Maps.has D (.int .u64 (s : Int)) = K s) ∧ ∀ s, s < N → K s = true → ∀ zd, D.atKey (.int .u64 (s : Int)) zd = .lit (.bool (p s))
theorem cnt_put {K M : Nat → Bool} {s N : Nat} (hs : s < N) (h : K s = false) (h1 : M s = true) (h2 : ∀ t, t ≠ s → M t = K t) : cnt M N = cnt K N + 1 := by
  induction N with
  | zero => omega
  | succ N ih =>
    by_cases e : s = N
    · subst e
      have e1 : cnt M (s+1) = cnt M s + if M s then 1 else 0 := rfl
      have e2 : cnt K (s+1) = cnt K s + if K s then 1 else 0 := rfl
      rw [e1, e2, h1, h, cnt_congr (fun j hj => h2 j (by omega))]
      simp
    · have e1 : cnt M (N+1) = cnt M N + if M N then 1 else 0 := rfl
      have e2 : cnt K (N+1) = cnt K N + if K N then 1 else 0 := rfl
      rw [e1, e2, ih (by omega), h2 N (fun e' => e e'.symm)]
      omega
theorem cnt_none (N : Nat) : cnt (fun _ => false) N = 0 := by
  induction N with
  | zero => rfl
  | succ N ih => simp [cnt, ih]
theorem Memo.made (p : Nat → Bool) (N : Nat) (w : World) : Memo p N w.heap.size (w.alloc (.map #[] 0)) :=
  ⟨fun _ => false, .map [], by rw [cnt_none]; exact World.ownsMap_made w _ _ _, Go.Maps.isMap_empty, fun _ _ => rfl, fun _ _ h => by cases h⟩
theorem Memo.kept {p : Nat → Bool} {N b : Nat} {w w' : World} (h : Memo p N b w) (e : w'.heap[b]? = w.heap[b]?) : Memo p N b w' := by
  obtain ⟨K, D, ⟨es, clock, hb, F, hs, hD⟩, h2⟩ := h
  exact ⟨K, D, ⟨es, clock, e.trans hb, F, hs, hD⟩, h2⟩
theorem Memo.lt {p : Nat → Bool} {N b : Nat} {w : World} (h : Memo p N b w) : b < w.heap.size := by
  obtain ⟨K, D, ho, _⟩ := h
  exact ho.lt
/-- What is asked is known, or it is not, and can be put. -/
theorem Memo.look {p : Nat → Bool} {N b : Nat} {w : World} (h : Memo p N b w) (hN : N ≤ 512) {s : Nat} (hs : s < N) :
    (Instr.lookup 84 (.map (some b)) (.int .u64 (s : Int)) true).run Try.prog w = .ok (.tuple #[.bool (p s), .bool true]) w ∨
    ((Instr.lookup 84 (.map (some b)) (.int .u64 (s : Int)) true).run Try.prog w = .ok (.tuple #[.bool false, .bool false]) w ∧
      ∃ (n : Nat) (D : DataW Unit), n ≤ 512 ∧ (∀ w' : World, w'.heap[b]? = w.heap[b]? → w'.ownsMap Try.prog 106 (plainElem Try.prog 4) b n D) ∧ ∀ w' : World, w'.ownsMap Try.prog 106 (plainElem Try.prog 4) b (n + 1) (D.put (.int .u64 (s : Int)) (.lit (.bool (p s)))) → Memo p N b w') := by
  obtain ⟨K, D, ho, hm, hh, ha⟩ := h
  obtain ⟨v, ps, hrun, hv⟩ := ho.look_ok setKeyed Try.underlying84 (zeroB w) (plainElem_bool Try.underlying4 false) (set_key (show s < 512 by omega))
  obtain ⟨x, rfl, hx⟩ := plainElem_bool_inv hv
  rw [hh s hs] at hrun
  cases hk : K s with
  | true =>
    rw [hk] at hrun
    rw [ha s hs hk] at hx
    simp at hx
    rw [← hx.1] at hrun
    exact Or.inl hrun
  | false =>
    rw [hk] at hrun
    have h0 := Go.Maps.atKey_of_not_has (show Go.Maps.has D (.int .u64 (s : Int)) = false by rw [hh s hs, hk]) (.lit (.bool false))
    rw [h0] at hx
    simp at hx
    rw [hx.1] at hrun
    refine Or.inr ⟨hrun, cnt K N, D, Nat.le_trans (cnt_le K N) hN, fun w' e => ?_, fun w' ho' => ?_⟩
    · obtain ⟨es, clock, hb, F, hs, hD⟩ := ho
      exact ⟨es, clock, e.trans hb, F, hs, hD⟩
    · refine ⟨fun t => decide (t = s) || K t, _, by rw [cnt_put (K := K) hs hk (by simp) (fun t ht => by simp [ht])]; exact ho', hm.put _ _, fun t ht => ?_, fun t ht hkt zd => ?_⟩
      · by_cases e : t = s
        · subst e; rw [Go.Maps.has_put_same hm (setKeyed.key (set_key (show t < 512 by omega)))]; simp
        · rw [Go.Maps.has_put_other (set_key_ne e), hh t ht]; simp [e]
      · by_cases e : t = s
        · subst e; rw [Go.Maps.atKey_put_same hm (setKeyed.key (set_key (show t < 512 by omega)))]
        · simp [e] at hkt
          rw [Go.Maps.atKey_put_other (set_key_ne e), ha t ht hkt]

/-- Block g is the box of an assembly: its members, its function, its map in block b. -/
def AsmBox (n : Nat) (k : Nat) (first cap : Array Value) (b : Nat) (w : World) (g : Nat) : Prop := w.heap[g]? = some (.cells #[.int .i64 n, .func (.func k) first cap, .map (some b)] 86 (0, 0))
theorem AsmBox.cells {n k b g : Nat} {first cap : Array Value} {w : World} (h : AsmBox n k first cap b w g) : w.cell? ⟨g, 0, none⟩ = some (.int .i64 n) ∧ w.cell? ⟨g, 1, none⟩ = some (.func (.func k) first cap) ∧ w.cell? ⟨g, 2, none⟩ = some (.map (some b)) := by
  unfold AsmBox at h; exact ⟨by simp [World.cell?, h], by simp [World.cell?, h], by simp [World.cell?, h]⟩
theorem AsmBox.lt {n k b g : Nat} {first cap : Array Value} {w : World} (h : AsmBox n k first cap b w g) : g < w.heap.size := (Array.getElem?_eq_some_iff.1 h).1

/-- An assembly of n members in block g, in which the sets of the kind p win; its map is block b; its function was made in world w0. -/
structure Asm (p : Nat → Bool) (n g b : Nat) (w0 w : World) : Prop where
  box : ∃ k first cap, AsmBox n k first cap b w g ∧ Asks p k first cap n w0
  memo : Memo p (2^n) b w
  below : Below w0.heap.size w0 w
  gw : w0.heap.size ≤ g
  bw : w0.heap.size ≤ b
  ne : g ≠ b
theorem Asm.glt {p : Nat → Bool} {n g b : Nat} {w0 w : World} (h : Asm p n g b w0 w) : g < w.heap.size := by
  obtain ⟨k, first, cap, hx, _⟩ := h.box
  exact hx.lt
theorem Asm.keep {p : Nat → Bool} {n g b B : Nat} {w0 w w' : World} (h : Asm p n g b w0 w) (hb : Below B w w') (hg : g < B) (hbB : b < B) : Asm p n g b w0 w' := by
  obtain ⟨⟨k, first, cap, hx, ha⟩, hm, hbl, h1, h2, h3⟩ := h
  exact ⟨⟨k, first, cap, (hb.block g hg).trans hx, ha⟩, hm.kept (hb.block b hbB), hbl.trans (hb.mono (by omega)), h1, h2, h3⟩
theorem Asm.now {p : Nat → Bool} {n g b : Nat} {w0 w w' : World} (h : Asm p n g b w0 w) (hb : Below w.heap.size w w') : Asm p n g b w0 w' := h.keep hb h.glt h.memo.lt

set_option maxHeartbeats 2000000 in
theorem awins_any (p : Nat → Bool) (n g b s : Nat) (w0 w : World) (hn : n < 10) (hs : s < 2^n) (h : Asm p n g b w0 w) :
    Calls Try.prog 57 #[.pointer (some ⟨g, 0, none⟩), .int .u64 s] w fun e w' => e = .returned (.bool (p s)) ∧ Asm p n g b w0 w' ∧ w.grownBy w' (some b) := by
  have h512 := pow_lt (n := n) (by omega)
  have HH := Lib.hid h
  obtain ⟨⟨k, first, cap, hx, ha⟩, hm, hbl, h1, h2, h3⟩ := h
  have HX := Lib.hid hx
  have HS := Lib.hid hs
  have hs5 : s < 512 := by omega
  obtain ⟨c0, c1, c2⟩ := hx.cells
  have eg := ha.enters
  have hgl := hx.lt
  have hbl2 := hm.lt
  have HC := Lib.hid (ha.gives w s hs hbl)
  have HAK := Lib.hid ha
  rcases hm.look h512 hs with hl | ⟨hl, nn, D, hnn, hown, hput⟩
  · clear hx ha hm hbl hs h512 HC
    go_enter Try.func57, Try.ntmps57
    go_wp2
    go_ret
    exact ⟨rfl, HH.out, World.grownBy.refl _ _⟩
  · have HOWN := Lib.hid hown
    have HPUT := Lib.hid hput
    clear hx ha hm hbl hs h512 hown hput
    go_enter Try.func57, Try.ntmps57
    go_wp2_with (first
      | (go_at_fn k; refine HC.out.mono ?_; rintro e w1 ⟨rfl, hb1⟩; have HB1 := Lib.hid hb1; obtain ⟨d0, d1, d2⟩ := AsmBox.cells (show AsmBox n k first cap b w1 g from (hb1.block g hgl).trans HX.out); have HO1 := Lib.hid (HOWN.out w1 (hb1.block b hbl2)); clear hb1)
      | (at_mapUpdate; refine wpList_mapUpdate_own _ rfl _ _ _ 84 rfl 106 4 setKeyed Try.underlying84 _ b nn D rfl HO1.out (by unfold maxLen; omega) _ _ (.int .u64 (s : Int)) rfl rfl (set_key hs5) (.lit (.bool (p s))) [] (plainElem_bool Try.underlying4 (p s)) ?_; intro w2 hown2 hgrow2)
      | fail)
    have HG2 := Lib.hid (gcons HB1.out hgrow2)
    have HM2 := Lib.hid (HPUT.out w2 hown2)
    have HA2 := Lib.hid (show Asm p n g b w0 w2 from ⟨⟨k, first, cap, (hgrow2.block g (Nat.lt_of_lt_of_le hgl HB1.out.size) (by simp; omega)).trans ((HB1.out.block g hgl).trans HX.out), HAK.out⟩, HM2.out, (HH.out.below.trans (HB1.out.mono (by omega))).grown hgrow2 (by have := HH.out.below.size; have := HB1.out.size; omega) (fun j hj => by simp at hj; omega), h1, h2, h3⟩)
    clear hown2 hgrow2
    go_wp2
    go_ret
    exact ⟨rfl, HA2.out, HG2.out⟩

theorem awins_enters : ∀ args W, (callFunc 57 args).run Try.prog W = .ok (.enter 57 args) W := enters_of Try.func57 (by kernel_rfl) rfl
theorem awins_asks (p : Nat → Bool) (n g b B : Nat) (w0 : World) (hn : n < 10) (hg : g < B) (hb : b < B) :
    AsksR p 57 #[.pointer (some ⟨g, 0, none⟩)] #[] n B (some b) (fun W => Asm p n g b w0 W ∧ B ≤ W.heap.size) :=
  ⟨awins_enters, fun r hr => by simp at hr; omega, fun W W' h k => ⟨h.1.keep k hg hb, Nat.le_trans h.2 k.size⟩, fun W h => h.2,
   fun W s hs h => (awins_any p n g b s w0 W hn hs h.1).mono fun e W' ⟨he, h1, h2⟩ => ⟨he, ⟨h1, Nat.le_trans h.2 h2.size⟩, h2⟩⟩

set_option maxHeartbeats 1000000 in
theorem newAssembly_any (p : Nat → Bool) (n k : Nat) (first cap : Array Value) (w : World) (ha : Asks p k first cap n w) :
    Calls Try.prog 88 #[.int .i64 n, .func (.func k) first cap] w fun e w' => ∃ g b, e = .returned (.pointer (some ⟨g, 0, none⟩)) ∧ Asm p n g b w w' ∧ Below w.heap.size w w' := by
  have hmm := @run_makeMap Try.prog
  have HA := Lib.hid ha
  have HM := Lib.hid (Memo.made p (2^n) w)
  clear ha
  go_enter Try.func88, Try.ntmps88
  go_wp2
  go_ret
  refine ⟨w.heap.size + 1, w.heap.size, by simp, ?_, (below1 w _).alloc (by simp) _⟩
  refine ⟨⟨k, first, cap, ?_, HA.out⟩, HM.out.kept (Below.heap_alloc _ _ _ (by simp)), (below1 w _).alloc (by simp) _, by omega, Nat.le_refl _, by omega⟩
  have := heap_alloc_new (w.alloc (.map #[] 0)) (.cells #[.int .i64 n, .func (.func k) first cap, .map (some w.heap.size)] 86)
  simpa [AsmBox] using this

end Go.Proofs.Ytkckefjpkhjeaab
