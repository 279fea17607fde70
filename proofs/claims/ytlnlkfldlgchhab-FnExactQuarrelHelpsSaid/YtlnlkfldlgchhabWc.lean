/- Contracts of the program's AddDummy, AddVeto: a member more. -/
import Derived.Test.YtlnlkfldlgchhabD1
import Derived.Test.YtlnlkfldlgchhabR4
import Derived.Test.YtlnlkfldlgchhabG1
import Derived.Outline
namespace Go.Proofs.Ytlnlkfldlgchhab
open Go.RowKit Vo

/-- The first n weights and one more. -/
def addL (ws : List Int) (n : Nat) (x : Int) : List Int := ((List.range n).map fun j => ws.getD j 0) ++ [x]
theorem addL_len (ws : List Int) (n : Nat) (x : Int) : (addL ws n x).length = n + 1 := by simp [addL]
theorem addL_at {ws : List Int} {n : Nat} {x : Int} {j : Nat} (h : j < n) : (addL ws n x).getD j 0 = ws.getD j 0 := by
  simp [addL, List.getD_eq_getElem?_getD, List.getElem?_append, h]
theorem addL_end (ws : List Int) (n : Nat) (x : Int) : (addL ws n x).getD n 0 = x := by
  simp [addL, List.getD_eq_getElem?_getD]
theorem addL_cells (ws : List Int) (n : Nat) (x : Int) : ((List.range n).map fun j => Value.int .i64 (ws.getD j 0)) ++ [Value.int .i64 x] = (addL ws n x).map (Value.int .i64) := by
  simp [addL]
theorem addL_cell {ws : List Int} {n : Nat} {x : Int} {i : Nat} (h : i < n + 1) : ((addL ws n x).map (Value.int .i64))[i]? = some (.int .i64 ((addL ws n x).getD i 0)) := by
  have : i < (addL ws n x).length := by rw [addL_len]; exact h
  simp [List.getD_eq_getElem?_getD, this]
theorem sumK_addL {ws : List Int} {n : Nat} {x : Int} : ∀ {k}, k ≤ n → sumK (addL ws n x) k = sumK ws k
  | 0, _ => rfl
  | k+1, h => by simp only [sumK]; rw [sumK_addL (by omega), addL_at (by omega)]
theorem sumK_addL1 (ws : List Int) (n : Nat) (x : Int) : sumK (addL ws n x) (n+1) = sumK ws n + x := by
  simp only [sumK]; rw [sumK_addL (Nat.le_refl _), addL_end]

/-- A committee with a member more, if it is one. -/
def moreOk (q' : Int) (ws : List Int) (n : Nat) (x : Int) : Bool := goodB q' (addL ws n x) (n+1)
def moreQ (q' : Int) (ws : List Int) (n : Nat) (x : Int) : Int := if moreOk q' ws n x then q' else 0
def moreN (q' : Int) (ws : List Int) (n : Nat) (x : Int) : Nat := if moreOk q' ws n x then n + 1 else 0
theorem moreQ_yes {q' ws n x} (h : moreOk q' ws n x = true) : moreQ q' ws n x = q' := if_pos h
theorem moreQ_no {q' ws n x} (h : moreOk q' ws n x = false) : moreQ q' ws n x = 0 := if_neg (by rw [h]; simp)
theorem moreN_yes {q' ws n x} (h : moreOk q' ws n x = true) : moreN q' ws n x = n + 1 := if_pos h
theorem moreN_no {q' ws n x} (h : moreOk q' ws n x = false) : moreN q' ws n x = 0 := if_neg (by rw [h]; simp)

set_option maxHeartbeats 1000000 in
theorem checked_yes (q : Int) (A : Option Addr) (n cap : Nat) (ws : List Int) (w : World) (hm : n ≤ 9223372036854775807) (hk : Known w A n ws) (hg : goodB q ws n = true) :
    Calls Try.prog 139 #[.agg #[.int .i64 q, .slice A n cap]] w fun e w' => e = .returned (.tuple #[.agg #[.int .i64 q, .slice A n cap], .bool true]) ∧ Below w.heap.size w w' := by
  have HK := Lib.hid hk
  have HG := Lib.hid hg
  clear hk hg
  have hb0 : Below w.heap.size w ((w.alloc (.cells #[.int .i64 q, .slice A n cap] 29)).alloc (.cells #[.int .i64 0, .slice none 0 0] 29)) := (below1 w _).alloc (by simp) _
  have hx := (Box.new w (.int .i64 q) (.slice A n cap)).alloc (.cells #[.int .i64 0, .slice none 0 0] 29)
  have hr := Box.new (w.alloc (.cells #[.int .i64 q, .slice A n cap] 29)) (.int .i64 0) (.slice none 0 0)
  simp only [World.size_alloc] at hr
  have KF := Lib.hid (show ∀ W, BoxT 29 W (w.heap.size + 1) (.int .i64 0) (.slice none 0 0) → (W.frozen? ⟨w.heap.size + 1, 0, none⟩ = false ∧ W.frozen? ⟨w.heap.size + 1, 1, none⟩ = false) from fun W h => by unfold BoxT at h; exact ⟨by simp [World.frozen?, h], by simp [World.frozen?, h]⟩)
  go_enter Try.func139, Try.ntmps139
  go_wp2_with fail
  refine (isCommittee_any q A n cap ws _ hm (HK.out.now hb0)).mono ?_
  rintro e w1 ⟨rfl, hb⟩
  rw [HG.out]
  have g1 := bfrom hb0 hb
  obtain ⟨c0, c1⟩ := (hx.now hb).cells
  obtain ⟨d0, d1⟩ := (hr.now hb).cells
  obtain ⟨f0, f1⟩ := KF.out _ (hr.now hb)
  clear hx hr hb0
  go_wp2
  refine bodyPost_ret (v := .tuple #[.agg #[.int .i64 q, .slice A n cap], .bool true]) (by simp [results, Try.results139, go_sem, d0, d1]) rfl ⟨rfl, ?_⟩
  exact (g1.setCell (by simp) _).setCell (by simp) _

set_option maxHeartbeats 1000000 in
theorem checked_no (q : Int) (A : Option Addr) (n cap : Nat) (ws : List Int) (w : World) (hm : n ≤ 9223372036854775807) (hk : Known w A n ws) (hg : goodB q ws n = false) :
    Calls Try.prog 139 #[.agg #[.int .i64 q, .slice A n cap]] w fun e w' => e = .returned (.tuple #[.agg #[.int .i64 0, .slice none 0 0], .bool false]) ∧ Below w.heap.size w w' := by
  have HK := Lib.hid hk
  have HG := Lib.hid hg
  clear hk hg
  have hb0 : Below w.heap.size w ((w.alloc (.cells #[.int .i64 q, .slice A n cap] 29)).alloc (.cells #[.int .i64 0, .slice none 0 0] 29)) := (below1 w _).alloc (by simp) _
  have hr := Box.new (w.alloc (.cells #[.int .i64 q, .slice A n cap] 29)) (.int .i64 0) (.slice none 0 0)
  simp only [World.size_alloc] at hr
  have KF := Lib.hid (show ∀ W, BoxT 29 W (w.heap.size + 1) (.int .i64 0) (.slice none 0 0) → (W.frozen? ⟨w.heap.size + 1, 0, none⟩ = false ∧ W.frozen? ⟨w.heap.size + 1, 1, none⟩ = false) from fun W h => by unfold BoxT at h; exact ⟨by simp [World.frozen?, h], by simp [World.frozen?, h]⟩)
  go_enter Try.func139, Try.ntmps139
  go_wp2_with fail
  refine (isCommittee_any q A n cap ws _ hm (HK.out.now hb0)).mono ?_
  rintro e w1 ⟨rfl, hb⟩
  rw [HG.out]
  have g1 := bfrom hb0 hb
  obtain ⟨d0, d1⟩ := (hr.now hb).cells
  obtain ⟨f0, f1⟩ := KF.out _ (hr.now hb)
  clear hr hb0
  go_wp2
  refine bodyPost_ret (v := .tuple #[.agg #[.int .i64 0, .slice none 0 0], .bool false]) (by simp [results, Try.results139, go_sem, d0, d1]) rfl ⟨rfl, ?_⟩
  exact (g1.setCell (by simp) _).setCell (by simp) _

theorem owns_set1 {w : World} {base : Nat} {e : TypeId} {size : Nat} {v : Value} {n : Nat} {xs : List Value} (h : w.ownsRow base e size v n xs) {p : Addr} (hn : ∀ j, v.ownBlock = some j → j ≠ p.block) (u : Value) : (w.setCell p u).ownsRow base e size v n xs := by
  obtain ⟨h1, h2⟩ := h
  refine ⟨h1, ?_⟩
  rcases h2 with h2 | ⟨g, cap, cur, hv, hg, hh, r⟩
  · exact Or.inl h2
  · exact Or.inr ⟨g, cap, cur, hv, hg, (Below.heap_setCell w p u g (hn g (by rw [hv]; rfl))).trans hh, r⟩
theorem addL_row {w : World} {base gg n cap : Nat} {ws : List Int} {x : Int} (h : w.ownsRow base 3 1 (.slice (some ⟨gg, 0, none⟩) (n + 1) cap) (n + 1) ((addL ws n x).map (Value.int .i64))) : Ints w gg (n + 1) (addL ws n x) :=
  Own.of_own h fun _ hi => addL_cell hi

/-- A committee, and with a member more it is one still. -/
def addOk (q q' : Int) (ws : List Int) (n : Nat) (x : Int) : Bool := goodB q ws n && moreOk q' ws n x
def addQ (q q' : Int) (ws : List Int) (n : Nat) (x : Int) : Int := if addOk q q' ws n x then q' else 0
def addN (q q' : Int) (ws : List Int) (n : Nat) (x : Int) : Nat := if addOk q q' ws n x then n + 1 else 0
theorem addOk_good {q q' ws n x} (h : goodB q ws n = true) : addOk q q' ws n x = moreOk q' ws n x := by unfold addOk; rw [h, Bool.true_and]
theorem addQ_good {q q' ws n x} (h : goodB q ws n = true) : addQ q q' ws n x = moreQ q' ws n x := by unfold addQ moreQ; rw [addOk_good h]
theorem addN_good {q q' ws n x} (h : goodB q ws n = true) : addN q q' ws n x = moreN q' ws n x := by unfold addN moreN; rw [addOk_good h]
theorem addOk_no {q q' ws n x} (h : goodB q ws n = false) : addOk q q' ws n x = false := by unfold addOk; rw [h, Bool.false_and]
theorem addQ_no {q q' ws n x} (h : goodB q ws n = false) : addQ q q' ws n x = 0 := if_neg (by rw [addOk_no h]; simp)
theorem addN_no {q q' ws n x} (h : goodB q ws n = false) : addN q q' ws n x = 0 := if_neg (by rw [addOk_no h]; simp)
theorem addN_le (q q' : Int) (ws : List Int) (n : Nat) (x : Int) : addN q q' ws n x ≤ 9 := by
  unfold addN
  cases h : addOk q q' ws n x with
  | false => simp
  | true =>
    unfold addOk moreOk at h
    simp at h
    have := h.2
    unfold goodB at this
    have := (of_decide_eq_true this).hi
    simp; omega
theorem dumN_le (q : Int) (ws : List Int) (n : Nat) : addN q q ws n 0 ≤ 9 := addN_le _ _ _ _ _
theorem vetoN_le (q : Int) (ws : List Int) (n : Nat) : addN q (q + sumK ws n) ws n (sumK ws n) ≤ 9 := addN_le _ _ _ _ _
theorem held_far {base base' : Nat} {w : World} {A : Option Addr} {m : Nat} {L : List Int} (h : Held base' w A m L) (hb : base ≤ base') {p p' : Addr} (hp : p.block < base') (hp' : p'.block < base') {u u' : Value} : Held base ((w.setCell p u).setCell p' u') A m L := by
  rcases h with h | ⟨g, hA, hg, hi⟩
  · exact Or.inl h
  · exact Or.inr ⟨g, hA, by omega, (hi.far (by omega) _).far (by omega) _⟩
theorem comAt_now {q' : Int} {m : Nat} {L : List Int} {ok : Bool} {w w0 w1 : World} {e : Ending} (h : ComAt q' m L ok w0 w1 e) (hb : Below w.heap.size w w0) : ComAt q' m L ok w w1 e := by
  obtain ⟨A, cap, he, hh, hb2⟩ := h
  refine ⟨A, cap, he, ?_, bfrom hb hb2⟩
  rcases hh with hh | ⟨g, hA, hg, hi⟩
  · exact Or.inl hh
  · exact Or.inr ⟨g, hA, Nat.le_trans hb.size hg, hi⟩

end Go.Proofs.Ytlnlkfldlgchhab
