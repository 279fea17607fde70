/- A clue more: the program's side. -/
import Derived.Test.YtnldodnpakpeeaaGf
import Derived.Outline
namespace Go.Proofs.Ytnldodnpakpeeaa
open Go.RowKit Vo

theorem owns_base2 {w : World} {base base' : Nat} {e : TypeId} {size : Nat} {v : Value} {n : Nat} {xs : List Value} (h : w.ownsRow base e size v n xs) (hb : base' ≤ base) : w.ownsRow base' e size v n xs := by
  obtain ⟨h1, h2⟩ := h
  refine ⟨h1, ?_⟩
  rcases h2 with h2 | ⟨g', cap', cur, hv, hg, hh, r⟩
  · exact Or.inl h2
  · exact Or.inr ⟨g', cap', cur, hv, Nat.le_trans hb hg, hh, r⟩
theorem box_put2 {t : TypeId} {w : World} {g : Nat} {u v : Value} (h : BoxT t w g u v) (b : Value) : BoxT t (w.setCell ⟨g, 1, none⟩ b) g u b := by
  unfold BoxT at *
  simp [World.setCell, Array.getElem?_modify, h]
theorem box_far2 {t : TypeId} {w : World} {g : Nat} {u v : Value} (h : BoxT t w g u v) {p : Addr} (hp : g ≠ p.block) (b : Value) : BoxT t (w.setCell p b) g u v := by
  unfold BoxT at *; exact (Below.heap_setCell w p b g hp).trans h
theorem box_soft2 {t : TypeId} {w : World} {g : Nat} {u v : Value} (h : BoxT t w g u v) : w.frozen? ⟨g, 0, none⟩ = false ∧ w.frozen? ⟨g, 1, none⟩ = false := by
  unfold BoxT at h; exact ⟨by simp [World.frozen?, h], by simp [World.frozen?, h]⟩

set_option maxRecDepth 20000 in
set_option maxHeartbeats 4000000 in
theorem readPuzzle_no (m : Int) (A : Option Addr) (n cap : Nat) (C : List Clu) (w : World) (hl : n ≤ 1048576) (hk : KCl w A n C) (hp : puzB m C = false) :
    Calls Try.prog 52 #[.agg #[.int .i64 m, .slice A n cap]] w fun e w' => e = .returned (.tuple #[.agg #[.int .i64 0, .slice none 0 0], .bool false]) ∧ Below w.heap.size w w' := by
  have hb2 : Below w.heap.size w ((w.alloc (.cells #[.int .i64 m, .slice A n cap] 28)).alloc (.cells #[.int .i64 0, .slice none 0 0] 28)) := (below1 w _).alloc (by simp) _
  have hx := (BoxT.new 28 w (.int .i64 m) (.slice A n cap)).alloc (.cells #[.int .i64 0, .slice none 0 0] 28)
  have hr := BoxT.new 28 (w.alloc (.cells #[.int .i64 m, .slice A n cap] 28)) (.int .i64 0) (.slice none 0 0)
  simp only [World.size_alloc] at hr
  obtain ⟨c0, c1⟩ := hx.cells
  have HK := Lib.hid (hk.now hb2)
  have HP := Lib.hid (iIsPuzzle_any m A n cap C _ (by omega) HK.out)
  rw [hp] at HP
  clear hk hp
  go_enter Try.func52, Try.ntmps52
  go_wp2_with fail
  refine HP.out.mono ?_
  rintro e w1 ⟨rfl, hb1⟩
  have hr1 := hr.now hb1
  have b1 := bfrom hb2 hb1
  have hz1 := b1.size
  obtain ⟨f0, f1⟩ := box_soft2 hr1
  obtain ⟨r0, r1⟩ := hr1.cells
  clear c0 c1 hx hr hb1 hb2
  go_wp2
  refine bodyPost_ret (v := .tuple #[.agg #[.int .i64 0, .slice none 0 0], .bool false]) (by simp [results, Try.results52, go_sem, r0, r1]) rfl ⟨rfl, ?_⟩
  exact (b1.setCell (by simp) _).setCell (by simp) _

def addB (m : Int) (C : List Clu) (c : Clu) : Bool := puzB m C && puzB m (C ++ [c])
theorem puzB_le {m : Int} {C : List Clu} (h : puzB m C = true) : C.length ≤ 8 := by
  rcases Nat.lt_or_ge 8 C.length with h1 | h1
  · rw [puzB_long (by omega)] at h; cases h
  · exact h1
/-- What readPuzzle gives, be it a puzzle or not. -/
theorem readPuzzle_any (m : Int) (A : Option Addr) (n cap : Nat) (C : List Clu) (w : World) (hl : n ≤ 1048576) (hk : KCl w A n C) :
    Calls Try.prog 52 #[.agg #[.int .i64 m, .slice A n cap]] w fun e w' => ∃ (m' : Int) (A' : Option Addr) (n' cp' : Nat) (C' : List Clu), e = .returned (.tuple #[.agg #[.int .i64 m', .slice A' n' cp'], .bool (puzB m C)]) ∧ C'.length = n' ∧ n' ≤ 8 ∧ OwnCl w' w.heap.size (.slice A' n' cp') C' ∧ Below w.heap.size w w' ∧ (puzB m C = true → m' = m ∧ C' = C) := by
  cases hp : puzB m C with
  | false =>
    refine (readPuzzle_no m A n cap C w hl hk hp).mono ?_
    rintro e w' ⟨rfl, hb⟩
    exact ⟨0, none, 0, 0, [], rfl, rfl, by omega, World.ownsRow_nil _ _ _ _, hb, fun h => by cases h⟩
  | true =>
    refine (readPuzzle_yes m A n cap C w hl hk hp).mono ?_
    rintro e w' ⟨g, rfl, ho, hb⟩
    exact ⟨m, _, n, n, C, rfl, hk.1, by have := puzB_le hp; have := hk.1; omega, ho, hb, fun _ => ⟨rfl, rfl⟩⟩
theorem ansP_no {w w' : World} (hb : Below w.heap.size w w') : AnsP 0 [] false w w' (.returned (.tuple #[.agg #[.int .i64 0, .slice none 0 0], .bool false])) :=
  ⟨none, 0, rfl, RCl.lies ⟨none, 0, rfl, Or.inl rfl⟩ (Nat.le_refl _), hb⟩
theorem ansP_yes {w w' : World} {m : Int} {C : List Clu} {A : Option Addr} {n cap : Nat} (hn : C.length = n) (ho : OwnCl w' w.heap.size (.slice A n cap) C) (hb : Below w.heap.size w w') : AnsP m C true w w' (.returned (.tuple #[.agg #[.int .i64 m, .slice A n cap], .bool true])) := by
  subst hn
  exact ⟨A, cap, rfl, OwnCl.rcl rfl ho, hb⟩

end Go.Proofs.Ytnldodnpakpeeaa
