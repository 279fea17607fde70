/- Desire: who is worth whom, told plainly; the program's isWorth, readPair, IsWorth, CompareMembers, AreUnlike. -/
import Derived.Test.YtgilbenbaefgfaaGreatJ2
import Derived.Test.YtgilbenbaefgfaaGreatDy
import Derived.Deep.RegionHeld3
import Derived.Outline
namespace Go.Proofs.YtgilbenbaefgfaaGreat
open Go.RowKit Vo

def duoB (m : Int) (L : List (List Int)) (x y : Int) : Bool := goodG m L && (inB x 0 (m-1) && (inB y 0 (m-1) && decide (x ≠ y)))
theorem duoB_parts {m : Int} {L : List (List Int)} {x y : Int} (h : duoB m L x y = true) : goodG m L = true ∧ (0 ≤ x ∧ x < m) ∧ (0 ≤ y ∧ y < m) ∧ x ≠ y := by
  unfold duoB inB at h
  simp only [Bool.and_eq_true, decide_eq_true_eq] at h
  exact ⟨h.1, ⟨h.2.1.1, by omega⟩, ⟨h.2.2.1.1, by omega⟩, h.2.2.2⟩
/-- Of two members of a game: is the first one worth the second one? -/
def worthG (m : Int) (L : List (List Int)) (x y : Int) : Bool := duoB m L x y && worthP (winS (setsN L)) m.toNat x.toNat y.toNat
def worthH (m : Int) (L : List (List Int)) (x y : Int) : Bool := duoB m L x y && worthP (winS (setsN L)) m.toNat y.toNat x.toNat
def cmpV (m : Int) (L : List (List Int)) (x y : Int) : Int := if worthG m L x y then (if worthH m L x y then 0 else 1) else if worthH m L x y then -1 else 0
def cmpT (m : Int) (L : List (List Int)) (x y : Int) : Bool := worthG m L x y || worthH m L x y
def unlT (m : Int) (L : List (List Int)) (x y : Int) : Bool := duoB m L x y && (!worthG m L x y && !worthH m L x y)
theorem worthG_no {m : Int} {L : List (List Int)} {x y : Int} (h : duoB m L x y = false) : worthG m L x y = false := by unfold worthG; rw [h]; rfl
theorem worthH_no {m : Int} {L : List (List Int)} {x y : Int} (h : duoB m L x y = false) : worthH m L x y = false := by unfold worthH; rw [h]; rfl
theorem cmpV_no {m : Int} {L : List (List Int)} {x y : Int} (h : duoB m L x y = false) : cmpV m L x y = 0 := by unfold cmpV; rw [worthG_no h, worthH_no h]; rfl
theorem cmpT_no {m : Int} {L : List (List Int)} {x y : Int} (h : duoB m L x y = false) : cmpT m L x y = false := by unfold cmpT; rw [worthG_no h, worthH_no h]; rfl
theorem unlT_no {m : Int} {L : List (List Int)} {x y : Int} (h : duoB m L x y = false) : unlT m L x y = false := by unfold unlT; rw [h]; rfl
theorem worthG_yes {q i j : Nat} {L : List (List Int)} (h : duoB (q : Int) L (i : Int) (j : Int) = true) : worthG (q : Int) L (i : Int) (j : Int) = worthP (winS (setsN L)) q i j := by unfold worthG; rw [h]; simp
theorem worthH_yes {q i j : Nat} {L : List (List Int)} (h : duoB (q : Int) L (i : Int) (j : Int) = true) : worthH (q : Int) L (i : Int) (j : Int) = worthP (winS (setsN L)) q j i := by unfold worthH; rw [h]; simp

set_option maxHeartbeats 2000000 in
theorem gIsWorth_any (S : List Nat) (n i j base k cap : Nat) (A : Option Addr) (w : World) (hn : n ≤ 9) (hi : i < n) (hj : j < n) (hk : k = S.length) (hkm : k ≤ 1048576) (hS : ∀ t ∈ S, t < 512) (h1 : w.ownsRow base 68 1 (.slice A k cap) k (setsV S)) :
    Calls Tryz.prog 67 #[.agg #[.int .i64 n, .slice A k cap], .int .i64 i, .int .i64 j] w fun e w' => e = .returned (.bool (worthP (winS S) n i j)) ∧ Below w.heap.size w w' := by
  have b1 := below1 w (.cells #[.int .i64 n, .slice A k cap] 55)
  have x1 := BoxT.new 55 w (.int .i64 n) (.slice A k cap)
  have b2 := b1.alloc (by simp) (.cells #[.int .i64 i] 3)
  have x2 := Box1.new 3 (w.alloc (.cells #[.int .i64 n, .slice A k cap] 55)) (.int .i64 i)
  have x1' := x1.alloc (.cells #[.int .i64 i] 3)
  have b3 := b2.alloc (by simp; omega) (.cells #[.int .i64 j] 3)
  have x3 := Box1.new 3 ((w.alloc (.cells #[.int .i64 n, .slice A k cap] 55)).alloc (.cells #[.int .i64 i] 3)) (.int .i64 j)
  have x2' := x2.alloc (.cells #[.int .i64 j] 3)
  have x1'' := x1'.alloc (.cells #[.int .i64 j] 3)
  simp only [World.size_alloc] at x2' x3
  have HA := Lib.hid (show Asks (worthS (winS S) i j) 90 #[] #[.pointer (some ⟨w.heap.size + 1, 0, none⟩), .pointer (some ⟨w.heap.size + 1 + 1, 0, none⟩), .pointer (some ⟨w.heap.size, 0, none⟩)] n _ from
    ⟨enters_of Tryz.func90 (by kernel_rfl) rfl, fun W s h hb => isWorth1_any S n n i j s base k cap _ _ _ A W hn hi hj h hk hkm hS (owns_now h1 (bfrom b3 hb)) (x2'.now hb) (x3.now hb) (x1''.now hb)⟩)
  have HB := Lib.hid (areAllSets_any (worthS (winS S) i j) _ _ _ n _ (by omega) HA.out)
  obtain ⟨c0, c1⟩ := x1''.cells
  clear h1 hk hS x1 x1' x1'' x2 x2' x3 b1 b2
  obtain ⟨r, hr⟩ : ∃ r, r = worthP (winS S) n i j := ⟨_, rfl⟩
  have HR := Lib.hid (show allK (worthS (winS S) i j) (2^n) = r from hr.symm)
  rw [HR.out] at HB
  rw [← hr]
  clear hr
  go_enter Tryz.func67, Tryz.ntmps67
  go_wp2_with fail
  refine HB.out.mono ?_
  rintro e w3 ⟨rfl, hb3⟩
  go_wp2
  go_ret
  exact ⟨rfl, bfrom b3 hb3⟩

theorem duoB_mem (m : Int) (L : List (List Int)) (x y : Int) : duoB m L x y = (memG m L x && (inB y 0 (m-1) && decide (x ≠ y))) := by unfold duoB memG; rw [Bool.and_assoc]
theorem BoxT.put {t : TypeId} {w : World} {g : Nat} {x y : Value} (h : BoxT t w g x y) (a b : Value) : BoxT t ((w.setCell ⟨g, 0, none⟩ a).setCell ⟨g, 1, none⟩ b) g a b := by
  unfold BoxT at *
  simp [World.setCell, Array.getElem?_modify, h]
theorem frozen_boxT {t : TypeId} {w : World} {g : Nat} {a b : Value} (h : BoxT t w g a b) : w.frozen? ⟨g, 0, none⟩ = false ∧ w.frozen? ⟨g, 1, none⟩ = false := by
  unfold BoxT at h; exact ⟨by simp [World.frozen?, h], by simp [World.frozen?, h]⟩
theorem kept2a {t t' : TypeId} {w : World} {p g : Nat} {u v x y : Value} (hx : BoxT t w p u v) (hr : BoxT t' w g x y) :
    w.cell? ⟨p, 0, none⟩ = some u ∧ w.cell? ⟨p, 1, none⟩ = some v ∧ (w.cell? ⟨g, 0, none⟩).isSome = true ∧ (w.cell? ⟨g, 1, none⟩).isSome = true ∧ w.frozen? ⟨g, 0, none⟩ = false ∧ w.frozen? ⟨g, 1, none⟩ = false := by
  obtain ⟨a0, a1⟩ := hx.cells
  obtain ⟨b0, b1⟩ := hr.cells
  obtain ⟨f0, f1⟩ := frozen_boxT hr
  exact ⟨a0, a1, by rw [b0]; rfl, by rw [b1]; rfl, f0, f1⟩
theorem kept2 {t t' : TypeId} {w : World} {p g : Nat} {u v x y a b : Value} (hx : BoxT t w p u v) (hr : BoxT t' w g x y) (hne : p ≠ g) :
    ((w.setCell ⟨g, 0, none⟩ a).setCell ⟨g, 1, none⟩ b).cell? ⟨p, 0, none⟩ = some u ∧ ((w.setCell ⟨g, 0, none⟩ a).setCell ⟨g, 1, none⟩ b).cell? ⟨p, 1, none⟩ = some v ∧ (((w.setCell ⟨g, 0, none⟩ a).setCell ⟨g, 1, none⟩ b).cell? ⟨g, 0, none⟩).isSome = true ∧ (((w.setCell ⟨g, 0, none⟩ a).setCell ⟨g, 1, none⟩ b).cell? ⟨g, 1, none⟩).isSome = true ∧ ((w.setCell ⟨g, 0, none⟩ a).setCell ⟨g, 1, none⟩ b).frozen? ⟨g, 0, none⟩ = false ∧ ((w.setCell ⟨g, 0, none⟩ a).setCell ⟨g, 1, none⟩ b).frozen? ⟨g, 1, none⟩ = false :=
  kept2a ((hx.far (p := ⟨g, 0, none⟩) hne a).far (p := ⟨g, 1, none⟩) hne b) (hr.put a b)
/-- Two members of a game read: who of them is worth the other. -/
def ReadP (m : Int) (L : List (List Int)) (x y : Int) (w w' : World) (e : Ending) : Prop :=
  e = .returned (.tuple #[.agg #[.bool (worthG m L x y), .bool (worthH m L x y)], .bool (duoB m L x y)]) ∧ Below w.heap.size w w'

set_option maxHeartbeats 2000000 in
theorem compare_any (a b : Bool) (w : World) :
    Calls Tryz.prog 91 #[.agg #[.bool a, .bool b]] w fun e w' => e = .returned (.tuple #[.int .i64 (if a then (if b then 0 else 1) else if b then -1 else 0), .bool (a || b)]) ∧ Below w.heap.size w w' := by
  have hb0 := below1 w (.cells #[.bool a, .bool b] 88)
  have hx := BoxT.new 88 w (.bool a) (.bool b)
  obtain ⟨c0, c1⟩ := hx.cells
  cases a
  all_goals cases b
  all_goals
    go_enter Tryz.func91, Tryz.ntmps91
    go_wp2
    go_ret2
    exact ⟨rfl, hb0⟩

set_option maxHeartbeats 2000000 in
theorem isUnlike_any (a b : Bool) (w : World) :
    Calls Tryz.prog 76 #[.agg #[.bool a, .bool b]] w fun e w' => e = .returned (.bool (!a && !b)) ∧ Below w.heap.size w w' := by
  have hb0 := below1 w (.cells #[.bool a, .bool b] 88)
  have hx := BoxT.new 88 w (.bool a) (.bool b)
  obtain ⟨c0, c1⟩ := hx.cells
  cases a
  all_goals cases b
  all_goals
    go_enter Tryz.func76, Tryz.ntmps76
    go_wp2
    go_ret
    exact ⟨rfl, hb0⟩

end Go.Proofs.YtgilbenbaefgfaaGreat
