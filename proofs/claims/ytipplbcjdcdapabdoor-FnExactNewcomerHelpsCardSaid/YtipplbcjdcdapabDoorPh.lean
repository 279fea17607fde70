/- Contracts of the program's quarrels. -/
import Derived.Test.YtipplbcjdcdapabDoorPd
import Derived.Test.YtipplbcjdcdapabDoorPf
namespace Go.Proofs.YtipplbcjdcdapabDoor
open Go.RowKit Vo

/-- A set wins if two members quarrel: it wins, and lacks one of them. -/
def quaP (p : Nat → Bool) (i j s : Nat) : Bool := p s && !(s.testBit i && s.testBit j)
/-- Are there a committee and two different members of it? -/
def pairOk (q : Int) (ws : List Int) (n : Nat) (x y : Int) : Bool := memOk q ws n x && memOk q ws n y && !(x == y)
theorem pairOk_parts {q ws n x y} (h : pairOk q ws n x y = true) : Vo.Good q ws n ∧ (0 ≤ x ∧ x < n) ∧ (0 ≤ y ∧ y < n) ∧ x ≠ y := by
  unfold pairOk at h
  simp at h
  obtain ⟨⟨h1, h2⟩, h3⟩ := h
  exact ⟨(memOk_parts h1).1, (memOk_parts h1).2, (memOk_parts h2).2, h3⟩
theorem both_part (s i j : Nat) : decide (s &&& (2^i ||| 2^j) = (2^i ||| 2^j)) = (s.testBit i && s.testBit j) := by
  rw [Bool.eq_iff_iff]
  simp only [decide_eq_true_eq, Bool.and_eq_true]
  constructor
  · intro h
    constructor
    · have := congrArg (fun t => t.testBit i) h
      simpa [Nat.testBit_and, Nat.testBit_or, Nat.testBit_two_pow_self] using this
    · have := congrArg (fun t => t.testBit j) h
      simpa [Nat.testBit_and, Nat.testBit_or, Nat.testBit_two_pow_self] using this
  · rintro ⟨h1, h2⟩
    apply Nat.eq_of_testBit_eq
    intro k
    rw [Nat.testBit_and, Nat.testBit_or, Nat.testBit_two_pow, Nat.testBit_two_pow]
    by_cases e1 : i = k
    · subst e1; simp [h1]
    · by_cases e2 : j = k
      · subst e2; simp [h2]
      · simp [e1, e2]

theorem or_pow0 (k : Nat) (hk : k < 10) : bits BinOp.or IntKind.u64 0 (IntKind.u64.wrap (2 ^ k)) = ((2 ^ k : Nat) : Int) := by
  have h := or_pow 0 k hk (by omega)
  rw [Nat.zero_or] at h
  exact h
set_option maxHeartbeats 400000 in
theorem with0_any (k : Nat) (w : World) (hk : k < 10) :
    Calls Tryd.prog 38 #[.int .u64 0, .int .i64 k] w fun e w' => e = .returned (.int .u64 ((2 ^ k : Nat) : Int)) ∧ w = w' := by
  go_enter Tryd.func38, Tryd.ntmps38
  go_wp2
  go_ret
  exact ⟨ret_int (or_pow0 k hk), rfl⟩
theorem frozen_box3 {t : TypeId} {w : World} {g : Nat} {a b c : Value} (h : Box3 t w g a b c) : w.frozen? ⟨g, 0, none⟩ = false ∧ w.frozen? ⟨g, 1, none⟩ = false ∧ w.frozen? ⟨g, 2, none⟩ = false := by
  unfold Box3 at h; exact ⟨by simp [World.frozen?, h], by simp [World.frozen?, h], by simp [World.frozen?, h]⟩

theorem Box3.put {t : TypeId} {w : World} {g : Nat} {x y z : Value} (h : Box3 t w g x y z) (a b c : Value) : Box3 t (((w.setCell ⟨g, 0, none⟩ a).setCell ⟨g, 1, none⟩ b).setCell ⟨g, 2, none⟩ c) g a b c := by
  unfold Box3 at *
  simp [World.setCell, Array.getElem?_modify, h]
theorem kept3 {t t' : TypeId} {w : World} {p g : Nat} {u v x y z a b c : Value} (hx : BoxT t w p u v) (hr : Box3 t' w g x y z) (hne : p ≠ g) :
    (((w.setCell ⟨g, 0, none⟩ a).setCell ⟨g, 1, none⟩ b).setCell ⟨g, 2, none⟩ c).cell? ⟨p, 0, none⟩ = some u ∧ (((w.setCell ⟨g, 0, none⟩ a).setCell ⟨g, 1, none⟩ b).setCell ⟨g, 2, none⟩ c).cell? ⟨p, 1, none⟩ = some v ∧
    ((((w.setCell ⟨g, 0, none⟩ a).setCell ⟨g, 1, none⟩ b).setCell ⟨g, 2, none⟩ c).cell? ⟨g, 0, none⟩).isSome = true ∧ ((((w.setCell ⟨g, 0, none⟩ a).setCell ⟨g, 1, none⟩ b).setCell ⟨g, 2, none⟩ c).cell? ⟨g, 1, none⟩).isSome = true ∧ ((((w.setCell ⟨g, 0, none⟩ a).setCell ⟨g, 1, none⟩ b).setCell ⟨g, 2, none⟩ c).cell? ⟨g, 2, none⟩).isSome = true ∧
    (((w.setCell ⟨g, 0, none⟩ a).setCell ⟨g, 1, none⟩ b).setCell ⟨g, 2, none⟩ c).frozen? ⟨g, 0, none⟩ = false ∧ (((w.setCell ⟨g, 0, none⟩ a).setCell ⟨g, 1, none⟩ b).setCell ⟨g, 2, none⟩ c).frozen? ⟨g, 1, none⟩ = false ∧ (((w.setCell ⟨g, 0, none⟩ a).setCell ⟨g, 1, none⟩ b).setCell ⟨g, 2, none⟩ c).frozen? ⟨g, 2, none⟩ = false := by
  have h1 := ((hx.far (p := ⟨g, 0, none⟩) hne a).far (p := ⟨g, 1, none⟩) hne b).far (p := ⟨g, 2, none⟩) hne c
  have h2 := hr.put a b c
  obtain ⟨a0, a1⟩ := h1.cells
  obtain ⟨b0, b1, b2⟩ := h2.cells
  obtain ⟨f0, f1, f2⟩ := frozen_box3 h2
  exact ⟨a0, a1, by rw [b0]; rfl, by rw [b1]; rfl, by rw [b2]; rfl, f0, f1, f2⟩
theorem kept3a {t t' : TypeId} {w : World} {p g : Nat} {u v x y z : Value} (hx : BoxT t w p u v) (hr : Box3 t' w g x y z) :
    w.cell? ⟨p, 0, none⟩ = some u ∧ w.cell? ⟨p, 1, none⟩ = some v ∧ (w.cell? ⟨g, 0, none⟩).isSome = true ∧ (w.cell? ⟨g, 1, none⟩).isSome = true ∧ (w.cell? ⟨g, 2, none⟩).isSome = true ∧
    w.frozen? ⟨g, 0, none⟩ = false ∧ w.frozen? ⟨g, 1, none⟩ = false ∧ w.frozen? ⟨g, 2, none⟩ = false := by
  obtain ⟨a0, a1⟩ := hx.cells
  obtain ⟨b0, b1, b2⟩ := hr.cells
  obtain ⟨f0, f1, f2⟩ := frozen_box3 hr
  exact ⟨a0, a1, by rw [b0]; rfl, by rw [b1]; rfl, by rw [b2]; rfl, f0, f1, f2⟩

end Go.Proofs.YtipplbcjdcdapabDoor
