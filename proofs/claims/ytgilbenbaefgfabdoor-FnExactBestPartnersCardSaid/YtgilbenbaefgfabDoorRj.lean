/- Contract of the program's MergeMembers. For the seats of tied cards. -/
import Derived.Outline
import Derived.Test.YtgilbenbaefgfabDoorRh
namespace Go.Proofs.YtgilbenbaefgfabDoor
open Go.RowKit Vo

def uniB (q : Int) (ws : List Int) (n : Nat) (xs : List Int) (m : Nat) : Bool := okB q ws n xs m && (decide (okS q ws n xs m ≠ 0) && decide (wtK ws (okS q ws n xs m) n ≤ 1000))
theorem uniB_no1 {q ws n xs m} (h : okB q ws n xs m = false) : uniB q ws n xs m = false := by unfold uniB; rw [h]; rfl
theorem uniB_no2 {q ws n xs m} (h : okS q ws n xs m = 0) : uniB q ws n xs m = false := by unfold uniB; rw [h]; simp
theorem uniB_yes {q ws n xs m} (h : okB q ws n xs m = true) (h2 : okS q ws n xs m ≠ 0) : uniB q ws n xs m = decide (wtK ws (okS q ws n xs m) n ≤ 1000) := by unfold uniB; rw [h, decide_eq_true h2]; rfl
theorem okB_set {q : Int} {ws : List Int} {n : Nat} {xs : List Int} {m : Nat} (h : okB q ws n xs m = true) : Vo.Good q ws n ∧ okS q ws n xs m < 2^n := by
  rw [okS_yes h]
  unfold okB at h
  simp only [Bool.and_eq_true] at h
  exact ⟨of_decide_eq_true h.1, ofK_lt (of_decide_eq_true h.2)⟩
theorem box3U_far3 {t : TypeId} {w : World} {g g' : Nat} {a b c : Value} (h : Box3 t w g a b c) (hn : g ≠ g') (x y z : Value) : Box3 t (((w.setCell ⟨g', 0, none⟩ x).setCell ⟨g', 1, none⟩ y).setCell ⟨g', 2, none⟩ z) g a b c :=
  box3U_far (box3U_far (box3U_far h (p := ⟨g', 0, none⟩) hn x) (p := ⟨g', 1, none⟩) hn y) (p := ⟨g', 2, none⟩) hn z
theorem heldU_far3 {base : Nat} {w : World} {A : Option Addr} {m : Nat} {L : List Int} (h : Held base w A m L) {g : Nat} (hg : g < base) (x y z : Value) : Held base (((w.setCell ⟨g, 0, none⟩ x).setCell ⟨g, 1, none⟩ y).setCell ⟨g, 2, none⟩ z) A m L := by
  rcases h with h | ⟨k, hA, hk, hi⟩
  · exact Or.inl h
  · exact Or.inr ⟨k, hA, hk, ((hi.far (show k ≠ g by omega) _).far (show k ≠ g by omega) _).far (show k ≠ g by omega) _⟩
theorem heldU_far0 {base : Nat} {w : World} {A : Option Addr} {m : Nat} {L : List Int} (h : Held base w A m L) {p : Addr} (hp : p.block < base) (u : Value) : Held base (w.setCell p u) A m L := by
  rcases h with h | ⟨k, hA, hk, hi⟩
  · exact Or.inl h
  · exact Or.inr ⟨k, hA, hk, hi.far (show k ≠ p.block by omega) _⟩
theorem heldU_now {base : Nat} {w w' : World} {A : Option Addr} {m : Nat} {L : List Int} (h : Held base w A m L) (hb : Below w.heap.size w w') : Held base w' A m L := by
  rcases h with h | ⟨k, hA, hk, hi⟩
  · exact Or.inl h
  · exact Or.inr ⟨k, hA, hk, Own.below hi hb (Own.lt hi)⟩
theorem heldU_base {base base' : Nat} {w : World} {A : Option Addr} {m : Nat} {L : List Int} (h : Held base' w A m L) (hb : base ≤ base') : Held base w A m L := by
  rcases h with h | ⟨k, hA, hk, hi⟩
  · exact Or.inl h
  · exact Or.inr ⟨k, hA, by omega, hi⟩

/-- A party of a set and the union of it. -/
def UnionAt (q : Int) (A : Option Addr) (n : Nat) (ws : List Int) (s : Nat) (ok : Bool) (w w' : World) (e : Ending) : Prop :=
  ∃ x A' cp', e = .returned (.tuple #[x, .agg #[.int .i64 (qIf ok q), .slice A' (nIf ok (uniL ws n s).length) cp', .int .u64 (nIf ok (2^firstN s) : Nat)], .bool ok]) ∧ (∃ (xa : Int) (xB : Option Addr) (xk xc : Nat) (xd : Int), x = .agg #[.int .i64 xa, .slice xB xk xc, .int .u64 xd]) ∧ (ok = true → x = .agg #[.int .i64 q, .slice A n n, .int .u64 s]) ∧ Held w.heap.size w' A' (nIf ok (uniL ws n s).length) (uniL ws n s) ∧ Below w.heap.size w w'

end Go.Proofs.YtgilbenbaefgfabDoor

namespace Go.Proofs.YtgilbenbaefgfabDoor
open Go.RowKit Vo

end Go.Proofs.YtgilbenbaefgfabDoor

namespace Go.Proofs.YtgilbenbaefgfabDoor
open Go.RowKit Vo

theorem heldU_known {base : Nat} {w : World} {A : Option Addr} {m : Nat} {L : List Int} (h : Held base w A m L) : Known w A m L := by
  rcases h with ⟨h, _⟩ | ⟨g, rfl, _, hi⟩
  · exact ⟨0, 0, fun h1 => by omega, fun h1 => by omega⟩
  · exact Known.of (Ints.sl hi)

end Go.Proofs.YtgilbenbaefgfabDoor
