/- The least member of a set: math/bits.TrailingZeros over the table that the program lays; contract of the program's first. For the seats of tied cards. -/
import Derived.Test.YtipplbcjdcdapabDoorW2
import Derived.Test.YtipplbcjdcdapabDoorN7
import Derived.Shelf.Spec.TrailingZeros
namespace Go.Proofs.YtipplbcjdcdapabDoor.Vo

/-- The least member of a set. -/
def firstN (s : Nat) : Nat := Lib.ctz 64 s
theorem first_all : ∀ s : Fin 512, 0 < s.val → firstN s.val < 9 ∧ s.val.testBit (firstN s.val) = true ∧ ∀ j : Fin 9, j.val < firstN s.val → s.val.testBit j.val = false := by decide +kernel
theorem first_in {s : Nat} (h0 : 0 < s) (h : s < 512) : firstN s < 9 ∧ s.testBit (firstN s) = true ∧ ∀ j, j < firstN s → s.testBit j = false := by
  obtain ⟨h1, h2, h3⟩ := first_all ⟨s, h⟩ h0
  exact ⟨h1, h2, fun j hj => h3 ⟨j, Nat.lt_trans hj h1⟩ hj⟩
end Go.Proofs.YtipplbcjdcdapabDoor.Vo

namespace Go.Proofs.YtipplbcjdcdapabDoor
open Go.RowKit Vo

/-- The table of math/bits, as its initialiser lays it. -/
def Tab (w : World) : Prop := 1 < w.heap.size ∧ TabAt 1 Lib.deBruijn64tab w
theorem Tab.now {w w' : World} (h : Tab w) (hb : Below w.heap.size w w') : Tab w' :=
  ⟨Nat.lt_of_lt_of_le h.1 hb.size, fun j hj => by rw [← h.2 j hj]; simp only [World.cell?]; rw [hb.block _ (Nat.lt_of_le_of_lt (by decide) h.1)]⟩

set_option maxHeartbeats 1000000 in
theorem tz64_core (x k idx : Nat) (w : World) (hx0 : ((x : Int) == 0) = false)
    (key : IntKind.u64.wrap (bits BinOp.and IntKind.u64 (x : Int) (IntKind.u64.wrap (-(x : Int))) * 285870213051353865) / 288230376151711744 = (idx : Int))
    (hi : idx < 64) (hk : k < 64) (hcell : w.cell? ⟨1, idx, none⟩ = some (.int .u8 k)) :
    Calls Tryd.prog 52 #[.int .u64 x] w fun e w' => e = .returned (.int .i64 k) ∧ w = w' := by
  go_enter Tryd.func52, Tryd.ntmps52
  go_wp2_with (simp only [key])
  go_ret
  exact ⟨rfl, rfl⟩
theorem tz64_any (x : Nat) (hx : x < 512) (hx0 : 0 < x) (w : World) (hT : Tab w) :
    Calls Tryd.prog 52 #[.int .u64 x] w fun e w' => e = .returned (.int .i64 (firstN x : Nat)) ∧ w = w' := by
  obtain ⟨hlow, hk⟩ := Lib.lowest_bit 64 x (by omega) (by omega)
  obtain ⟨hi, htab⟩ := Lib.deBruijn64_at _ hk
  have hcell := hT.2 _ hi
  rw [htab] at hcell
  exact tz64_core x _ _ w (by simp; omega) (tz64_key x _ (by omega) (by omega) hlow) hi hk hcell
set_option maxHeartbeats 1000000 in
theorem tzU_any (s : Nat) (hs : s < 512) (h0 : 0 < s) (w : World) (hT : Tab w) :
    Calls Tryd.prog 35 #[.int .u64 s] w fun e w' => e = .returned (.int .i64 (firstN s : Nat)) ∧ w = w' := by
  go_enter Tryd.func35, Tryd.ntmps35
  go_wp2_with (first
    | (go_at_call 52; refine (tz64_any s hs h0 _ hT).mono ?_; rintro e w1 ⟨rfl, rfl⟩)
    | fail)
  go_ret
  exact ⟨rfl, rfl⟩
set_option maxHeartbeats 1000000 in
theorem first_any (s : Nat) (hs : s < 512) (h0 : 0 < s) (w : World) (hT : Tab w) :
    Calls Tryd.prog 21 #[.int .u64 s] w fun e w' => e = .returned (.int .i64 (firstN s : Nat)) ∧ w = w' := by
  go_enter Tryd.func21, Tryd.ntmps21
  go_wp2_with (first
    | (go_at_call 35; refine (tzU_any s hs h0 _ hT).mono ?_; rintro e w1 ⟨rfl, rfl⟩)
    | fail)
  go_ret
  exact ⟨rfl, rfl⟩
end Go.Proofs.YtipplbcjdcdapabDoor
