/- Contract of the program's GiveWeight. -/
import Derived.Test.YtipplbcjdcdapabDoorPd
namespace Go.Proofs.YtipplbcjdcdapabDoor
open Go.RowKit Vo

theorem giveOk_no {q ws n x y z} (h : giveAsk q ws n x y z = false) : giveOk q ws n x y z = false := by unfold giveOk; rw [h, Bool.false_and]
/-- The row after both stores. -/
theorem give_row {w : World} {u n i j : Nat} {ws : List Int} {z a b : Int} (h : Ints w u n ws) (ha : a = ws.getD i 0 - z) (hb : b = ws.getD j 0 + z) : Ints ((w.setCell ⟨u, i, none⟩ (.int .i64 a)).setCell ⟨u, j, none⟩ (.int .i64 b)) u n (giveL ws n i j z) :=
  (Own.set (Own.set h i _) j _).congr fun k hk => by
    rw [giveL_at hk]
    by_cases e1 : k = j
    · rw [if_pos e1, if_pos e1, e1, hb]
    · rw [if_neg e1, if_neg e1]
      by_cases e2 : k = i
      · rw [if_pos e2, if_pos e2, e2, ha]
      · rw [if_neg e2, if_neg e2]
end Go.Proofs.YtipplbcjdcdapabDoor
