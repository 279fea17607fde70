/- Contracts of marking and comparing committees of the call's own. -/
import Derived.Test.YtipplbcjdcdapabDoorM1
import Derived.Test.YtipplbcjdcdapabDoorD1
namespace Go.Proofs.YtipplbcjdcdapabDoor
open Go.RowKit Vo

theorem Held.row {base : Nat} {w : World} {A : Option Addr} {m : Nat} {L : List Int} (h : Held base w A m L) : RowAt w A m := by
  rcases h with ⟨h, _⟩ | ⟨g, hA, _, h⟩
  · exact Or.inl h
  · exact Or.inr ⟨g, _, hA, h⟩
theorem Held.now {base : Nat} {w w' : World} {A : Option Addr} {m : Nat} {L : List Int} (h : Held base w A m L) (hb : Below w.heap.size w w') : Held base w' A m L := by
  rcases h with h | ⟨g, hA, hg, h⟩
  · exact Or.inl h
  · exact Or.inr ⟨g, hA, hg, Own.below h hb h.lt⟩
theorem Held.drew {base : Nat} {w : World} {A : Option Addr} {m : Nat} {L : List Int} (h : Held base w A m L) : Held base w.drew A m L := by
  rcases h with h | ⟨g, hA, hg, h⟩
  · exact Or.inl h
  · exact Or.inr ⟨g, hA, hg, Own.drew h⟩
/-- What is held stays held where another block was written. -/
theorem Held.apart {base : Nat} {w w' : World} {A : Option Addr} {m : Nat} {L : List Int} {r : Option Nat} (h : Held base w A m L) (hne : ∀ k, A.map (·.block) = some k → r = some k → False) (hg : w.grownBy w' r) : Held base w' A m L := by
  rcases h with h | ⟨g, hA, hgb, h⟩
  · exact Or.inl h
  · exact Or.inr ⟨g, hA, hgb, Own.grown h hg (fun e => hne g (by rw [hA]; rfl) e.symm)⟩

set_option maxHeartbeats 1000000 in
theorem eqCommittee_zero (q : Int) (A A2 : Option Addr) (c c2 : Nat) (w : World) :
    Calls Tryd.prog 9 #[.agg #[.int .i64 q, .slice A 0 c], .agg #[.int .i64 q, .slice A2 0 c2]] w fun e w' => e = .returned (.bool true) ∧ Below w.heap.size w w' := by
  go_enter Tryd.func9, Tryd.ntmps9
  go_wp2_with fail
  refine (eqIntS_zero A A2 c c2 _).mono ?_
  rintro e w1 ⟨rfl, hb⟩
  go_wp2
  go_ret
  exact ⟨rfl, bfrom ((below1 w _).alloc (by simp) _) hb⟩
theorem eqCommittee_held (q : Int) (A A2 : Option Addr) (m c c2 base base2 : Nat) (L : List Int) (w : World) (hm : m ≤ 9223372036854775807) (h1 : Held base w A m L) (h2 : Held base2 w A2 m L) :
    Calls Tryd.prog 9 #[.agg #[.int .i64 q, .slice A m c], .agg #[.int .i64 q, .slice A2 m c2]] w fun e w' => e = .returned (.bool true) ∧ Below w.heap.size w w' := by
  by_cases hz : m = 0
  · subst hz; exact eqCommittee_zero q A A2 c c2 w
  · rcases h1 with h1 | ⟨g, rfl, _, h1⟩
    · exact absurd h1.1 hz
    · rcases h2 with h2 | ⟨g2, rfl, _, h2⟩
      · exact absurd h2.1 hz
      · exact eqCommittee_same q g 0 m c g2 0 c2 L w hm h1.sl h2.sl

set_option maxHeartbeats 1000000 in
theorem markCommittee_marked (v : Value) (A : Option Addr) (n cap : Nat) (w : World) (hn : n ≤ 1048576) (hr : RowAt w A n) :
    Calls Tryd.prog 10 #[.agg #[v, .slice A n cap], .int .i64 1] w fun e w' => e = .returned (.int .i64 (1 + n)) ∧ Only A w w' ∧ Marked w' A n 1 := by
  have HR := Lib.hid hr
  clear hr
  have HR2 := Lib.hid (show RowAt (w.alloc (.cells #[v, .slice A n cap] 28)) A n from by
    rcases HR.out with h | ⟨g, f, hA, h⟩
    · exact Or.inl h
    · exact Or.inr ⟨g, f, hA, h.alloc _⟩)
  go_enter Tryd.func10, Tryd.ntmps10
  go_wp2_with fail
  refine (markIntS_any A n cap 1 _ (by omega) (by omega) hn HR2.out).mono ?_
  rintro e w1 ⟨rfl, ho, hm⟩
  have HO := Lib.hid ho
  have HM := Lib.hid hm
  clear ho hm
  go_wp2
  go_ret
  exact ⟨rfl, grown_pre (below1 w _) HO.out, HM.out⟩

end Go.Proofs.YtipplbcjdcdapabDoor
