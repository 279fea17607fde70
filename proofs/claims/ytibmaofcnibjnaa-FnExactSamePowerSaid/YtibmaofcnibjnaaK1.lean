/- Answers that lie in the call's own memory, told by a stretch of blocks: slices of integers; what writes into them; how they are marked, held and compared. -/
import Derived.Test.YtibmaofcnibjnaaM1
import Derived.Test.YtibmaofcnibjnaaP1
namespace Go.Proofs.Ytibmaofcnibjnaa
open Go.RowKit Vo

/-- Of the old blocks only those in lo .. hi have turned. -/
structure Turn (lo hi : Nat) (w w' : World) : Prop where
  os : w'.os = w.os
  tape : w'.tape = w.tape
  output : w'.output = w.output
  size : w.heap.size ≤ w'.heap.size
  block : ∀ k, k < w.heap.size → (k < lo ∨ hi ≤ k) → w'.heap[k]? = w.heap[k]?
namespace Turn
variable {lo hi : Nat} {w w' w'' : World}
theorem refl (lo hi : Nat) (w : World) : Turn lo hi w w := ⟨rfl, rfl, rfl, Nat.le_refl _, fun _ _ _ => rfl⟩
theorem trans (h : Turn lo hi w w') (k : Turn lo hi w' w'') : Turn lo hi w w'' :=
  ⟨k.os.trans h.os, k.tape.trans h.tape, k.output.trans h.output, Nat.le_trans h.size k.size, fun i hi' ho => (k.block i (Nat.lt_of_lt_of_le hi' h.size) ho).trans (h.block i hi' ho)⟩
theorem of_grown {r : Option Nat} (h : w.grownBy w' r) (hr : ∀ k, r = some k → lo ≤ k ∧ k < hi) : Turn lo hi w w' :=
  ⟨h.os, h.tape, h.output, h.size, fun k hk ho => h.block k hk fun e => by have := hr k e.symm; omega⟩
theorem of_below (h : Below w.heap.size w w') : Turn lo hi w w' := ⟨h.os, h.tape, h.output, h.size, fun k hk _ => h.block k hk⟩
theorem below {B : Nat} {a : World} (h : Below B a w) (t : Turn lo hi w w') (h1 : B ≤ lo) (h2 : B ≤ w.heap.size) : Below B a w' :=
  ⟨t.os.trans h.os, t.tape.trans h.tape, t.output.trans h.output, Nat.le_trans h.size t.size, fun k hk => (t.block k (by omega) (Or.inl (by omega))).trans (h.block k hk)⟩
end Turn
theorem BoxT.turn {t : TypeId} {w w' : World} {g lo hi : Nat} {u v : Value} (h : BoxT t w g u v) (ht : Turn lo hi w w') (hg : g < lo ∨ hi ≤ g) : BoxT t w' g u v := (ht.block g h.lt hg).trans h
theorem Own.turn {w w' : World} {g lo hi : Nat} {t : TypeId} {n : Nat} {f : Nat → Value} (h : Own w g t n f) (ht : Turn lo hi w w') (hg : g < lo ∨ hi ≤ g) : Own w' g t n f := h.of_block (ht.block g h.lt hg)

/-- It holds of this world and of each other one with the same blocks in lo .. hi. -/
def Lies (R : World → Prop) (lo hi : Nat) (w : World) : Prop := hi ≤ w.heap.size ∧ ∀ w' : World, (∀ k, lo ≤ k → k < hi → w'.heap[k]? = w.heap[k]?) → R w'
namespace Lies
variable {R : World → Prop} {lo hi : Nat} {w w' : World}
theorem here (h : Lies R lo hi w) : R w := h.2 w fun _ _ _ => rfl
theorem hi_le (h : Lies R lo hi w) : hi ≤ w.heap.size := h.1
theorem keep (h : Lies R lo hi w) (hs : w.heap.size ≤ w'.heap.size) (e : ∀ k, lo ≤ k → k < hi → w'.heap[k]? = w.heap[k]?) : Lies R lo hi w' :=
  ⟨Nat.le_trans h.1 hs, fun w'' e' => h.2 w'' fun k h1 h2 => (e' k h1 h2).trans (e k h1 h2)⟩
theorem now (h : Lies R lo hi w) (hb : Below w.heap.size w w') : Lies R lo hi w' := h.keep hb.size fun k _ h2 => hb.block k (Nat.lt_of_lt_of_le h2 h.1)
theorem drew (h : Lies R lo hi w) : Lies R lo hi w.drew := h
theorem turn {lo' hi' : Nat} (h : Lies R lo hi w) (ht : Turn lo' hi' w w') (hd : hi ≤ lo' ∨ hi' ≤ lo) : Lies R lo hi w' :=
  h.keep ht.size fun k h1 h2 => ht.block k (Nat.lt_of_lt_of_le h2 h.1) (by omega)
theorem mono {R' : World → Prop} (h : Lies R lo hi w) (f : ∀ w, R w → R' w) : Lies R' lo hi w := ⟨h.1, fun w' e => f w' (h.2 w' e)⟩
end Lies

/-- A slice of integers whose block, if it has one, is in lo .. hi. -/
def RS (L : List Int) (lo hi : Nat) (v : Value) (w : World) : Prop :=
  ∃ A cap, v = .slice A L.length cap ∧ (L.length = 0 ∨ ∃ g, A = some ⟨g, 0, none⟩ ∧ lo ≤ g ∧ g < hi ∧ Ints w g L.length L)
/-- So, with marks from kk on. -/
def MS (L : List Int) (lo hi : Nat) (kk : Int) (v : Value) (w : World) : Prop :=
  ∃ A cap, v = .slice A L.length cap ∧ (L.length = 0 ∨ ∃ g, A = some ⟨g, 0, none⟩ ∧ lo ≤ g ∧ g < hi ∧ Own w g 3 L.length (fun j => .int .i64 (kk + j)))
/-- An answer in memory of the call's own, and a truth. -/
def Ans (R : Nat → Nat → Value → World → Prop) (ok : Bool) (w w' : World) (e : Ending) : Prop :=
  ∃ v, e = .returned (.tuple #[v, .bool ok]) ∧ Lies (R w.heap.size w'.heap.size v) w.heap.size w'.heap.size w' ∧ Below w.heap.size w w'

theorem RS.lies {L : List Int} {lo hi : Nat} {v : Value} {w : World} (h : RS L lo hi v w) (hh : hi ≤ w.heap.size) : Lies (RS L lo hi v) lo hi w := by
  refine ⟨hh, fun w' e => ?_⟩
  obtain ⟨A, cap, hv, h⟩ := h
  refine ⟨A, cap, hv, ?_⟩
  rcases h with h | ⟨g, hA, h1, h2, h⟩
  · exact Or.inl h
  · exact Or.inr ⟨g, hA, h1, h2, Own.of_block h (e g h1 h2)⟩
theorem MS.lies {L : List Int} {lo hi : Nat} {kk : Int} {v : Value} {w : World} (h : MS L lo hi kk v w) (hh : hi ≤ w.heap.size) : Lies (MS L lo hi kk v) lo hi w := by
  refine ⟨hh, fun w' e => ?_⟩
  obtain ⟨A, cap, hv, h⟩ := h
  refine ⟨A, cap, hv, ?_⟩
  rcases h with h | ⟨g, hA, h1, h2, h⟩
  · exact Or.inl h
  · exact Or.inr ⟨g, hA, h1, h2, Own.of_block h (e g h1 h2)⟩
theorem RS.of_own {w : World} {base cap : Nat} {A : Option Addr} {L : List Int} (h : w.ownsRow base 3 1 (.slice A L.length cap) L.length (L.map (Value.int .i64))) : RS L base w.heap.size (.slice A L.length cap) w := by
  refine ⟨A, cap, rfl, ?_⟩
  by_cases hn : L.length = 0
  · exact Or.inl hn
  · obtain ⟨g, cap', hv, hg, _, _⟩ := owns_head h (by omega)
    injection hv with hA _ hc
    subst hA
    have ho : Ints w g L.length L := Own.of_own h fun i hi => by simp [hi]
    exact Or.inr ⟨g, rfl, hg, Own.lt ho, ho⟩
theorem PairAt.ans {L : List Int} {ok : Bool} {w w' : World} {e : Ending} (h : PairAt L ok w w' e) : Ans (RS L) ok w w' e := by
  obtain ⟨A, cap, he, ho, hb⟩ := h
  exact ⟨_, he, (RS.of_own ho).lies (Nat.le_refl _), hb⟩

theorem eqIntS_v {L : List Int} {lo hi lo2 hi2 : Nat} {v v2 : Value} (w : World) (hm : L.length ≤ 1048576) (h1 : RS L lo hi v w) (h2 : RS L lo2 hi2 v2 w) :
    Calls Try.prog 69 #[v, v2] w fun e w' => e = .returned (.bool true) ∧ Below w.heap.size w w' := by
  obtain ⟨A, cap, rfl, h1⟩ := h1
  obtain ⟨A2, cap2, rfl, h2⟩ := h2
  rcases h1 with hn | ⟨g, rfl, _, _, h1⟩
  · rw [hn]; exact eqIntS_zero A A2 cap cap2 w
  · rcases h2 with hn | ⟨g2, rfl, _, _, h2⟩
    · rw [hn]; exact eqIntS_zero _ A2 cap cap2 w
    · refine (eqIntS_in g 0 L.length cap g2 0 cap2 L L w (by omega) h1.sl h2.sl).mono ?_
      rintro e w1 ⟨rfl, hb⟩
      rw [sameB_yes (fun _ _ => rfl)]
      exact ⟨rfl, hb⟩
set_option maxHeartbeats 400000 in
theorem markIntS_zero (A : Option Addr) (cap : Nat) (kk : Int) (w : World) :
    Calls Try.prog 70 #[.slice A 0 cap, .int .i64 kk] w fun e w' => e = .returned (.int .i64 kk) ∧ w = w' := by
  go_enter Try.func70, Try.ntmps70
  go_wp2
  refine wp_loop_rounds 1 ?_
  rw [rounds_succ]
  go_wp2
  go_ret
  exact ⟨rfl, rfl⟩
theorem markIntS_v {L : List Int} {lo hi : Nat} {v : Value} (kk : Int) (w : World) (h0 : 0 ≤ kk) (h1 : kk ≤ 1048577) (hn : L.length ≤ 1048576) (h : RS L lo hi v w) :
    Calls Try.prog 70 #[v, .int .i64 kk] w fun e w' => e = .returned (.int .i64 (kk + L.length)) ∧ Turn lo hi w w' ∧ MS L lo hi kk v w' := by
  obtain ⟨A, cap, rfl, h⟩ := h
  by_cases hz : L.length = 0
  · rw [hz]
    refine (markIntS_zero A cap kk w).mono ?_
    rintro e w' ⟨rfl, rfl⟩
    exact ⟨by simp, Turn.refl _ _ _, A, cap, by rw [hz], Or.inl hz⟩
  · obtain ⟨g, rfl, h2, h3, h⟩ : ∃ g, A = some ⟨g, 0, none⟩ ∧ lo ≤ g ∧ g < hi ∧ Ints w g L.length L := by
      rcases h with h | h
      · exact absurd h hz
      · exact h
    refine (markIntS_any _ L.length cap kk w h0 h1 hn (Or.inr ⟨g, _, rfl, h⟩)).mono ?_
    rintro e w' ⟨rfl, ho, hm⟩
    refine ⟨rfl, Turn.of_grown ho (fun k hk => by simp at hk; omega), _, cap, rfl, ?_⟩
    rcases hm with hm | ⟨g', hA, hm⟩
    · exact Or.inl hm
    · injection hA with hA; injection hA with hA; subst hA
      exact Or.inr ⟨g, rfl, h2, h3, hm⟩
theorem heldIntS_v {L : List Int} {lo hi : Nat} {v : Value} (kk : Int) (w : World) (h0 : 0 ≤ kk) (h1 : kk ≤ 1048577) (hn : L.length ≤ 1048576) (h : MS L lo hi kk v w) :
    Calls Try.prog 71 #[v, .int .i64 kk] w fun e w' => e = .returned (.int .i64 (kk + L.length)) ∧ Below w.heap.size w w' := by
  obtain ⟨A, cap, rfl, h⟩ := h
  refine (heldIntS_any A L.length cap kk w h0 h1 hn (by rcases h with h | ⟨g, hA, _, _, h⟩; exact Or.inl h; exact Or.inr ⟨g, hA, h⟩)).mono ?_
  rintro e w' ⟨rfl, rfl⟩
  exact ⟨rfl, Below.refl _ _⟩
end Go.Proofs.Ytibmaofcnibjnaa
