/- Games as answers: how they are marked, held and compared. -/
import Derived.Test.YthjooblibkckmaaK3
namespace Go.Proofs.Ythjooblibkckmaa
open Go.RowKit Vo

/-- A game in memory of the call's own, and a truth. -/
def AnsG (R : List (List Int) → Nat → Nat → Value → World → Prop) (m : Int) (L : List (List Int)) (ok : Bool) (w w' : World) (e : Ending) : Prop :=
  ∃ A cap, e = .returned (.tuple #[.agg #[.int .i64 m, .slice A L.length cap], .bool ok]) ∧ Lies (R L w.heap.size w'.heap.size (.slice A L.length cap)) w.heap.size w'.heap.size w' ∧ Below w.heap.size w w'

theorem Lies.alloc {R : World → Prop} {lo hi : Nat} {w : World} (h : Lies R lo hi w) (o : Obj) : Lies R lo hi (w.alloc o) := h.now (below1 w o)
theorem Lies.rss0 {L : List (List Int)} {lo hi : Nat} {v : Value} {w : World} (h : Lies (RSS L lo hi v) lo hi w) : Lies (RSS0 L lo hi v) lo hi w := h.mono fun _ h => RSS.weak h

set_option maxHeartbeats 1000000 in
theorem eqGame_v (m : Int) {L : List (List Int)} {lo hi lo2 hi2 : Nat} (A A2 : Option Addr) (n c c2 : Nat) (w : World) (hm : tot L + L.length ≤ 1048576) (h1 : Lies (RSS L lo hi (.slice A n c)) lo hi w) (h2 : Lies (RSS0 L lo2 hi2 (.slice A2 n c2)) lo2 hi2 w) :
    Calls Try.prog 19 #[.agg #[.int .i64 m, .slice A n c], .agg #[.int .i64 m, .slice A2 n c2]] w fun e w' => e = .returned (.bool true) ∧ Below w.heap.size w w' := by
  have H1 := Lib.hid h1
  have H2 := Lib.hid h2
  have HM := Lib.hid hm
  clear h1 h2 hm
  go_enter Try.func19, Try.ntmps19
  go_wp2_with fail
  refine (eqIntSS_v _ HM.out ((H1.out.alloc _).alloc _) ((H2.out.alloc _).alloc _)).mono ?_
  rintro e w1 ⟨rfl, hb⟩
  go_wp2
  go_ret
  exact ⟨rfl, bfrom ((below1 w _).alloc (by simp) _) hb⟩

set_option maxHeartbeats 1000000 in
theorem markGame_v (m : Int) {L : List (List Int)} {lo hi : Nat} (A : Option Addr) (n c : Nat) (w : World) (hm : tot L + L.length ≤ 1048576) (h : Lies (RSS L lo hi (.slice A n c)) lo hi w) :
    Calls Try.prog 22 #[.agg #[.int .i64 m, .slice A n c], .int .i64 1] w fun e w' => e = .returned (.int .i64 (1 + (tot L : Nat))) ∧ Turn lo hi w w' ∧ MSS L lo hi 1 (.slice A n c) w' := by
  have H := Lib.hid h
  have HM := Lib.hid hm
  clear h hm
  obtain ⟨N, hN⟩ : ∃ N, N = tot L := ⟨_, rfl⟩
  have HN := Lib.hid hN
  rw [← hN]
  clear hN
  go_enter Try.func22, Try.ntmps22
  go_wp2_with fail
  refine (markIntSS_v _ HM.out (H.out.alloc _)).mono ?_
  rw [← HN.out]
  rintro e w1 ⟨rfl, ht, hk⟩
  have HT := Lib.hid ht
  have HK := Lib.hid hk
  clear ht hk
  go_wp2
  go_ret
  exact ⟨rfl, (Turn.of_below (below1 w _)).trans HT.out, HK.out⟩

set_option maxHeartbeats 1000000 in
theorem heldGame_v (m : Int) {L : List (List Int)} {lo hi : Nat} (A : Option Addr) (n c : Nat) (w : World) (hm : tot L + L.length ≤ 1048576) (h : Lies (MSS L lo hi 1 (.slice A n c)) lo hi w) :
    Calls Try.prog 23 #[.agg #[.int .i64 m, .slice A n c], .int .i64 1] w fun e w' => e = .returned (.int .i64 (1 + (tot L : Nat))) ∧ Below w.heap.size w w' := by
  have H := Lib.hid h
  have HM := Lib.hid hm
  have hN2 : (0 : Int) ≤ 1 + (tot L : Nat) := by omega
  obtain ⟨N, hN⟩ : ∃ N, N = tot L := ⟨_, rfl⟩
  have hNm : N ≤ 1048576 := by omega
  have HN := Lib.hid hN
  rw [← hN]
  clear h hm hN hN2
  go_enter Try.func23, Try.ntmps23
  go_wp2_with fail
  refine (heldIntSS_v _ HM.out (H.out.alloc _)).mono ?_
  rw [← HN.out]
  rintro e w1 ⟨rfl, hb⟩
  go_wp2
  go_ret
  exact ⟨rfl, bfrom (below1 w _) hb⟩

theorem RSS.wide {L : List (List Int)} {lo lo' hi hi' : Nat} {v : Value} {w : World} (h : RSS L lo hi v w) (hl : lo' ≤ lo) (hh : hi ≤ hi') : RSS L lo' hi' v w := by
  obtain ⟨A, cap, hv, h⟩ := h
  refine ⟨A, cap, hv, ?_⟩
  rcases h with h | ⟨g, f, hA, h1, h2, ho, G, h⟩
  · exact Or.inl h
  · refine Or.inr ⟨g, f, hA, by omega, by omega, ho, G, fun i hi => ⟨(h i hi).1, ?_⟩⟩
    rcases (h i hi).2 with h0 | ⟨a, b, c⟩
    · exact Or.inl h0
    · exact Or.inr ⟨by omega, by omega, c⟩
theorem Lies.rss_wide {L : List (List Int)} {lo lo' hi hi' : Nat} {v : Value} {w : World} (h : Lies (RSS L lo hi v) lo hi w) (hl : lo' ≤ lo) (hh : hi ≤ hi') (hs : hi' ≤ w.heap.size) : Lies (RSS L lo' hi' v) lo' hi' w :=
  ⟨hs, fun w' e => (h.2 w' fun k a b => e k (by omega) (by omega)).wide hl hh⟩
theorem Lies.far {R : World → Prop} {lo hi : Nat} {w : World} (h : Lies R lo hi w) {p : Addr} (hp : p.block < lo) (u : Value) : Lies R lo hi (w.setCell p u) :=
  h.keep (by simp) fun k a _ => Below.heap_setCell w p u k (by omega)
end Go.Proofs.Ythjooblibkckmaa
