/- Contracts of reading games: the program's readWinningSets, readGame, IsGame. -/
import Derived.Test.YtldpdjnedoflcaaEb
import Derived.Test.YtldpdjnedoflcaaI1
import Derived.Test.YtldpdjnedoflcaaI2
import Derived.Test.YtldpdjnedoflcaaS1
import Derived.BigQuiet
import Derived.Outline
namespace Go.Proofs.Ytldpdjnedoflcaa
open Go.RowKit Vo

theorem RI.known {l : List Int} {lo hi : Nat} {v : Value} {w : World} (h : RI l lo hi v w) : ∃ A cap, v = .slice A l.length cap ∧ Known w A l.length l := by
  obtain ⟨A, cap, hv, h⟩ := h
  refine ⟨A, cap, hv, ?_⟩
  rcases h with h | ⟨g, rfl, _, _, h⟩
  · exact ⟨0, 0, fun h1 => by omega, fun h1 => by omega⟩
  · exact Known.of (Ints.sl h)
theorem Known.zero_ {w : World} {A : Option Addr} {l : List Int} : Known w A 0 l := ⟨0, 0, fun h1 => by omega, fun h1 => by omega⟩

/-- What the readers of a game need of its lists. -/
def Lists (w : World) (A : Option Addr) (n : Nat) (L : List (List Int)) : Prop :=
  L.length = n ∧ ∀ i, i < n → ∃ g A' cap, A = some ⟨g, 0, none⟩ ∧ g < w.heap.size ∧ w.cell? ⟨g, i, none⟩ = some (.slice A' (L.getD i []).length cap) ∧ (L.getD i []).length ≤ 1048576 ∧ Known w A' (L.getD i []).length (L.getD i [])
theorem Lists.now {w w' : World} {A : Option Addr} {n : Nat} {L : List (List Int)} (h : Lists w A n L) (hb : Below w.heap.size w w') : Lists w' A n L := by
  refine ⟨h.1, fun i hi => ?_⟩
  obtain ⟨g, A', cap, hA, hg, hc, hm, hk⟩ := h.2 i hi
  exact ⟨g, A', cap, hA, Nat.lt_of_lt_of_le hg hb.size, (hb.cell (p := ⟨g, i, none⟩) hg).trans hc, hm, hk.now hb⟩
theorem RSS0.lists {L : List (List Int)} {lo hi : Nat} {A : Option Addr} {n cap : Nat} {w : World} (hn : L.length = n) (ht : tot L + L.length ≤ 1048576) (h : RSS0 L lo hi (.slice A n cap) w) : Lists w A n L := by
  refine ⟨hn, fun i hi => ?_⟩
  obtain ⟨A1, c1, hv, h⟩ := h
  obtain ⟨rfl, _, _⟩ : A = A1 ∧ n = L.length ∧ cap = c1 := by simpa using hv
  rcases h with h | ⟨g, f, hA, _, _, ho, h⟩
  · omega
  · obtain ⟨A', c', hf, hk⟩ := RI.known (h i (by omega))
    exact ⟨g, A', c', hA, ho.lt, by rw [ho.cell (by omega), hf], by have := tot_row (L := L) rfl (show i < L.length by omega); omega, hk⟩

set_option maxHeartbeats 1000000 in
theorem readSet_known (n : Nat) (A : Option Addr) (m cap : Nat) (xs : List Int) (w : World) (hn : n < 10) (hm : m ≤ 9223372036854775807) (hk : Known w A m xs) :
    Calls Try.prog 78 #[.int .i64 n, .slice A m cap] w fun e w' => e = .returned (.tuple #[.int .u64 (ofB n xs m : Nat), .bool (riseB n xs m)]) ∧ w = w' := by
  by_cases hz : m = 0
  · subst hz
    have H1 := Lib.hid (ofB_yes (n := n) (xs := xs) (m := 0) RiseK.zero)
    have H2 := Lib.hid (riseB_yes (n := n) (xs := xs) (m := 0) RiseK.zero)
    go_enter Try.func78, Try.ntmps78
    go_wp2
    refine wp_loop_rounds 1 ?_
    rw [rounds_succ]
    go_wp2
    go_ret2
    exact ⟨by rw [H1.out, H2.out]; rfl, rfl⟩
  · obtain ⟨b, off, rfl, hsl⟩ := hk.get (by omega)
    exact readSet_any n b off m cap xs w hn hm hsl

theorem setsN_take (L : List (List Int)) (j : Nat) (h : j < L.length) : setsN (L.take (j+1)) = setsN (L.take j) ++ [ofK (L.getD j []) (L.getD j []).length] := by
  unfold setsN
  rw [List.take_add_one, List.map_append, List.getElem?_eq_getElem h, List.getD_eq_getElem?_getD, List.getElem?_eq_getElem h]
  rfl
theorem rowsB_take (n : Nat) (L : List (List Int)) (j : Nat) (h : j < L.length) : rowsB n (L.take (j+1)) = (rowsB n (L.take j) && (decide ((L.getD j []).length ≠ 0) && riseB n (L.getD j []) (L.getD j []).length)) := by
  unfold rowsB
  rw [List.take_add_one, List.all_append, List.getElem?_eq_getElem h, List.getD_eq_getElem?_getD, List.getElem?_eq_getElem h]
  simp
theorem rowsB_false {n : Nat} {L : List (List Int)} {j : Nat} (h : j < L.length) (hf : (decide ((L.getD j []).length ≠ 0) && riseB n (L.getD j []) (L.getD j []).length) = false) : rowsB n L = false := by
  cases hr : rowsB n L
  · rfl
  · have := List.all_eq_true.1 hr (L.getD j []) (by rw [List.getD_eq_getElem?_getD, List.getElem?_eq_getElem h]; exact List.getElem_mem h)
    rw [hf] at this; cases this

/-- Do all lists tell sets? -/
def riseRows (n : Nat) (L : List (List Int)) : Bool := L.all fun l => riseB n l l.length
theorem riseRows_take (n : Nat) (L : List (List Int)) (j : Nat) (h : j < L.length) : riseRows n (L.take (j+1)) = (riseRows n (L.take j) && riseB n (L.getD j []) (L.getD j []).length) := by
  unfold riseRows
  rw [List.take_add_one, List.all_append, List.getElem?_eq_getElem h, List.getD_eq_getElem?_getD, List.getElem?_eq_getElem h]
  simp
theorem riseRows_false {n : Nat} {L : List (List Int)} {j : Nat} (h : j < L.length) (hf : riseB n (L.getD j []) (L.getD j []).length = false) : riseRows n L = false := by
  cases hr : riseRows n L
  · rfl
  · have := List.all_eq_true.1 hr (L.getD j []) (by rw [List.getD_eq_getElem?_getD, List.getElem?_eq_getElem h]; exact List.getElem_mem h)
    rw [hf] at this; cases this
theorem riseRows_row {n : Nat} {L : List (List Int)} (h : riseRows n L = true) : ∀ l ∈ L, RiseK n l l.length := fun l hl => by
  have := List.all_eq_true.1 h l hl
  by_cases hr : RiseK n l l.length
  · exact hr
  · rw [riseB_no hr] at this; cases this
theorem riseRows_512 {n : Nat} {L : List (List Int)} (hn : n ≤ 9) (h : riseRows n L = true) : ∀ s ∈ setsN L, s < 512 := by
  intro s hs
  unfold setsN at hs
  obtain ⟨l, hl, rfl⟩ := List.mem_map.1 hs
  have := ofK_lt (riseRows_row h l hl)
  have := pow_lt hn
  omega
/-- All lists tell sets, and none is empty. -/
theorem rowsB_rise {n : Nat} {L : List (List Int)} (hn : n ≤ 9) : rowsB n L = (riseRows n L && !decide (0 ∈ setsN L)) := by
  cases hr : riseRows n L with
  | false =>
    rw [Bool.false_and]
    cases hb : rowsB n L with
    | false => rfl
    | true =>
      rw [← hr]
      symm
      unfold riseRows
      rw [List.all_eq_true]
      intro l hl
      have := List.all_eq_true.1 hb l hl
      simp only [Bool.and_eq_true] at this
      exact this.2
  | true =>
    rw [Bool.true_and]
    cases hb : rowsB n L with
    | true =>
      symm
      rw [Bool.not_eq_true', decide_eq_false_iff_not]
      intro h0
      unfold setsN at h0
      obtain ⟨l, hl, e⟩ := List.mem_map.1 h0
      have h2 := List.all_eq_true.1 hb l hl
      simp only [Bool.and_eq_true, decide_eq_true_eq] at h2
      exact h2.1 ((ofK_zero hn (riseRows_row hr l hl)).1 e)
    | false =>
      symm
      rw [Bool.not_eq_false', decide_eq_true_eq]
      apply Classical.byContradiction
      intro h0
      have : rowsB n L = true := by
        unfold rowsB
        rw [List.all_eq_true]
        intro l hl
        simp only [Bool.and_eq_true, decide_eq_true_eq]
        refine ⟨fun e => h0 ?_, riseB_yes (riseRows_row hr l hl)⟩
        unfold setsN
        exact List.mem_map.2 ⟨l, hl, (ofK_zero hn (riseRows_row hr l hl)).2 e⟩
      rw [hb] at this; cases this

/-- Sets read: where all lists tell some, they; else none. -/
def ReadS (n : Nat) (L : List (List Int)) (w w' : World) (e : Ending) : Prop :=
  Below w.heap.size w w' ∧ ((riseRows n L = true ∧ ∃ B cp, e = .returned (.tuple #[.slice B L.length cp, .bool true]) ∧ w'.ownsRow w.heap.size 51 1 (.slice B L.length cp) L.length (setsV (setsN L))) ∨ (riseRows n L = false ∧ e = .returned (.tuple #[.slice none 0 0, .bool false])))
/-- Winning sets read: where all lists tell some, they; else not all. -/
def ReadAt (n : Nat) (L : List (List Int)) (w w' : World) (e : Ending) : Prop :=
  Below w.heap.size w w' ∧ ((rowsB n L = true ∧ ∃ B cp, e = .returned (.tuple #[.slice B L.length cp, .bool true]) ∧ w'.ownsRow w.heap.size 51 1 (.slice B L.length cp) L.length (setsV (setsN L))) ∨ (rowsB n L = false ∧ ∃ v, e = .returned (.tuple #[v, .bool false])))

end Go.Proofs.Ytldpdjnedoflcaa
