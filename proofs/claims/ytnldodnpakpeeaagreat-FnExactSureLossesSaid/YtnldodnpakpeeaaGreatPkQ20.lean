/- Texts of I3, I6. -/
import Derived.Test.YtnldodnpakpeeaaGreatPkQ18
import Derived.Test.YtnldodnpakpeeaaGreatPkQ19
import Derived.Test.YtnldodnpakpeeaaGreatPkQ03
import Derived.BigQuiet
import Derived.Outline
import Derived.Test.YtnldodnpakpeeaaGreatPkQ11
import Derived.Test.YtnldodnpakpeeaaGreatPkQ06
namespace Go.Proofs.YtnldodnpakpeeaaGreat
open Go.RowKit Vo

theorem RI.known {l : List Int} {lo hi : Nat} {v : Value} {w : World} (h : RI l lo hi v w) : ∃ A cap, v = .slice A l.length cap ∧ Known w A l.length l := by
  obtain ⟨A, cap, hv, h⟩ := h
  refine ⟨A, cap, hv, ?_⟩
  rcases h with h | ⟨g, rfl, _, _, h⟩
  · exact ⟨0, 0, fun h1 => by omega, fun h1 => by omega⟩
  · exact Known.of (Ints.sl h)
theorem Known.zero_ {w : World} {A : Option Addr} {l : List Int} : Known w A 0 l := ⟨0, 0, fun h1 => by omega, fun h1 => by omega⟩

/-- What the readers of a game need of its lists. -/
def Lists (w : World) (A : Option Addr) (n : Nat) (L : List (List Int)) : Prop :=
  L.length = n ∧ ∀ i, i < n → ∃ g A' cap, A = some ⟨g, 0, none⟩ ∧ g < w.heap.size ∧ w.cell? ⟨g, i, none⟩ = some (.slice A' (L.getD i []).length cap) ∧ (L.getD i []).length ≤ 1048576 ∧ Known w A' (L.getD i []).length (L.getD i [])
theorem Lists.now {w w' : World} {A : Option Addr} {n : Nat} {L : List (List Int)} (h : Lists w A n L) (hb : Below w.heap.size w w') : Lists w' A n L := by
  refine ⟨h.1, fun i hi => ?_⟩
  obtain ⟨g, A', cap, hA, hg, hc, hm, hk⟩ := h.2 i hi
  exact ⟨g, A', cap, hA, Nat.lt_of_lt_of_le hg hb.size, (hb.cell (p := ⟨g, i, none⟩) hg).trans hc, hm, hk.now hb⟩
theorem RSS0.lists {L : List (List Int)} {lo hi : Nat} {A : Option Addr} {n cap : Nat} {w : World} (hn : L.length = n) (ht : tot L + L.length ≤ 1048576) (h : RSS0 L lo hi (.slice A n cap) w) : Lists w A n L := by
  refine ⟨hn, fun i hi => ?_⟩
  obtain ⟨A1, c1, hv, h⟩ := h
  obtain ⟨rfl, _, _⟩ : A = A1 ∧ n = L.length ∧ cap = c1 := by simpa using hv
  rcases h with h | ⟨g, f, hA, _, _, ho, h⟩
  · omega
  · obtain ⟨A', c', hf, hk⟩ := RI.known (h i (by omega))
    exact ⟨g, A', c', hA, ho.lt, by rw [ho.cell (by omega), hf], by have := tot_row (L := L) rfl (show i < L.length by omega); omega, hk⟩

theorem setsN_take (L : List (List Int)) (j : Nat) (h : j < L.length) : setsN (L.take (j+1)) = setsN (L.take j) ++ [ofK (L.getD j []) (L.getD j []).length] := by
  unfold setsN
  rw [List.take_add_one, List.map_append, List.getElem?_eq_getElem h, List.getD_eq_getElem?_getD, List.getElem?_eq_getElem h]
  rfl
theorem rowsB_take (n : Nat) (L : List (List Int)) (j : Nat) (h : j < L.length) : rowsB n (L.take (j+1)) = (rowsB n (L.take j) && (decide ((L.getD j []).length ≠ 0) && riseB n (L.getD j []) (L.getD j []).length)) := by
  unfold rowsB
  rw [List.take_add_one, List.all_append, List.getElem?_eq_getElem h, List.getD_eq_getElem?_getD, List.getElem?_eq_getElem h]
  simp
theorem rowsB_false {n : Nat} {L : List (List Int)} {j : Nat} (h : j < L.length) (hf : (decide ((L.getD j []).length ≠ 0) && riseB n (L.getD j []) (L.getD j []).length) = false) : rowsB n L = false := by
  cases hr : rowsB n L
  · rfl
  · have := List.all_eq_true.1 hr (L.getD j []) (by rw [List.getD_eq_getElem?_getD, List.getElem?_eq_getElem h]; exact List.getElem_mem h)
    rw [hf] at this; cases this

/-- Do all lists tell sets? -/
def riseRows (n : Nat) (L : List (List Int)) : Bool := L.all fun l => riseB n l l.length
theorem riseRows_take (n : Nat) (L : List (List Int)) (j : Nat) (h : j < L.length) : riseRows n (L.take (j+1)) = (riseRows n (L.take j) && riseB n (L.getD j []) (L.getD j []).length) := by
  unfold riseRows
  rw [List.take_add_one, List.all_append, List.getElem?_eq_getElem h, List.getD_eq_getElem?_getD, List.getElem?_eq_getElem h]
  simp
theorem riseRows_false {n : Nat} {L : List (List Int)} {j : Nat} (h : j < L.length) (hf : riseB n (L.getD j []) (L.getD j []).length = false) : riseRows n L = false := by
  cases hr : riseRows n L
  · rfl
  · have := List.all_eq_true.1 hr (L.getD j []) (by rw [List.getD_eq_getElem?_getD, List.getElem?_eq_getElem h]; exact List.getElem_mem h)
    rw [hf] at this; cases this
theorem riseRows_row {n : Nat} {L : List (List Int)} (h : riseRows n L = true) : ∀ l ∈ L, RiseK n l l.length := fun l hl => by
  have := List.all_eq_true.1 h l hl
  by_cases hr : RiseK n l l.length
  · exact hr
  · rw [riseB_no hr] at this; cases this
theorem riseRows_512 {n : Nat} {L : List (List Int)} (hn : n ≤ 9) (h : riseRows n L = true) : ∀ s ∈ setsN L, s < 512 := by
  intro s hs
  unfold setsN at hs
  obtain ⟨l, hl, rfl⟩ := List.mem_map.1 hs
  have := ofK_lt (riseRows_row h l hl)
  have := pow_lt hn
  omega
/-- All lists tell sets, and none is empty. -/
theorem rowsB_rise {n : Nat} {L : List (List Int)} (hn : n ≤ 9) : rowsB n L = (riseRows n L && !decide (0 ∈ setsN L)) := by
  cases hr : riseRows n L with
  | false =>
    rw [Bool.false_and]
    cases hb : rowsB n L with
    | false => rfl
    | true =>
      rw [← hr]
      symm
      unfold riseRows
      rw [List.all_eq_true]
      intro l hl
      have := List.all_eq_true.1 hb l hl
      simp only [Bool.and_eq_true] at this
      exact this.2
  | true =>
    rw [Bool.true_and]
    cases hb : rowsB n L with
    | true =>
      symm
      rw [Bool.not_eq_true', decide_eq_false_iff_not]
      intro h0
      unfold setsN at h0
      obtain ⟨l, hl, e⟩ := List.mem_map.1 h0
      have h2 := List.all_eq_true.1 hb l hl
      simp only [Bool.and_eq_true, decide_eq_true_eq] at h2
      exact h2.1 ((ofK_zero hn (riseRows_row hr l hl)).1 e)
    | false =>
      symm
      rw [Bool.not_eq_false', decide_eq_true_eq]
      apply Classical.byContradiction
      intro h0
      have : rowsB n L = true := by
        unfold rowsB
        rw [List.all_eq_true]
        intro l hl
        simp only [Bool.and_eq_true, decide_eq_true_eq]
        refine ⟨fun e => h0 ?_, riseB_yes (riseRows_row hr l hl)⟩
        unfold setsN
        exact List.mem_map.2 ⟨l, hl, (ofK_zero hn (riseRows_row hr l hl)).2 e⟩
      rw [hb] at this; cases this

/-- Sets read: where all lists tell some, they; else none. -/
def ReadS (n : Nat) (L : List (List Int)) (w w' : World) (e : Ending) : Prop :=
  Below w.heap.size w w' ∧ ((riseRows n L = true ∧ ∃ B cp, e = .returned (.tuple #[.slice B L.length cp, .bool true]) ∧ w'.ownsRow w.heap.size 69 1 (.slice B L.length cp) L.length (setsV (setsN L))) ∨ (riseRows n L = false ∧ e = .returned (.tuple #[.slice none 0 0, .bool false])))
/-- Winning sets read: where all lists tell some, they; else not all. -/
def ReadAt (n : Nat) (L : List (List Int)) (w w' : World) (e : Ending) : Prop :=
  Below w.heap.size w w' ∧ ((rowsB n L = true ∧ ∃ B cp, e = .returned (.tuple #[.slice B L.length cp, .bool true]) ∧ w'.ownsRow w.heap.size 69 1 (.slice B L.length cp) L.length (setsV (setsN L))) ∨ (rowsB n L = false ∧ ∃ v, e = .returned (.tuple #[v, .bool false])))

end Go.Proofs.YtnldodnpakpeeaaGreat

namespace Go.Proofs.YtnldodnpakpeeaaGreat
open Go.RowKit Vo

/-- What the model needs of a game's lists. -/
def ListsR (w : World) (A : Option Addr) (n : Nat) (L : List (List Int)) : Prop :=
  L.length = n ∧ ∀ i, i < n → ∃ g v, A = some ⟨g, 0, none⟩ ∧ g < w.heap.size ∧ w.cell? ⟨g, i, none⟩ = some v ∧ (L.getD i []).length ≤ 1048576 ∧ RI (L.getD i []) 0 w.heap.size v w
theorem ListsR.now {w w' : World} {A : Option Addr} {n : Nat} {L : List (List Int)} (h : ListsR w A n L) (hb : Below w.heap.size w w') : ListsR w' A n L := by
  refine ⟨h.1, fun i hi => ?_⟩
  obtain ⟨g, v, hA, hg, hc, hm, hk⟩ := h.2 i hi
  exact ⟨g, v, hA, Nat.lt_of_lt_of_le hg hb.size, (hb.cell (p := ⟨g, i, none⟩) hg).trans hc, hm, hk.up hb⟩
theorem ListsR.lists {w : World} {A : Option Addr} {n : Nat} {L : List (List Int)} (h : ListsR w A n L) : Lists w A n L := by
  refine ⟨h.1, fun i hi => ?_⟩
  obtain ⟨g, v, hA, hg, hc, hm, hk⟩ := h.2 i hi
  obtain ⟨A', cap, rfl, hk'⟩ := RI.known hk
  exact ⟨g, A', cap, hA, hg, hc, hm, hk'⟩
theorem RSS0.listsR {L : List (List Int)} {lo hi : Nat} {A : Option Addr} {n cap : Nat} {w : World} (hn : L.length = n) (ht : tot L + L.length ≤ 1048576) (hh : hi ≤ w.heap.size) (h : RSS0 L lo hi (.slice A n cap) w) : ListsR w A n L := by
  refine ⟨hn, fun i hi => ?_⟩
  obtain ⟨A1, c1, hv, h⟩ := h
  obtain ⟨rfl, _, _⟩ : A = A1 ∧ n = L.length ∧ cap = c1 := by simpa using hv
  rcases h with h | ⟨g, f, hA, _, _, ho, h⟩
  · omega
  · exact ⟨g, f i, hA, ho.lt, by rw [ho.cell (by omega)], by have := tot_row (L := L) rfl (show i < L.length by omega); omega, (h i (by omega)).wide (Or.inr ⟨Nat.zero_le _, hh⟩)⟩

theorem voBits_known (n : Nat) (A : Option Addr) (m cap : Nat) (xs : List Int) (w : World) (hn : n < 10) (h0 : m ≠ 0) (hm : m ≤ 9223372036854775807) (hr : RiseK n xs m) (hk : Known w A m xs) :
    Calls Tryz.prog 56 #[.slice A m cap] w fun e w' => e = .returned (.int .i64 (ofK xs m : Nat)) ∧ w = w' := by
  obtain ⟨b, off, rfl, hsl⟩ := hk.get (by omega)
  exact voBits_any n b off m cap xs w hn hm hr hsl

/-- What the model asks of some sets. -/
def setsB (m : Int) (L : List (List Int)) (most : Int) : Bool := inB m 1 9 && (inB (L.length : Int) 1 most && rowsB m.toNat L)
theorem setsB_small {m : Int} {L : List (List Int)} {most : Int} (h : ¬ (1 ≤ m ∧ m ≤ 9)) : setsB m L most = false := by unfold setsB; rw [inB_no h]; rfl
theorem setsB_long {m : Int} {L : List (List Int)} {most : Int} (h : ¬ (1 ≤ (L.length : Int) ∧ (L.length : Int) ≤ most)) : setsB m L most = false := by unfold setsB; rw [inB_no h]; simp
theorem setsB_rows {q : Nat} {L : List (List Int)} {most : Int} (h1 : 1 ≤ (q : Int)) (h9 : (q : Int) ≤ 9) (h2 : 1 ≤ (L.length : Int)) (h3 : (L.length : Int) ≤ most) : setsB (q : Int) L most = rowsB q L := by
  unfold setsB; rw [inB_yes h1 h9, inB_yes h2 h3]; simp

theorem goodG_split {m : Int} {L : List (List Int)} : goodG m L = true ↔ setsB m L 126 = true ∧ ordK L (setsN L) L.length := by
  constructor
  · intro h
    unfold goodG at h
    simp only [Bool.and_eq_true, decide_eq_true_eq] at h
    obtain ⟨⟨h1, h9, hL⟩, hr, hs⟩ := h
    have hn : m.toNat ≤ 9 := by omega
    refine ⟨?_, (ordK_sets hn hr).2 hs⟩
    have h126 := game_126 hn hr hs
    have h0 : 1 ≤ L.length := by cases L with
      | nil => exact absurd rfl hL
      | cons a l => simp
    unfold setsB
    rw [inB_yes h1 h9, inB_yes (by omega) (by omega), hr]; rfl
  · rintro ⟨h1, h2⟩
    unfold setsB at h1
    simp only [Bool.and_eq_true] at h1
    obtain ⟨ha, hb, hr⟩ := h1
    have hm : 1 ≤ m ∧ m ≤ 9 := by
      by_cases h : 1 ≤ m ∧ m ≤ 9
      · exact h
      · rw [inB_no h] at ha; cases ha
    have hl : 1 ≤ (L.length : Int) := by
      by_cases h : 1 ≤ (L.length : Int) ∧ (L.length : Int) ≤ 126
      · exact h.1
      · rw [inB_no h] at hb; cases hb
    have hs := (ordK_sets (by omega : m.toNat ≤ 9) hr).1 h2
    unfold goodG
    rw [hr, decide_eq_true hs, decide_eq_true (show 1 ≤ m ∧ m ≤ 9 ∧ L ≠ [] from ⟨hm.1, hm.2, fun e => by rw [e] at hl; simp at hl⟩)]; rfl
theorem goodG_no {m : Int} {L : List (List Int)} (h : ¬ (setsB m L 126 = true ∧ ordK L (setsN L) L.length)) : goodG m L = false := by
  cases hg : goodG m L
  · rfl
  · exact absurd (goodG_split.1 hg) h
theorem setsB_parts {m : Int} {L : List (List Int)} {most : Int} (h : setsB m L most = true) : ∃ q : Nat, m = q ∧ 1 ≤ q ∧ q ≤ 9 ∧ 1 ≤ L.length ∧ (L.length : Int) ≤ most ∧ rowsB q L = true := by
  unfold setsB at h
  simp only [Bool.and_eq_true] at h
  obtain ⟨ha, hb, hr⟩ := h
  have hm : 1 ≤ m ∧ m ≤ 9 := by
    by_cases h : 1 ≤ m ∧ m ≤ 9
    · exact h
    · rw [inB_no h] at ha; cases ha
  have hl : 1 ≤ (L.length : Int) ∧ (L.length : Int) ≤ most := by
    by_cases h : 1 ≤ (L.length : Int) ∧ (L.length : Int) ≤ most
    · exact h
    · rw [inB_no h] at hb; cases hb
  exact ⟨m.toNat, by omega, by omega, by omega, by omega, hl.2, hr⟩
theorem setsN_at {L : List (List Int)} {i : Nat} (h : i < L.length) : (setsN L).getD i 0 = ofK (L.getD i []) (L.getD i []).length := by
  unfold setsN
  rw [List.getD_eq_getElem?_getD, List.getElem?_map, List.getElem?_eq_getElem h, List.getD_eq_getElem?_getD, List.getElem?_eq_getElem h]; rfl
end Go.Proofs.YtnldodnpakpeeaaGreat

namespace Go.Proofs.YtnldodnpakpeeaaGreat
open Go.RowKit Vo

theorem i64_and_nat (a b : Nat) (ha : a < 512) (hb : b < 512) : bits BinOp.and IntKind.i64 (a : Int) (b : Int) = ((a &&& b : Nat) : Int) := by
  have hx : a &&& b < 512 := Nat.lt_of_le_of_lt Nat.and_le_left ha
  show IntKind.i64.wrap ((BitVec.ofInt 64 (a : Int) &&& BitVec.ofInt 64 (b : Int)).toNat : Int) = _
  rw [BitVec.toNat_and, ofInt_u64 a (by omega), ofInt_u64 b (by omega)]
  exact IntWalk.i64_in _ (by omega)
/-- One more list is in order. -/
theorem ordK_succ {L : List (List Int)} {S : List Nat} {k : Nat} (h : ordK L S k) (h1 : 1 ≤ k → before (L.getD (k-1) []) (L.getD k []) = true) (h2 : ∀ j, j < k → S.getD k 0 &&& S.getD j 0 ≠ S.getD k 0 ∧ S.getD k 0 &&& S.getD j 0 ≠ S.getD j 0) : ordK L S (k+1) := fun i hi => by
  by_cases e : i = k
  · subst e; exact ⟨h1, h2⟩
  · exact h i (by omega)

end Go.Proofs.YtnldodnpakpeeaaGreat
