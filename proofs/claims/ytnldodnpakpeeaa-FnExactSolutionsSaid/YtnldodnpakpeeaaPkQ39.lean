/- Texts of Gv. -/
import Derived.Test.YtnldodnpakpeeaaPkQ31
import Derived.Test.YtnldodnpakpeeaaPkQ37
import Derived.Test.YtnldodnpakpeeaaPkQ38
import Derived.Test.YtnldodnpakpeeaaPkQ22
import Derived.Test.YtnldodnpakpeeaaPkQ15
import Derived.Maps.AppendAt
import Derived.Deep.AppendLies
import Derived.Deep.RegionHeld3
import Derived.Outline
namespace Go.Proofs.Ytnldodnpakpeeaa
open Go.RowKit Vo

theorem infoGm : (Try.prog.info? 55).map (fun i => (i.zero, i.size, i.bytes)) = some (some (.agg #[.int .i64 0, .slice none 0 0]), 2, 32) := by kernel_rfl
theorem ownsOtherX {w : World} {base : Nat} {e : TypeId} {size : Nat} {v : Value} {n : Nat} {xs : List Value} (h : w.ownsRow base e size v n xs) {p : Addr} (hp : ∀ g, v.ownBlock = some g → g ≠ p.block) (u : Value) : (w.setCell p u).ownsRow base e size v n xs := by
  obtain ⟨h1, h2⟩ := h
  refine ⟨h1, ?_⟩
  rcases h2 with h2 | ⟨g', cap', cur, hv, hg, hh, r⟩
  · exact Or.inl h2
  · exact Or.inr ⟨g', cap', cur, hv, hg, (Below.heap_setCell w p u g' (hp g' (by rw [hv]; rfl))).trans hh, r⟩
/-- Games by their codes, and what tells their lists. -/
abbrev GP := List (Nat × Value)
def gpV (n : Nat) (P : GP) : List Value := P.flatMap fun p => [.int .i64 n, p.2]
theorem gpV_snoc (n : Nat) (P : GP) (p : Nat × Value) : gpV n (P ++ [p]) = gpV n P ++ [.int .i64 n, p.2] := by simp [gpV]
theorem gpV_len (n : Nat) (P : GP) : (gpV n P).length = P.length * 2 := by
  induction P with
  | nil => rfl
  | cons p P ih => simp only [gpV, List.flatMap_cons, List.length_append, List.length_cons, List.length_nil] at ih ⊢; omega
/-- The lists of a game lie between two blocks, and the row of games lies elsewhere. -/
def GpAt (base n : Nat) (own : Option Nat) (w : World) (p : Nat × Value) : Prop :=
  ∃ lo hi A cp, base ≤ lo ∧ (∀ k, own = some k → k < lo ∨ hi ≤ k) ∧ p.2 = .slice A (leastC n p.1).length cp ∧ Lies (RSS0 (setsL (leastC n p.1)) lo hi p.2) lo hi w
theorem GpAt.grown {base n : Nat} {own own' : Option Nat} {w w' : World} {p : Nat × Value} (h : GpAt base n own w p) (hg : w.grownBy w' own) (hs : own' = own ∨ own' = some w.heap.size) : GpAt base n own' w' p := by
  obtain ⟨lo, hi, A, cp, hb, ha, hp, hl⟩ := h
  refine ⟨lo, hi, A, cp, hb, fun k hk => ?_, hp, Nat.le_trans hl.1 hg.size, fun W hW => hl.2 W fun k h1 h2 => (hW k h1 h2).trans (hg.block k (Nat.lt_of_lt_of_le h2 hl.1) fun e => ?_)⟩
  · rcases hs with rfl | rfl
    · exact ha k hk
    · injection hk with hk
      exact Or.inr (by rw [← hk]; exact hl.1)
  · rcases ha k e.symm with h | h <;> omega
/-- A list of games of the call's own. -/
def GL (base n : Nat) (P : GP) (v : Value) (w : World) : Prop :=
  w.ownsRow base 55 2 v P.length (gpV n P) ∧ ∀ p ∈ P, GpAt base n v.ownBlock w p
theorem GL.rows {base n pl : Nat} {P : GP} {v : Value} {w : World} (e : pl = P.length) (h : GL base n P v w) : w.ownsRow base 55 2 v pl (gpV n P) := by rw [e]; exact h.1
theorem GL.nil (base n : Nat) (w : World) : GL base n [] (.slice none 0 0) w := ⟨World.ownsRow_nil _ _ _ _, fun p h => by simp at h⟩
theorem GL.now {base n : Nat} {P : GP} {v : Value} {w w' : World} (h : GL base n P v w) (hb : Below w.heap.size w w') : GL base n P v w' :=
  ⟨owns_now h.1 hb, fun p hp => (h.2 p hp).grown (grown_below hb) (Or.inl rfl)⟩
theorem GL.set {base n : Nat} {P : GP} {v : Value} {w : World} (h : GL base n P v w) {a : Addr} (ha : a.block < base) (u : Value) : GL base n P v (w.setCell a u) := by
  refine ⟨ownsOtherX h.1 (fun g hg e => by have := (h.1.lt g hg).1; omega) u, fun p hp => ?_⟩
  obtain ⟨lo, hi, A, cp, hb, hx, hv, hl⟩ := h.2 p hp
  refine ⟨lo, hi, A, cp, hb, hx, hv, by simpa [World.setCell] using hl.1, fun W hW => hl.2 W fun k h1 h2 => (hW k h1 h2).trans (Below.heap_setCell _ _ _ _ (by omega))⟩
theorem GL.push {base n : Nat} {P : GP} {v : Value} {w w2 : World} {c : Nat} {x : Value} {B : Option Addr} {cp : Nat} (h : ∀ p ∈ P, GpAt base n v.ownBlock w p) (hx : GpAt base n v.ownBlock w (c, x))
    (hown : w2.ownsRow base 55 2 (.slice B (P.length + 1) cp) (P.length + 1) (gpV n P ++ [.int .i64 n, x])) (hgrow : w.grownBy w2 v.ownBlock) (hat : (Value.slice B (P.length + 1) cp).ownBlock = v.ownBlock ∨ (Value.slice B (P.length + 1) cp).ownBlock = some w.heap.size) :
    GL base n (P ++ [(c, x)]) (.slice B (P.length + 1) cp) w2 := by
  refine ⟨by rw [gpV_snoc, List.length_append]; exact hown, fun p hp => ?_⟩
  rcases List.mem_append.1 hp with hp | hp
  · exact (h p hp).grown hgrow hat
  · obtain rfl : p = (c, x) := by simpa using hp
    exact hx.grown hgrow hat
/-- Whether a code is that of a game that fits clues. -/
def okC (n : Nat) (C : List Clu) (c : Nat) : Bool := c.testBit (2^n - 1) && !c.testBit 0 && !anyU (fun q => !fitP (fun s => c.testBit s) n q) C C.length
/-- Whether a part of a set with one member less, out of the first j members, wins. -/
def mustB (c b : Nat) (M : List Int) : Nat → Bool
  | 0 => false
  | j+1 => mustB c b M j || c.testBit (b - 2^(M.getD j 0).toNat)
theorem mustB_take (c b : Nat) (M : List Int) : ∀ j, j ≤ M.length → mustB c b M j = (M.take j).any fun x => c.testBit (b - 2^x.toNat)
  | 0, _ => by simp [mustB]
  | j+1, h => by
    unfold mustB
    rw [mustB_take c b M j (by omega), List.take_add_one, List.any_append, List.getD_eq_getElem?_getD, List.getElem?_eq_getElem (by omega : j < M.length)]
    simp
theorem mustB_all (c b : Nat) : mustB c b (mem b 9) (mem b 9).length = (List.range 9).any fun i => b.testBit i && c.testBit (b - 2^i) := by
  rw [mustB_take c b _ _ (Nat.le_refl _), List.take_length, Bool.eq_iff_iff, List.any_eq_true, List.any_eq_true]
  constructor
  · rintro ⟨x, hx, h⟩
    obtain ⟨j, hj, rfl, ht⟩ := mem_iff.1 hx
    exact ⟨j, List.mem_range.2 hj, by rw [ht]; simpa using h⟩
  · rintro ⟨j, hj, h⟩
    rw [Bool.and_eq_true] at h
    exact ⟨(j : Int), mem_iff.2 ⟨j, List.mem_range.1 hj, rfl, h.1⟩, by simpa using h.2⟩
end Go.Proofs.Ytnldodnpakpeeaa
