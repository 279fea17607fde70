/- Words for the memory that the calls of this program read and make, and closed facts on its types. -/
import Derived.Test.YtibmaofcnibjnaaProg
import Derived.Test.YtibmaofcnibjnaaMath
import Derived.WalkKit
import Derived.WalkSpells
import Derived.WalkLawsBesides
import Derived.BigQuiet
import Derived.Deep.QuietTactic
import Derived.Deep.OwnRows
namespace Go.Proofs.Ytibmaofcnibjnaa
open Go.RowKit

theorem infoBool : (Try.prog.info? 4).map (fun i => (i.zero, i.size, i.bytes)) = some (some (.bool false), 1, 1) := by kernel_rfl
theorem infoInt : (Try.prog.info? 3).map (fun i => (i.zero, i.size, i.bytes)) = some (some (.int .i64 0), 1, 8) := by kernel_rfl

/-- Block g holds, unfrozen, n cells (and perhaps more) of type t, cell i being f i. -/
def Own (w : World) (g : Nat) (t : TypeId) (n : Nat) (f : Nat → Value) : Prop :=
  ∃ c : Array Value, w.heap[g]? = some (.cells c t (0, 0)) ∧ n ≤ c.size ∧ ∀ i, i < n → c[i]? = some (f i)

namespace Own
variable {w w' : World} {g : Nat} {t : TypeId} {n : Nat} {f f' : Nat → Value}
theorem cell (h : Own w g t n f) {i : Nat} (hi : i < n) : w.cell? ⟨g, i, none⟩ = some (f i) := by
  obtain ⟨c, hb, _, hc⟩ := h
  simp [World.cell?, hb, hc i hi]
theorem frozen (h : Own w g t n f) (i : Nat) : w.frozen? ⟨g, i, none⟩ = false := by
  obtain ⟨c, hb, _, _⟩ := h
  simp [World.frozen?, hb]
theorem lt (h : Own w g t n f) : g < w.heap.size := by
  obtain ⟨c, hb, _, _⟩ := h
  exact (Array.getElem?_eq_some_iff.1 hb).1
theorem of_block (h : Own w g t n f) (e : w'.heap[g]? = w.heap[g]?) : Own w' g t n f := by
  obtain ⟨c, hb, hn, hc⟩ := h
  exact ⟨c, e.trans hb, hn, hc⟩
theorem congr (h : Own w g t n f) (e : ∀ i, i < n → f i = f' i) : Own w g t n f' := by
  obtain ⟨c, hb, hn, hc⟩ := h
  exact ⟨c, hb, hn, fun i hi => by rw [hc i hi, e i hi]⟩
theorem less {m : Nat} (h : Own w g t n f) (hm : m ≤ n) : Own w g t m f := by
  obtain ⟨c, hb, hn, hc⟩ := h
  exact ⟨c, hb, by omega, fun i hi => hc i (by omega)⟩
theorem below {B : Nat} (h : Own w g t n f) (hb : Below B w w') (hg : g < B) : Own w' g t n f := h.of_block (hb.block g hg)
theorem alloc (h : Own w g t n f) (o : Obj) : Own (w.alloc o) g t n f := h.of_block (Below.heap_alloc w o g h.lt)
theorem drew (h : Own w g t n f) : Own w.drew g t n f := h
theorem far (h : Own w g t n f) {p : Addr} (hp : g ≠ p.block) (u : Value) : Own (w.setCell p u) g t n f := h.of_block (Below.heap_setCell w p u g hp)
theorem set (h : Own w g t n f) (i : Nat) (v : Value) : Own (w.setCell ⟨g, i, none⟩ v) g t n (fun j => if j = i then v else f j) := by
  obtain ⟨c, hb, hn, hc⟩ := h
  refine ⟨c.setIfInBounds i v, ?_, by simpa using hn, fun j hj => ?_⟩
  · simp [World.setCell, Array.getElem?_modify, hb]
  · rw [Array.getElem?_setIfInBounds]
    by_cases e : j = i
    · subst e; simp; omega
    · rw [if_neg (fun h => e h.symm)]; show c[j]? = some (if j = i then v else f j); rw [if_neg e]; exact hc j hj
theorem grown {row : Option Nat} (h : Own w g t n f) (hb : w.grownBy w' row) (hg : some g ≠ row) : Own w' g t n f := h.of_block (hb.block g h.lt hg)
theorem of_row (h : w.rowIs g t n f) : Own w g t n f := by
  obtain ⟨c, hb, hn, hc⟩ := h
  exact ⟨c, hb, by omega, hc⟩
theorem of_own {base cap : Nat} {xs : List Value} (h : w.ownsRow base t 1 (.slice (some ⟨g, 0, none⟩) n cap) n xs) (hf : ∀ i, i < n → xs[i]? = some (f i)) : Own w g t n f := by
  obtain ⟨h1, h2⟩ := h
  rcases h2 with ⟨h2, _⟩ | ⟨g', cap', cur, hv, hg, hh, h3, h4, h5, h6⟩
  · cases h2
  · injection hv with hv1 hv2 hv3
    injection hv1 with hv1
    injection hv1 with hv1
    subst hv1
    refine ⟨cur, hh, by omega, fun i hi => ?_⟩
    rw [← hf i hi, ← h6, List.getElem?_take, if_pos (by omega)]
    simp
end Own

theorem owns_now {w w' : World} {base : Nat} {e : TypeId} {size : Nat} {v : Value} {n : Nat} {xs : List Value} (h : w.ownsRow base e size v n xs) (hb : Below w.heap.size w w') : w'.ownsRow base e size v n xs := by
  obtain ⟨h1, h2⟩ := h
  refine ⟨h1, ?_⟩
  rcases h2 with h2 | ⟨g, cap, cur, hv, hg, hh, r⟩
  · exact Or.inl h2
  · exact Or.inr ⟨g, cap, cur, hv, hg, (hb.block g (Array.getElem?_eq_some_iff.1 hh).1).trans hh, r⟩
theorem owns_ne {w : World} {base : Nat} {e : TypeId} {size : Nat} {v : Value} {n : Nat} {xs : List Value} (h : w.ownsRow base e size v n xs) {g : Nat} (hg : g < base) : some g ≠ v.ownBlock := by
  obtain ⟨h1, h2⟩ := h
  rcases h2 with ⟨h2, _⟩ | ⟨g', cap, cur, hv, hg', hh, r⟩
  · rw [h2]; simp [Value.ownBlock]
  · rw [hv]; simp [Value.ownBlock]; omega
theorem owns_le {w : World} {base : Nat} {e : TypeId} {size : Nat} {v : Value} {n : Nat} {xs : List Value} (h : w.ownsRow base e size v n xs) {k : Nat} (hk : v.ownBlock = some k) : base ≤ k := by
  obtain ⟨h1, h2⟩ := h
  rcases h2 with ⟨h2, _⟩ | ⟨g', cap, cur, hv, hg', hh, r⟩
  · rw [h2] at hk; simp [Value.ownBlock] at hk
  · rw [hv] at hk; simp [Value.ownBlock] at hk; omega
theorem owns_lt {w : World} {base : Nat} {e : TypeId} {size : Nat} {v : Value} {n : Nat} {xs : List Value} (h : w.ownsRow base e size v n xs) {k : Nat} (hk : v.ownBlock = some k) : k < w.heap.size := by
  obtain ⟨h1, h2⟩ := h
  rcases h2 with ⟨h2, _⟩ | ⟨g', cap, cur, hv, hg', hh, r⟩
  · rw [h2] at hk; simp [Value.ownBlock] at hk
  · rw [hv] at hk; simp [Value.ownBlock] at hk; subst hk; exact (Array.getElem?_eq_some_iff.1 hh).1
/-- A slice that owns at least one cell has a head. -/
theorem owns_head {w : World} {base : Nat} {e : TypeId} {v : Value} {n : Nat} {xs : List Value} (h : w.ownsRow base e 1 v n xs) (hn : 0 < n) : ∃ g cap, v = .slice (some ⟨g, 0, none⟩) n cap ∧ base ≤ g ∧ n ≤ cap ∧ cap ≤ maxLen := by
  obtain ⟨h1, h2⟩ := h
  rcases h2 with ⟨_, h2⟩ | ⟨g', cap, cur, hv, hg', hh, h3, h4, r⟩
  · omega
  · exact ⟨g', cap, hv, hg', h3, h4⟩

/-- Block g holds these n integers. -/
def Ints (w : World) (g : Nat) (n : Nat) (xs : List Int) : Prop := Own w g 3 n (fun i => .int .i64 (xs.getD i 0))

/-- The n cells behind an address hold these integers. -/
structure Sl (w : World) (b off n : Nat) (xs : List Int) : Prop where
  lt : b < w.heap.size
  cell : ∀ j, j < n → w.cell? ⟨b, off + j, none⟩ = some (.int .i64 (xs.getD j 0))
theorem Sl.below {w w' : World} {B b off n : Nat} {xs : List Int} (h : Sl w b off n xs) (hb : Below B w w') (hB : b < B) : Sl w' b off n xs :=
  ⟨Nat.lt_of_lt_of_le h.lt hb.size, fun j hj => (hb.cell (p := ⟨b, off + j, none⟩) hB).trans (h.cell j hj)⟩
theorem Sl.now {w w' : World} {b off n : Nat} {xs : List Int} (h : Sl w b off n xs) (hb : Below w.heap.size w w') : Sl w' b off n xs := h.below hb h.lt
theorem Sl.alloc {w : World} {b off n : Nat} {xs : List Int} (h : Sl w b off n xs) (o : Obj) : Sl (w.alloc o) b off n xs := h.now ((Below.refl _ _).alloc (Nat.le_refl _) _)
theorem Sl.drewN {w : World} {b off n : Nat} {xs : List Int} (h : Sl w b off n xs) (k : Nat) : Sl (w.drewN k) b off n xs := ⟨h.lt, h.cell⟩
theorem Sl.drew {w : World} {b off n : Nat} {xs : List Int} (h : Sl w b off n xs) : Sl w.drew b off n xs := ⟨h.lt, h.cell⟩
theorem Ints.sl {w : World} {g n : Nat} {xs : List Int} (h : Ints w g n xs) : Sl w g 0 n xs := ⟨h.lt, fun j hj => by rw [Nat.zero_add]; exact h.cell hj⟩

theorem below1 (w : World) (o : Obj) : Below w.heap.size w (w.alloc o) := (Below.refl _ _).alloc (Nat.le_refl _) _
theorem bfrom {w w1 w2 : World} (h : Below w.heap.size w w1) (k : Below w1.heap.size w1 w2) : Below w.heap.size w w2 := h.trans (k.mono h.size)

/-- All old cells and marks read as before. -/
theorem bcell {B : Nat} {w w1 : World} (hb : Below B w w1) : (∀ b o, b < B → w1.cell? ⟨b, o, none⟩ = w.cell? ⟨b, o, none⟩) ∧ (∀ b o, b < B → w1.frozen? ⟨b, o, none⟩ = w.frozen? ⟨b, o, none⟩) :=
  ⟨fun b o h => hb.cell (p := ⟨b, o, none⟩) h, fun b o h => hb.frozen (p := ⟨b, o, none⟩) h⟩

/-- Block g is the box of a struct of two cells. -/
def BoxT (t : TypeId) (w : World) (g : Nat) (u v : Value) : Prop := w.heap[g]? = some (.cells #[u, v] t (0, 0))
namespace BoxT
variable {t : TypeId} {w w' : World} {g : Nat} {u v : Value}
theorem lt (h : BoxT t w g u v) : g < w.heap.size := (Array.getElem?_eq_some_iff.1 h).1
theorem cells (h : BoxT t w g u v) : w.cell? ⟨g, 0, none⟩ = some u ∧ w.cell? ⟨g, 1, none⟩ = some v := by
  unfold BoxT at h; exact ⟨by simp [World.cell?, h], by simp [World.cell?, h]⟩
theorem now (h : BoxT t w g u v) (hb : Below w.heap.size w w') : BoxT t w' g u v := (hb.block g h.lt).trans h
theorem of_below {B : Nat} (h : BoxT t w g u v) (hb : Below B w w') (hg : g < B) : BoxT t w' g u v := (hb.block g hg).trans h
theorem drew (h : BoxT t w g u v) : BoxT t w.drew g u v := h
theorem drewN (h : BoxT t w g u v) (k : Nat) : BoxT t (w.drewN k) g u v := h
theorem alloc (h : BoxT t w g u v) (o : Obj) : BoxT t (w.alloc o) g u v := h.now ((Below.refl _ _).alloc (Nat.le_refl _) _)
theorem far (h : BoxT t w g u v) {p : Addr} (hp : g ≠ p.block) (x : Value) : BoxT t (w.setCell p x) g u v := (Below.heap_setCell w p x g hp).trans h
theorem grown {row : Option Nat} (h : BoxT t w g u v) (hb : w.grownBy w' row) (hg : some g ≠ row) : BoxT t w' g u v := (hb.block g h.lt hg).trans h
theorem new (t : TypeId) (w : World) (u v : Value) : BoxT t (w.alloc (.cells #[u, v] t)) w.heap.size u v := heap_alloc_new w _
end BoxT
/-- The box of a committee. -/
abbrev Box (w : World) (g : Nat) (u v : Value) : Prop := BoxT 24 w g u v
theorem Box.new (w : World) (u v : Value) : Box (w.alloc (.cells #[u, v] 24)) w.heap.size u v := BoxT.new _ w u v

theorem ret_int {k : IntKind} {a b : Int} (h : a = b) : Ending.returned (.int k a) = .returned (.int k b) := by rw [h]
theorem ret_bool {a b : Bool} (h : a = b) : Ending.returned (.bool a) = .returned (.bool b) := by rw [h]
end Go.Proofs.Ytibmaofcnibjnaa
