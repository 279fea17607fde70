/- Texts of E9, Eb. -/
import Derived.Test.YtnldodnpakpeeaaGreatPkQ17
import Derived.Sort.MapsRangeIn
import Derived.RegionIn
import Derived.Test.YtnldodnpakpeeaaGreatPkQ15
import Derived.Test.YtnldodnpakpeeaaGreatPkQ07
import Derived.Maps.RangeWalk
import Derived.Maps.OwnOps
import Derived.Maps.OwnSet
import Derived.DeepKeys4
import Derived.Outline
namespace Go.Proofs.YtnldodnpakpeeaaGreat
open Go.RowKit Vo

theorem mapLaid : laidOutB Tryz.prog = true := by kernel_rfl
theorem wf_small {a : Int} (h0 : 0 ≤ a) (h1 : a ≤ 9) : (Lit.int .i64 a).wf = true := WalkArith.wf_i64 (by omega)
/-- What the key of a set reads as. -/
def klit (s : Nat) : Lit := .string (keyBytes [.int .i64 (keyAt s 0), .int .i64 (keyAt s 1), .int .i64 (keyAt s 2), .int .i64 (keyAt s 3), .int .i64 (keyAt s 4), .int .i64 (keyAt s 5), .int .i64 (keyAt s 6), .int .i64 (keyAt s 7), .int .i64 (keyAt s 8)])
theorem keyV_cells (s : Nat) : (keyV s).cells.toList = [.int .i64 (keyAt s 0), .int .i64 (keyAt s 1), .int .i64 (keyAt s 2), .int .i64 (keyAt s 3), .int .i64 (keyAt s 4), .int .i64 (keyAt s 5), .int .i64 (keyAt s 6), .int .i64 (keyAt s 7), .int .i64 (keyAt s 8)] := rfl
theorem keyV_inj {s t : Nat} (hs : s < 512) (ht : t < 512) (h : keyV s = keyV t) : s = t := by
  have e := congrArg (fun v : Value => v.cells.toList) h
  simp only [keyV_cells] at e
  simp only [List.cons.injEq, Value.int.injEq, true_and, and_true] at e
  obtain ⟨h0, h1, h2, h3, h4, h5, h6, h7, h8⟩ := e
  refine keyAt_inj hs ht fun j hj => ?_
  have hj' : j = 0 ∨ j = 1 ∨ j = 2 ∨ j = 3 ∨ j = 4 ∨ j = 5 ∨ j = 6 ∨ j = 7 ∨ j = 8 := by omega
  rcases hj' with rfl | rfl | rfl | rfl | rfl | rfl | rfl | rfl | rfl
  · exact h0
  · exact h1
  · exact h2
  · exact h3
  · exact h4
  · exact h5
  · exact h6
  · exact h7
  · exact h8
abbrev DU : Type := DataW Unit
/-- The map has just the sets of M, each at its key. -/
structure MapIs (D : DU) (M : Nat → Bool) : Prop where
  map : Go.Maps.IsMap D
  dom : ∀ s, M s = true → s < 512
  has : ∀ s, s < 512 → Go.Maps.has D (klit s) = M s
  only : ∀ kl, Go.Maps.has D kl = true → ∃ s, s < 512 ∧ kl = klit s
  at_ : ∀ s, M s = true → ∀ zd, D.atKey (klit s) zd = .lit (.int .u64 (s : Int))
theorem MapIs.nil : MapIs (.map []) (fun _ => false) :=
  ⟨Go.Maps.isMap_empty, fun _ h => by simp at h, fun _ _ => rfl, fun _ h => by simp [Go.Maps.has] at h, fun _ h => by simp at h⟩
theorem MapIs.congr {D : DU} {M M' : Nat → Bool} (h : MapIs D M) (e : ∀ s, M s = M' s) : MapIs D M' := by
  have : M = M' := funext e
  rw [← this]; exact h

/-- The sets of the map that are still to come. -/
def toCome (left : Lit → Bool) (s : Nat) : Bool := left (klit s)

section
variable (w : World) {ops : Array Oper} {rest : List Oper} {o : Oper} {a : Act} {Q : Exit → Act → World → Prop}
end
end Go.Proofs.YtnldodnpakpeeaaGreat

namespace Go.Proofs.YtnldodnpakpeeaaGreat
open Go.RowKit Vo
attribute [local go_sem] Oper.semAt_some

/-- What has come: each once, just those that are no longer to come. -/
structure Came (M : Nat → Bool) (left : Lit → Bool) (ps : List Set9) : Prop where
  nodup : (ps.map (·.1)).Nodup
  iff : ∀ s, s ∈ ps.map (·.1) ↔ (M s = true ∧ left (klit s) = false)
theorem Came.start {D : DU} {M : Nat → Bool} (h : MapIs D M) : Came M (Go.Maps.has D) [] := by
  refine ⟨List.Pairwise.nil, fun s => ⟨fun h => by simp at h, fun ⟨h1, h2⟩ => ?_⟩⟩
  rw [h.has s (h.dom s h1), h1] at h2; cases h2
end Go.Proofs.YtnldodnpakpeeaaGreat

namespace Go.Proofs.YtnldodnpakpeeaaGreat
open Go.RowKit Vo

theorem eq_int (d : Nat) (a b : Int) (w : World) : (Op.equalIn (d + 1) 3 (.int .i64 a) (.int .i64 b)).run Tryz.prog w = .ok (a == b) w := run_equalIn_int w d 3 .i64 .i64 a b Tryz.underlying3
theorem part_int (xs : Array Value) (i : Nat) (a : Int) (h : xs[i]? = some (.int .i64 a)) (w : World) : (part 3 xs i).run Tryz.prog w = .ok (.int .i64 a) w := by
  simp [part, Tryz.isAgg3, h]

theorem eq_list (xs ys : Array Value) (f g : Nat → Int) (w : World) : ∀ (l : List Nat), (∀ i ∈ l, xs[i]? = some (.int .i64 (f i)) ∧ ys[i]? = some (.int .i64 (g i))) →
    (forIn l ((none, ()) : Option Bool × Unit) (fun i (_ : Option Bool × Unit) => (do
      let a ← part 3 xs (i * 1)
      let b ← part 3 ys (i * 1)
      let r ← Op.equalIn 9999 3 a b
      if (!r) = true then pure (ForInStep.done (some false, ())) else pure (ForInStep.yield (none, ())) : Sem (ForInStep (Option Bool × Unit))))).run Tryz.prog w = .ok (if l.all (fun i => f i == g i) then (none, ()) else (some false, ())) w
  | [], _ => by simp
  | i :: l, h => by
    obtain ⟨h1, h2⟩ := h i (by simp)
    have ih := eq_list xs ys f g w l (fun j hj => h j (by simp [hj]))
    have heq : (Op.equalIn 9999 3 (.int .i64 (f i)) (.int .i64 (g i))).run Tryz.prog w = .ok (f i == g i) w := eq_int 9998 (f i) (g i) w
    simp only [Nat.mul_one] at ih ⊢
    simp only [List.forIn_cons, Sem.run_bind, part_int xs i _ h1, part_int ys i _ h2, Result.andThen_ok, heq, List.all_cons]
    by_cases he : f i = g i
    · have hb : (f i == g i) = true := by simpa using he
      simp only [hb, Bool.not_true, Bool.false_eq_true, if_false, Sem.run_pure, Result.andThen_ok, Bool.true_and]
      exact ih
    · have hb : (f i == g i) = false := by simpa using he
      simp only [hb, Bool.not_false, if_true, Sem.run_pure, Result.andThen_ok, Bool.false_and, Bool.false_eq_true, if_false]
theorem keys_all {s t : Nat} (hs : s < 512) (ht : t < 512) : ([0, 1, 2, 3, 4, 5, 6, 7, 8] : List Nat).all (fun i => keyAt s i == keyAt t i) = decide (s = t) := by
  rw [Bool.eq_iff_iff, List.all_eq_true, decide_eq_true_iff]
  constructor
  · intro h
    refine keyAt_inj hs ht fun j hj => ?_
    have hj' : j = 0 ∨ j = 1 ∨ j = 2 ∨ j = 3 ∨ j = 4 ∨ j = 5 ∨ j = 6 ∨ j = 7 ∨ j = 8 := by omega
    have := h j (by simp; exact hj')
    simpa using this
  · rintro rfl i _; simp

end Go.Proofs.YtnldodnpakpeeaaGreat

namespace Go.Proofs.YtnldodnpakpeeaaGreat
open Go.RowKit Vo

set_option maxHeartbeats 400000 in
theorem hasAll_any (s t : Nat) (w : World) (hs : s < 512) (ht : t < 512) :
    Calls Tryz.prog 51 #[.int .u64 s, .int .u64 t] w fun e w' => e = .returned (.bool (partB s t)) ∧ w = w' := by
  have hb : bits BinOp.and IntKind.u64 (s : Int) (t : Int) = ((s &&& t : Nat) : Int) := u64_and_nat s t (by omega) (by omega)
  have HB := Lib.hid hb
  clear hb
  go_enter Tryz.func51, Tryz.ntmps51
  go_wp2
  go_ret
  refine ⟨ret_bool ?_, rfl⟩
  rw [HB.out]
  unfold partB
  rw [Bool.eq_iff_iff]
  simp
  omega

theorem nodup_len : ∀ (n : Nat) (l : List Nat), l.Nodup → (∀ s ∈ l, s < n) → l.length ≤ n
  | 0, [], _, _ => by simp
  | 0, s :: l, _, h => by have := h s (by simp); omega
  | n+1, l, hd, h => by
    by_cases hn : n ∈ l
    · have h1 := nodup_len n (l.erase n) (hd.erase n) (fun s hs => by
        have h2 := (hd.mem_erase_iff).1 hs
        have := h s h2.2
        have := h2.1
        omega)
      rw [List.length_erase_of_mem hn] at h1
      omega
    · have h1 := nodup_len n l hd (fun s hs => by
        have h2 : s ≠ n := fun e => hn (by rw [← e]; exact hs)
        have := h s hs
        omega)
      omega

/-- How far the parting has come. -/
structure Parted (S M : Nat → Bool) (left : Lit → Bool) : Prop where
  sub : ∀ s, M s = true → S s = true
  all : ∀ s, minB S s = true → M s = true
  done : ∀ s, M s = true → left (klit s) = false → minB S s = true
theorem Parted.start {S : Nat → Bool} {left : Lit → Bool} (hS : ∀ s, S s = true → s < 512) (hl : ∀ s, S s = true → left (klit s) = true) : Parted S S left :=
  ⟨fun _ h => h, fun s h => ((minB_iff hS).1 h).1, fun s h h2 => by rw [hl s h] at h2; cases h2⟩
theorem Own.nineV {w : World} {s : Nat} (t : TypeId) : Own (w.alloc (.cells #[.int .i64 (keyAt s 0), .int .i64 (keyAt s 1), .int .i64 (keyAt s 2), .int .i64 (keyAt s 3), .int .i64 (keyAt s 4), .int .i64 (keyAt s 5), .int .i64 (keyAt s 6), .int .i64 (keyAt s 7), .int .i64 (keyAt s 8)] t)) w.heap.size t 9 (fun j => .int .i64 (keyAt s j)) :=
  ⟨_, heap_alloc_new w _, by simp, fun i hi => by
    rcases i with _ | _ | _ | _ | _ | _ | _ | _ | _ | i
    all_goals first | rfl | omega⟩

end Go.Proofs.YtnldodnpakpeeaaGreat
