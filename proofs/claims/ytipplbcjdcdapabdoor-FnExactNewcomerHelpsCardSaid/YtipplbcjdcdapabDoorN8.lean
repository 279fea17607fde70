/- Contracts of shares of a whole: the program's list of parts; wholes. -/
import Derived.Test.YtipplbcjdcdapabDoorN5
import Derived.Test.YtipplbcjdcdapabDoorK2
import Derived.Test.YtipplbcjdcdapabDoorN2
import Derived.Test.YtipplbcjdcdapabDoorN4
import Derived.Outline
namespace Go.Proofs.YtipplbcjdcdapabDoor
open Go.RowKit Vo

theorem infoShare : (Tryd.prog.info? 65).map (fun i => (i.zero, i.size, i.bytes)) = some (some (.agg #[.int .i64 0, .int .i64 0]), 2, 16) := by kernel_rfl

/-- A number among a whole, in lowest terms. -/
def share1 (x D : Nat) : Int × Int := (((x / Nat.gcd x D : Nat) : Int), ((D / Nat.gcd x D : Nat) : Int))
def shL (f : Nat → Nat) (D n : Nat) : List (Int × Int) := (List.range n).map fun k => share1 (f k) D
theorem shL_len (f D n) : (shL f D n).length = n := by simp [shL]
theorem shL_succ (f D n) : shL f D (n+1) = shL f D n ++ [share1 (f n) D] := by simp [shL, List.range_succ]
def shV (L : List (Int × Int)) : List Value := L.flatMap fun x => [Value.int .i64 x.1, Value.int .i64 x.2]
theorem shV_append (L M) : shV (L ++ M) = shV L ++ shV M := by simp [shV]
theorem shF_cons (a : Int × Int) (L : List (Int × Int)) (i : Nat) : shF (a :: L) (i + 2) = shF L i := by
  have h1 : (i + 2) % 2 = i % 2 := by omega
  have h2 : (i + 2) / 2 = i / 2 + 1 := by omega
  simp [shF, h1, h2]
theorem shV_get (L : List (Int × Int)) (i : Nat) (h : i < 2 * L.length) : (shV L)[i]? = some (.int .i64 (shF L i)) := by
  induction L generalizing i with
  | nil => simp at h
  | cons a L ih =>
    match i with
    | 0 => simp [shV, shF]
    | 1 => simp [shV, shF]
    | i+2 =>
      rw [shF_cons, ← ih i (by simp at h; omega)]
      simp [shV]
theorem RSh.of_own {w : World} {base cap : Nat} {A : Option Addr} {L : List (Int × Int)} (h : w.ownsRow base 65 2 (.slice A L.length cap) L.length (shV L)) : RSh L base w.heap.size (.slice A L.length cap) w := by
  refine ⟨A, cap, rfl, ?_⟩
  by_cases hn : L.length = 0
  · exact Or.inl hn
  · obtain ⟨h1, h2⟩ := h
    rcases h2 with ⟨_, h2⟩ | ⟨g, cap', cur, hv, hg, hh, h3, h4, h5, h6⟩
    · exact absurd h2 hn
    · injection hv with hA _ hc
      subst hA
      refine Or.inr ⟨g, rfl, hg, (Array.getElem?_eq_some_iff.1 hh).1, cur, hh, by omega, fun i hi => ?_⟩
      rw [← shV_get L i hi, ← h6, List.getElem?_take, if_pos (by omega)]
      simp

/-- A slice of shares of the call's own, and a truth. -/
def ShAt (L : List (Int × Int)) (ok : Bool) (w w' : World) (e : Ending) : Prop :=
  ∃ A cap, e = .returned (.tuple #[.slice A L.length cap, .bool ok]) ∧ w'.ownsRow w.heap.size 65 2 (.slice A L.length cap) L.length (shV L) ∧ Below w.heap.size w w'
theorem ShAt.none_ {w w' : World} (hb : Below w.heap.size w w') : ShAt [] false w w' (.returned (.tuple #[.slice none 0 0, .bool false])) :=
  ⟨none, 0, rfl, World.ownsRow_nil _ _ _ _, hb⟩
theorem ShAt.ans {L : List (Int × Int)} {ok : Bool} {w w' : World} {e : Ending} (h : ShAt L ok w w' e) : Ans (RSh L) ok w w' e := by
  obtain ⟨A, cap, he, ho, hb⟩ := h
  exact ⟨_, he, (RSh.of_own ho).lies (Nat.le_refl _), hb⟩

/-- The function value (k, cap), called with a committee, answers a whole. -/
structure Whole (D : Nat) (k : Nat) (cap : Array Value) (c : Value) (w : World) : Prop where
  enters : ∀ args W, (callFunc k args).run Tryd.prog W = .ok (.enter k args) W
  gives : ∀ (W : World), Below w.heap.size w W → Calls Tryd.prog k ((#[] : Array Value).push c ++ cap) W fun e W' => e = .returned (.int .i64 (D : Nat)) ∧ Below W.heap.size W W'
theorem Whole.now {D k cap c} {w w' : World} (h : Whole D k cap c w) (hb : Below w.heap.size w w') : Whole D k cap c w' := ⟨h.enters, fun W hb' => h.gives W (bfrom hb hb')⟩
/-- A slice, wherever it lies, that reads as these integers. -/
def ReadAt (L : List Int) (w w' : World) (e : Ending) : Prop :=
  ∃ b off cap, e = .returned (.slice (some ⟨b, off, none⟩) L.length cap) ∧ Sl w' b off L.length L ∧ Below w.heap.size w w'
structure Reads (L : List Int) (k : Nat) (c : Value) (w : World) : Prop where
  enters : ∀ args W, (callFunc k args).run Tryd.prog W = .ok (.enter k args) W
  gives : ∀ (W : World), Below w.heap.size w W → Calls Tryd.prog k #[c] W fun e W' => ReadAt L W W' e
theorem Reads.now {L k c} {w w' : World} (h : Reads L k c w) (hb : Below w.heap.size w w') : Reads L k c w' := ⟨h.enters, fun W hb' => h.gives W (bfrom hb hb')⟩
theorem IntsAt.read {L : List Int} {w w' : World} {e : Ending} (h : IntsAt L w w' e) (h0 : 0 < L.length) : ReadAt L w w' e := by
  obtain ⟨A, cap, he, ho, hb⟩ := h
  obtain ⟨g, cap', hv, hg, _, _⟩ := owns_head ho h0
  injection hv with hA _ hc
  subst hA
  have hi : Ints w' g L.length L := Own.of_own ho fun i hi => by simp [hi]
  exact ⟨g, 0, cap, he, hi.sl, hb⟩
theorem Lists.reads {L k c} {w : World} (h : Lists L k c w) (h0 : 0 < L.length) : Reads L k c w := ⟨h.enters, fun W hb => (h.gives W hb).mono fun _ _ h => h.read h0⟩

def okSh (ok : Bool) (L : List (Int × Int)) : List (Int × Int) := if ok then L else []
theorem okSh_yes {ok L} (h : ok = true) : okSh ok L = L := if_pos h
theorem okSh_no {ok L} (h : ok = false) : okSh ok L = [] := if_neg (by rw [h]; simp)

/-- The cells of a row of the call's own that holds numbers of members, at all later worlds. -/
theorem row_reads (f : Nat → Nat) {w : World} {base B : Nat} {A : Option Addr} {n cap : Nat} (h : w.ownsRow base 3 1 (.slice A n cap) n ((perL f n).map (Value.int .i64))) (hn : 1 ≤ n) (hlt : ∀ k, (Value.slice A n cap).ownBlock = some k → k < B) :
    ∃ g, A = some ⟨g, 0, none⟩ ∧ g < B ∧ ∀ W, Below B w W → ∀ j, j < n → W.cell? ⟨g, j, none⟩ = some (.int .i64 (f j : Nat)) := by
  obtain ⟨g, cap', hv, hg, _, _⟩ := owns_head h (by omega)
  injection hv with hA _ hc
  subst hA
  have hgB := hlt g rfl
  have ho : Own w g 3 n (fun i => .int .i64 (f i : Nat)) := Own.of_own h fun i hi => by simp [perL, hi]
  exact ⟨g, rfl, hgB, fun W hb j hj => (Own.below ho hb hgB).cell hj⟩

theorem half_pow {n : Nat} (hn : 1 ≤ n) : 2^n / 2 = 2^(n-1) := by
  obtain ⟨m, rfl⟩ : ∃ m, n = m + 1 := ⟨n - 1, by omega⟩
  rw [Nat.pow_succ]; simp
/-- The swings of all members together. -/
theorem sumN_le2 {f : Nat → Nat} {B n j : Nat} (h : ∀ k, f k ≤ B) (hj : j ≤ n) : sumN f j ≤ B * n := Nat.le_trans (sumN_le fun k _ => h k) (Nat.mul_le_mul_left _ hj)
end Go.Proofs.YtipplbcjdcdapabDoor
