/- Contracts of what asks all sets, where the function that is asked may remember what it answered, in a block of its own. -/
import Derived.Test.YtkckefjpkhjeaabR3
import Derived.Test.YtkckefjpkhjeaabN4
import Derived.Test.YtkckefjpkhjeaabM1
namespace Go.Proofs.Ytkckefjpkhjeaab
open Go.RowKit Vo

/-- The function value (k, first, cap), called with a set of n members in a world where I holds, answers whether it is of the kind p; of what was there it turns the one block 'row' alone, and I holds again. -/
structure AsksR (p : Nat → Bool) (k : Nat) (first cap : Array Value) (n B : Nat) (row : Option Nat) (I : World → Prop) : Prop where
  enters : ∀ args W, (callFunc k args).run Try.prog W = .ok (.enter k args) W
  low : ∀ r, row = some r → r < B
  keeps : ∀ W W', I W → Below B W W' → I W'
  big : ∀ W, I W → B ≤ W.heap.size
  gives : ∀ (W : World) (s : Nat), s < 2^n → I W → Calls Try.prog k (first.push (.int .u64 s) ++ cap) W fun e W' => e = .returned (.bool (p s)) ∧ I W' ∧ W.grownBy W' row

theorem gof {B : Nat} {w w' : World} (row : Option Nat) (h : Below B w w') (hB : w.heap.size ≤ B) : w.grownBy w' row := ⟨h.os, h.tape, h.output, h.size, fun k hk _ => h.block k (by omega)⟩
theorem gstep {a b c : World} {row r2 : Option Nat} (h : a.grownBy b row) (k : b.grownBy c r2) (hr : ∀ j, r2 = some j → a.heap.size ≤ j) : a.grownBy c row :=
  ⟨k.os.trans h.os, k.tape.trans h.tape, k.output.trans h.output, Nat.le_trans h.size k.size, fun i hi hne => (k.block i (Nat.lt_of_lt_of_le hi h.size) (fun e => by have := hr i e.symm; omega)).trans (h.block i hi hne)⟩
theorem gcons {w w1 w2 : World} {row : Option Nat} (hb : Below w.heap.size w w1) (h : w1.grownBy w2 row) : w.grownBy w2 row :=
  ⟨h.os.trans hb.os, h.tape.trans hb.tape, h.output.trans hb.output, Nat.le_trans hb.size h.size, fun k hk hne => (h.block k (Nat.lt_of_lt_of_le hk hb.size) hne).trans (hb.block k hk)⟩
theorem gcell {w w' : World} {row : Option Nat} (h : w.grownBy w' row) {p : Addr} {v : Value} (hc : w.cell? p = some v) (hr : some p.block ≠ row) : w'.cell? p = some v :=
  h.cell hc hr
theorem Own.gnow {w w' : World} {g : Nat} {t : TypeId} {n : Nat} {f : Nat → Value} {row : Option Nat} (h : Own w g t n f) (hb : w.grownBy w' row) (hr : ∀ r, row = some r → r < g) : Own w' g t n f := h.grown hb (fun e => by have := hr g e.symm; omega)
theorem owns_gnow {w w' : World} {base : Nat} {e : TypeId} {size : Nat} {v : Value} {n : Nat} {xs : List Value} {row : Option Nat} (h : w.ownsRow base e size v n xs) (hg : w.grownBy w' row) (hr : ∀ r, row = some r → r < base) : w'.ownsRow base e size v n xs :=
  owns_apart h (fun k hk e => by have := hr k e; have := owns_le h hk; omega) hg

set_option maxHeartbeats 1000000 in
theorem countSetsR_any (p : Nat → Bool) (k : Nat) (first cap : Array Value) (n B : Nat) (row : Option Nat) (I : World → Prop) (w : World) (hn : n < 10) (ha : AsksR p k first cap n B row I) (hI : I w) :
    Calls Try.prog 56 #[.int .i64 n, .func (.func k) first cap] w fun e w' => e = .returned (.int .i64 (cnt p (2^n) : Nat)) ∧ I w' ∧ w.grownBy w' row := by
  have HA := Lib.hid ha
  have eg := ha.enters
  have HI := Lib.hid hI
  have h512 := pow_lt (n := n) (by omega)
  have hpos := Nat.two_pow_pos n
  clear ha hI
  go_enter Try.func56, Try.ntmps56
  go_wp2_with fail
  refine (allMembers_any n _ hn).mono ?_
  rintro e w1 ⟨rfl, rfl⟩
  obtain ⟨N, hN⟩ : ∃ N, N = 2^n := ⟨_, rfl⟩
  have HP := Lib.hid (show (((2^n - 1 : Nat) : Int) + 1) = (N : Int) from by omega)
  rw [← hN] at h512 hpos
  have HN2 := Lib.hid hN
  clear hN
  go_wp2_with fail
  rw [HP.out]
  go_loopw [5, 6, 10] (fun c _ i wr => ∃ j : Nat, j ≤ N ∧ i = .int .u64 j ∧ c = .int .i64 (cnt p j : Nat) ∧ I wr ∧ w.grownBy wr row) (fun _ _ i _ => N - (intOf i).toNat)
  case atStart => exact ⟨0, Nat.zero_le _, rfl, rfl, HI.out, World.grownBy.refl _ _⟩
  case round =>
    obtain ⟨j, hj, rfl, rfl, hir, hg⟩ := hrel
    have HIR := Lib.hid hir
    have HG := Lib.hid hg
    clear hir hg
    have hcl := cnt_le p j
    by_cases hlt : j < N
    · have HS := Lib.hid (show cnt p (j+1) = cnt p j + if p j then 1 else 0 from rfl)
      generalize cnt p j = t at *
      cases hp : p j
      all_goals
        have HB := Lib.hid hp
        rw [hp] at HS
        clear hp
        go_wp2_with (go_at_fn k; refine (HA.out.gives _ j (by rw [← HN2.out]; exact hlt) HIR.out).mono ?_; rintro e w' ⟨rfl, hi', hg'⟩; rw [HB.out]; have HI' := Lib.hid hi'; have HG' := Lib.hid hg'; clear hi' hg')
        go_roundw
        case rel => exact ⟨j + 1, by omega, by go_num, by rw [HS.out]; simp, HI'.out, HG.out.trans HG'.out⟩
        case measure => simp [intOf]; omega
    · obtain rfl : j = N := by omega
      go_wp2
      go_ret
      exact ⟨by rw [← HN2.out]; rfl, HIR.out, HG.out⟩

/-- A row of the call's own of these sets; of what was there one block alone has turned. -/
def SetsAtR (base : Nat) (L : List Nat) (row : Option Nat) (I : World → Prop) (w w' : World) (e : Ending) : Prop :=
  ∃ A cap, e = .returned (.slice A L.length cap) ∧ w'.ownsRow base 106 1 (.slice A L.length cap) L.length (setsV L) ∧ I w' ∧ w.grownBy w' row

end Go.Proofs.Ytkckefjpkhjeaab
