/- Contracts of CountWinning, IsProper, IsStrong, AreSameVotes. -/
import Derived.Test.YtibmaofcnibjnaaW3
import Derived.Shelf.Abstract
namespace Go.Proofs.Ytibmaofcnibjnaa
open Go.RowKit Vo

/-- The function value (k, first, cap), called with a set of n members, answers whether it is of the kind p; it writes nothing that was there. -/
structure Asks (p : Nat → Bool) (k : Nat) (first cap : Array Value) (n : Nat) (w : World) : Prop where
  enters : ∀ args W, (callFunc k args).run Try.prog W = .ok (.enter k args) W
  gives : ∀ (W : World) (s : Nat), s < 2^n → Below w.heap.size w W → Calls Try.prog k (first.push (.int .u64 s) ++ cap) W fun e W' => e = .returned (.bool (p s)) ∧ Below W.heap.size W W'
theorem Asks.now {p k first cap n} {w w' : World} (h : Asks p k first cap n w) (hb : Below w.heap.size w w') : Asks p k first cap n w' :=
  ⟨h.enters, fun W s hs hb' => h.gives W s hs (bfrom hb hb')⟩

set_option maxHeartbeats 1000000 in
theorem countSets_any (p : Nat → Bool) (k : Nat) (first cap : Array Value) (n : Nat) (w : World) (hn : n < 10) (ha : Asks p k first cap n w) :
    Calls Try.prog 108 #[.int .i64 n, .func (.func k) first cap] w fun e w' => e = .returned (.int .i64 (cnt p (2^n) : Nat)) ∧ Below w.heap.size w w' := by
  have HA := Lib.hid ha
  have eg := ha.enters
  have h512 := pow_lt (n := n) (by omega)
  have hpos := Nat.two_pow_pos n
  clear ha
  go_enter Try.func108, Try.ntmps108
  go_wp2_with fail
  refine (allMembers_any n _ hn).mono ?_
  rintro e w1 ⟨rfl, rfl⟩
  obtain ⟨N, hN⟩ : ∃ N, N = 2^n := ⟨_, rfl⟩
  have HP := Lib.hid (show (((2^n - 1 : Nat) : Int) + 1) = (N : Int) from by omega)
  rw [← hN] at h512 hpos
  have HN2 := Lib.hid hN
  clear hN
  go_wp2_with fail
  rw [HP.out]
  go_loopw [5, 6, 10] (fun c _ i wr => ∃ j : Nat, j ≤ N ∧ i = .int .u64 j ∧ c = .int .i64 (cnt p j : Nat) ∧ Below w.heap.size w wr) (fun _ _ i _ => N - (intOf i).toNat)
  case atStart => exact ⟨0, Nat.zero_le _, rfl, rfl, Below.refl _ _⟩
  case round =>
    obtain ⟨j, hj, rfl, rfl, hb⟩ := hrel
    have hcl := cnt_le p j
    by_cases hlt : j < N
    · have HS := Lib.hid (show cnt p (j+1) = cnt p j + if p j then 1 else 0 from rfl)
      generalize cnt p j = t at *
      cases hp : p j
      all_goals
        have HB := Lib.hid hp
        rw [hp] at HS
        clear hp
        go_wp2_with (go_at_fn k; refine (HA.out.gives _ j (by rw [← HN2.out]; exact hlt) hb).mono ?_; rintro e w' ⟨rfl, hb'⟩; rw [HB.out])
        go_roundw
        case rel => exact ⟨j + 1, by omega, by go_num, by rw [HS.out]; simp, bfrom hb hb'⟩
        case measure => simp [intOf]; omega
    · obtain rfl : j = N := by omega
      go_wp2
      go_ret
      exact ⟨by rw [← HN2.out]; rfl, hb⟩

end Go.Proofs.Ytibmaofcnibjnaa

namespace Go.Proofs.Ytibmaofcnibjnaa
open Go.RowKit Vo

/-- Who wins, of whatever numbers. -/
def winB (q : Int) (ws : List Int) (n : Nat) (s : Nat) : Bool := decide (q ≤ wtK ws s n)

theorem wins_asks (q : Int) (b off n cap : Nat) (ws : List Int) (w : World) (hn : n < 10) (hok : InK 0 1000 ws n) (hsl : Sl w b off n ws) :
    Asks (winB q ws n) 41 #[.agg #[.int .i64 q, .slice (some ⟨b, off, none⟩) n cap]] #[] n w :=
  ⟨enters_of Try.func41 (by kernel_rfl) rfl, fun W s hs hb => wins_any q b off n cap ws s W hn (by have := pow_lt (n := n) (by omega); omega) hok (hsl.now hb)⟩

def cntB (q : Int) (ws : List Int) (n : Nat) : Int := if goodB q ws n then (cnt (winB q ws n) (2^n) : Nat) else 0
theorem cntB_yes {q ws n} (h : goodB q ws n = true) : cntB q ws n = (cnt (winB q ws n) (2^n) : Nat) := if_pos h
theorem cntB_no {q ws n} (h : goodB q ws n = false) : cntB q ws n = 0 := if_neg (by rw [h]; simp)

def properP (q : Int) (ws : List Int) (n : Nat) (s : Nat) : Bool := !winB q ws n s || !winB q ws n (co n s)
def strongP (q : Int) (ws : List Int) (n : Nat) (s : Nat) : Bool := winB q ws n s || winB q ws n (co n s)

def isProperB (q : Int) (ws : List Int) (n : Nat) : Bool := goodB q ws n && allK (properP q ws n) (2^n)
theorem isProperB_yes {q ws n} (h : goodB q ws n = true) : isProperB q ws n = allK (properP q ws n) (2^n) := by unfold isProperB; rw [h]; rfl
theorem isProperB_no {q ws n} (h : goodB q ws n = false) : isProperB q ws n = false := by unfold isProperB; rw [h]; rfl

def isStrongB (q : Int) (ws : List Int) (n : Nat) : Bool := goodB q ws n && allK (strongP q ws n) (2^n)
theorem isStrongB_yes {q ws n} (h : goodB q ws n = true) : isStrongB q ws n = allK (strongP q ws n) (2^n) := by unfold isStrongB; rw [h]; rfl
theorem isStrongB_no {q ws n} (h : goodB q ws n = false) : isStrongB q ws n = false := by unfold isStrongB; rw [h]; rfl

end Go.Proofs.Ytibmaofcnibjnaa
