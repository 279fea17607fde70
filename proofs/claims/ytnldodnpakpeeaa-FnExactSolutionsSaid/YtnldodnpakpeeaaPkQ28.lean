/- Texts of J5, J7. -/
import Derived.Test.YtnldodnpakpeeaaPkQ27
import Derived.Outline
import Derived.Test.YtnldodnpakpeeaaPkQ08
import Derived.Test.YtnldodnpakpeeaaPkQ05
namespace Go.Proofs.Ytnldodnpakpeeaa
open Go.RowKit Vo


set_option maxRecDepth 20000 in
set_option maxHeartbeats 1000000 in
theorem isProperRule_any (p : Nat → Bool) (k : Nat) (first cap : Array Value) (n : Nat) (w : World) (hn : n < 10) (ha : Asks p k first cap n w) :
    Calls Try.prog 238 #[.int .i64 n, .func (.func k) first cap] w fun e w' => e = .returned (.bool (allK (properS p n) (2^n))) ∧ Below w.heap.size w w' := by
  have b1 := below1 w (.cells #[.int .i64 n] 3)
  have x1 := Box1.new 3 w (.int .i64 n)
  have b2 := b1.alloc (by simp) (.cells #[.func (.func k) first cap] 92)
  have x2 := Box1.new 92 (w.alloc (.cells #[.int .i64 n] 3)) (.func (.func k) first cap)
  have x1' := x1.alloc (.cells #[.func (.func k) first cap] 92)
  simp only [World.size_alloc] at x2
  have HA := Lib.hid (show Asks (properS p n) 245 #[] #[.pointer (some ⟨w.heap.size + 1, 0, none⟩), .pointer (some ⟨w.heap.size, 0, none⟩)] n _ from
    ⟨enters_of Try.func245 (by kernel_rfl) rfl, fun W s h hb => properRule1_any p k first cap n _ _ s W hn h (ha.now (bfrom b2 hb)) (x2.now hb) (x1'.now hb)⟩)
  have HB := Lib.hid (areAllSets_any (properS p n) _ _ _ n _ hn HA.out)
  have c1 := x1'.cell
  clear ha x1 x1' x2
  obtain ⟨a, haa⟩ : ∃ a, a = allK (properS p n) (2^n) := ⟨_, rfl⟩
  rw [← haa] at HB ⊢
  clear haa
  go_enter Try.func238, Try.ntmps238
  go_wp2_with fail
  refine HB.out.mono ?_
  rintro e w3 ⟨rfl, hb3⟩
  go_wp2
  go_ret
  exact ⟨rfl, bfrom b2 hb3⟩

set_option maxRecDepth 20000 in
set_option maxHeartbeats 1000000 in
theorem gProper_any (S : List Nat) (q base k cap : Nat) (A : Option Addr) (w : World) (hq : q ≤ 9) (hk : k = S.length) (hs : k ≤ 1048576) (hS : ∀ t ∈ S, t < 512) (h1 : w.ownsRow base 107 1 (.slice A k cap) k (setsV S)) :
    Calls Try.prog 221 #[.agg #[.int .i64 q, .slice A k cap]] w fun e w' => e = .returned (.bool (allK (properS (winS S) q) (2^q))) ∧ Below w.heap.size w w' := by
  have hx := BoxT.new 95 w (.int .i64 q) (.slice A k cap)
  have hb0 := below1 w (.cells #[.int .i64 q, .slice A k cap] 95)
  have HA := Lib.hid (gWins_asks S q base k cap q A _ hq hk hs hS (owns_now h1 hb0))
  have HB := Lib.hid (isProperRule_any (winS S) _ _ _ q _ (by omega) HA.out)
  obtain ⟨c0, c1⟩ := hx.cells
  obtain ⟨a, haa⟩ : ∃ a, a = allK (properS (winS S) q) (2^q) := ⟨_, rfl⟩
  rw [← haa] at HB ⊢
  clear haa h1 hk hS hx
  go_enter Try.func221, Try.ntmps221
  go_wp2_with fail
  refine HB.out.mono ?_
  rintro e w3 ⟨rfl, hb3⟩
  go_wp2
  go_ret
  exact ⟨rfl, bfrom hb0 hb3⟩

def properG (m : Int) (L : List (List Int)) : Bool := goodG m L && allK (properS (winS (setsN L)) m.toNat) (2^m.toNat)
theorem properG_yes {q : Nat} {L : List (List Int)} (h : goodG (q : Int) L = true) : properG (q : Int) L = allK (properS (winS (setsN L)) q) (2^q) := by unfold properG; rw [h, Int.toNat_natCast]; rfl
theorem properG_no {m : Int} {L : List (List Int)} (h : goodG m L = false) : properG m L = false := by unfold properG; rw [h]; rfl

set_option maxRecDepth 20000 in
set_option maxHeartbeats 1000000 in
theorem isStrongRule_any (p : Nat → Bool) (k : Nat) (first cap : Array Value) (n : Nat) (w : World) (hn : n < 10) (ha : Asks p k first cap n w) :
    Calls Try.prog 239 #[.int .i64 n, .func (.func k) first cap] w fun e w' => e = .returned (.bool (allK (strongS p n) (2^n))) ∧ Below w.heap.size w w' := by
  have b1 := below1 w (.cells #[.int .i64 n] 3)
  have x1 := Box1.new 3 w (.int .i64 n)
  have b2 := b1.alloc (by simp) (.cells #[.func (.func k) first cap] 92)
  have x2 := Box1.new 92 (w.alloc (.cells #[.int .i64 n] 3)) (.func (.func k) first cap)
  have x1' := x1.alloc (.cells #[.func (.func k) first cap] 92)
  simp only [World.size_alloc] at x2
  have HA := Lib.hid (show Asks (strongS p n) 247 #[] #[.pointer (some ⟨w.heap.size + 1, 0, none⟩), .pointer (some ⟨w.heap.size, 0, none⟩)] n _ from
    ⟨enters_of Try.func247 (by kernel_rfl) rfl, fun W s h hb => strongRule1_any p k first cap n _ _ s W hn h (ha.now (bfrom b2 hb)) (x2.now hb) (x1'.now hb)⟩)
  have HB := Lib.hid (areAllSets_any (strongS p n) _ _ _ n _ hn HA.out)
  have c1 := x1'.cell
  clear ha x1 x1' x2
  obtain ⟨a, haa⟩ : ∃ a, a = allK (strongS p n) (2^n) := ⟨_, rfl⟩
  rw [← haa] at HB ⊢
  clear haa
  go_enter Try.func239, Try.ntmps239
  go_wp2_with fail
  refine HB.out.mono ?_
  rintro e w3 ⟨rfl, hb3⟩
  go_wp2
  go_ret
  exact ⟨rfl, bfrom b2 hb3⟩

set_option maxRecDepth 20000 in
set_option maxHeartbeats 1000000 in
theorem gStrong_any (S : List Nat) (q base k cap : Nat) (A : Option Addr) (w : World) (hq : q ≤ 9) (hk : k = S.length) (hs : k ≤ 1048576) (hS : ∀ t ∈ S, t < 512) (h1 : w.ownsRow base 107 1 (.slice A k cap) k (setsV S)) :
    Calls Try.prog 222 #[.agg #[.int .i64 q, .slice A k cap]] w fun e w' => e = .returned (.bool (allK (strongS (winS S) q) (2^q))) ∧ Below w.heap.size w w' := by
  have hx := BoxT.new 95 w (.int .i64 q) (.slice A k cap)
  have hb0 := below1 w (.cells #[.int .i64 q, .slice A k cap] 95)
  have HA := Lib.hid (gWins_asks S q base k cap q A _ hq hk hs hS (owns_now h1 hb0))
  have HB := Lib.hid (isStrongRule_any (winS S) _ _ _ q _ (by omega) HA.out)
  obtain ⟨c0, c1⟩ := hx.cells
  obtain ⟨a, haa⟩ : ∃ a, a = allK (strongS (winS S) q) (2^q) := ⟨_, rfl⟩
  rw [← haa] at HB ⊢
  clear haa h1 hk hS hx
  go_enter Try.func222, Try.ntmps222
  go_wp2_with fail
  refine HB.out.mono ?_
  rintro e w3 ⟨rfl, hb3⟩
  go_wp2
  go_ret
  exact ⟨rfl, bfrom hb0 hb3⟩

def strongG (m : Int) (L : List (List Int)) : Bool := goodG m L && allK (strongS (winS (setsN L)) m.toNat) (2^m.toNat)
theorem strongG_yes {q : Nat} {L : List (List Int)} (h : goodG (q : Int) L = true) : strongG (q : Int) L = allK (strongS (winS (setsN L)) q) (2^q) := by unfold strongG; rw [h, Int.toNat_natCast]; rfl
theorem strongG_no {m : Int} {L : List (List Int)} (h : goodG m L = false) : strongG m L = false := by unfold strongG; rw [h]; rfl

end Go.Proofs.Ytnldodnpakpeeaa

namespace Go.Proofs.Ytnldodnpakpeeaa
open Go.RowKit Vo

/-- All members of these sets together; the members of a set that are in each of these. -/
def orK (S : List Nat) : Nat → Nat
  | 0 => 0
  | k+1 => orK S k ||| S.getD k 0
def andK (d : Nat) (S : List Nat) : Nat → Nat
  | 0 => d
  | k+1 => andK d S k &&& S.getD k 0
theorem andK_le (d : Nat) (S : List Nat) : ∀ k, andK d S k ≤ d
  | 0 => Nat.le_refl _
  | k+1 => Nat.le_trans Nat.and_le_left (andK_le d S k)
theorem orK_lt {S : List Nat} {n : Nat} (h : ∀ i, i < S.length → S.getD i 0 < 2^n) : ∀ k, k ≤ S.length → orK S k < 2^n
  | 0, _ => Nat.two_pow_pos n
  | k+1, hk => Nat.or_lt_two_pow (orK_lt h k (by omega)) (h k (by omega))
theorem strip_orK {S : List Nat} {n : Nat} (hn : n ≤ 9) (h : ∀ i, i < S.length → S.getD i 0 < 2^n) : ∀ k, k ≤ S.length → strip (2^n - 1) (S.take k) = co n (orK S k)
  | 0, _ => by simp [strip, orK, co]
  | k+1, hk => by
    rw [strip_succ _ _ _ (by omega), strip_orK hn h k (by omega)]
    have ho := orK_lt h k (by omega)
    have hs := h k (by omega)
    have ho2 := orK_lt h (k+1) hk
    have h512 := pow_lt hn
    have h64 : S.getD k 0 < 2^64 := by omega
    apply Nat.eq_of_testBit_eq
    intro i
    rw [Nat.testBit_and, testBit_co ho, testBit_co ho2, show 18446744073709551615 - S.getD k 0 = co 64 (S.getD k 0) from rfl, testBit_co h64]
    simp only [orK, Nat.testBit_or]
    by_cases hi : i < n
    · simp [hi, show i < 64 from by omega]
    · simp [hi]

set_option maxRecDepth 20000 in
set_option maxHeartbeats 2000000 in
theorem membersOfEach_any (S : List Nat) (n base k cap : Nat) (A : Option Addr) (w : World) (hn : n ≤ 9) (hk : k = S.length) (hs : k ≤ 1048576) (hS : ∀ i, i < S.length → S.getD i 0 < 2^n) (h1 : w.ownsRow base 107 1 (.slice A k cap) k (setsV S)) :
    Calls Try.prog 219 #[.int .i64 n, .slice A k cap] w fun e w' => e = .returned (.int .u64 (andK (2^n-1) S k : Nat)) ∧ w = w' := by
  have h512 := pow_lt hn
  have HC1 := Lib.hid (show ∀ j, j < k → ∃ g, A = some ⟨g, 0, none⟩ ∧ w.cell? ⟨g, j, none⟩ = some (.int .u64 (S.getD j 0 : Nat)) ∧ S.getD j 0 < 512 from fun j h => by
    obtain ⟨g, cap', hv, hg, _, _⟩ := owns_head h1 (by omega)
    obtain ⟨rfl, rfl⟩ : A = some ⟨g, 0, none⟩ ∧ cap = cap' := by simpa using hv
    have ho : Own w g 107 k (fun i => .int .u64 (S.getD i 0 : Nat)) := Own.of_own h1 (fun i hi => by
      have : i < S.length := by omega
      simp [setsV, List.getD_eq_getElem?_getD, this])
    exact ⟨g, rfl, ho.cell h, by have := hS j (by omega); omega⟩)
  have HD := Lib.hid (show ∀ j, andK (2^n-1) S j < 512 from fun j => by have := andK_le (2^n-1) S j; omega)
  have HSS := Lib.hid (show ∀ j, andK (2^n-1) S (j+1) = andK (2^n-1) S j &&& S.getD j 0 from fun _ => rfl)
  clear h1 hk hS
  go_enter Try.func219, Try.ntmps219
  go_wp2_with fail
  refine (allMembers_any n _ (by omega)).mono ?_
  rintro e w1 ⟨rfl, rfl⟩
  go_wp2_with fail
  go_loopw [5, 7, 12] (fun v _ i wr => ∃ j : Nat, j ≤ k ∧ i = .int .i64 j ∧ v = .int .u64 (andK (2^n-1) S j : Nat) ∧ wr = w) (fun _ _ i _ => k - (intOf i).toNat)
  case atStart => exact ⟨0, Nat.zero_le _, rfl, rfl, rfl⟩
  case round =>
    obtain ⟨j, hj, rfl, rfl, rfl⟩ := hrel
    have hdj := HD.out j
    by_cases hlt : j < k
    · obtain ⟨g, rfl, hcell, hs512⟩ := HC1.out j hlt
      have HST := Lib.hid (show bits BinOp.and IntKind.u64 (andK (2^n-1) S j : Nat) (S.getD j 0 : Nat) = (andK (2^n-1) S (j+1) : Nat) from by
        rw [HSS.out j]; exact u64_and_nat _ _ (by omega) (by omega))
      obtain ⟨d', hd'⟩ : ∃ d', d' = andK (2^n-1) S (j+1) := ⟨_, rfl⟩
      rw [← hd'] at HST
      have HD' := Lib.hid hd'
      clear hd'
      generalize S.getD j 0 = s at *
      generalize andK (2^n-1) S j = d at *
      go_wp2
      go_roundw
      case rel => exact ⟨j + 1, by omega, by go_num, by rw [HST.out, HD'.out], trivial⟩
      case measure => simp [intOf]; omega
    · obtain rfl : j = k := by omega
      go_wp2
      go_ret
      exact ⟨rfl, rfl⟩

theorem mem9_len (s : Nat) : (mem s 9).length ≤ 1048576 := by have := mem_len s 9; omega
def idleL (m : Int) (L : List (List Int)) : List Int := if goodG m L then mem (co m.toNat (orK (setsN L) L.length)) 9 else []
theorem idleL_yes {q : Nat} {L : List (List Int)} (h : goodG (q : Int) L = true) : idleL (q : Int) L = mem (co q (orK (setsN L) L.length)) 9 := by unfold idleL; rw [if_pos h, Int.toNat_natCast]
theorem idleL_no {m : Int} {L : List (List Int)} (h : goodG m L = false) : idleL m L = [] := if_neg (by rw [h]; simp)
theorem idleL_len (m : Int) (L : List (List Int)) : (idleL m L).length ≤ 1048576 := by
  unfold idleL; split
  · exact mem9_len _
  · simp
def neededL (m : Int) (L : List (List Int)) : List Int := if goodG m L then mem (andK (2^m.toNat-1) (setsN L) L.length) 9 else []
theorem neededL_yes {q : Nat} {L : List (List Int)} (h : goodG (q : Int) L = true) : neededL (q : Int) L = mem (andK (2^q-1) (setsN L) L.length) 9 := by unfold neededL; rw [if_pos h, Int.toNat_natCast]
theorem neededL_no {m : Int} {L : List (List Int)} (h : goodG m L = false) : neededL m L = [] := if_neg (by rw [h]; simp)
theorem neededL_len (m : Int) (L : List (List Int)) : (neededL m L).length ≤ 1048576 := by
  unfold neededL; split
  · exact mem9_len _
  · simp
theorem Ans.noInts {w w' : World} (hb : Below w.heap.size w w') : Ans (RS []) false w w' (.returned (.tuple #[.slice none 0 0, .bool false])) :=
  ⟨_, rfl, RS.lies ⟨none, 0, rfl, Or.inl rfl⟩ (Nat.le_refl _), hb⟩
theorem setsN_getD_lt {q : Nat} {L : List (List Int)} (hq : q ≤ 9) (hr : rowsB q L = true) : ∀ i, i < (setsN L).length → (setsN L).getD i 0 < 2^q := fun _ hi => setsN_lt hq hr _ (getD_mem hi)

end Go.Proofs.Ytnldodnpakpeeaa
