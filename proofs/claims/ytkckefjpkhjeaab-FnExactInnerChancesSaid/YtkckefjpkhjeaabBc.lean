/- Contracts: some committee of a list is of a kind; what are committees, what are chambers. -/
import Derived.Test.YtkckefjpkhjeaabBa
import Derived.Test.YtkckefjpkhjeaabW4
import Derived.Test.YtkckefjpkhjeaabB1
namespace Go.Proofs.Ytkckefjpkhjeaab
open Go.RowKit Vo

/-- Is any one of the first k of the kind? -/
def anyK (p : Nat → Bool) (k : Nat) : Bool := !allK (fun i => !p i) k
theorem anyK_yes {p : Nat → Bool} {k j : Nat} (hj : j < k) (h : p j = true) : anyK p k = true := by
  unfold anyK; rw [allK_false j hj (by rw [h]; rfl)]; rfl
theorem anyK_no {p : Nat → Bool} {k : Nat} (h : ∀ j, j < k → p j = false) : anyK p k = false := by
  unfold anyK; rw [allK_iff.2 (fun j hj => by rw [h j hj]; rfl)]; rfl

/-- The function value (k, first, cap), called with the i-th one of these committees, answers p i; it writes nothing that was there. -/
structure AsksC (p : Nat → Bool) (k : Nat) (first cap : Array Value) (n : Nat) (C : List (Int × List Int)) (w : World) : Prop where
  enters : ∀ args W, (callFunc k args).run Try.prog W = .ok (.enter k args) W
  gives : ∀ (W : World) (i : Nat) (A : Option Addr) (cp : Nat), i < n → Below w.heap.size w W → nAt C i ≤ 9223372036854775807 → Known W A (nAt C i) (wAt C i) → Calls Try.prog k (first.push (.agg #[.int .i64 (qAt C i), .slice A (nAt C i) cp]) ++ cap) W fun e W' => e = .returned (.bool (p i)) ∧ Below W.heap.size W W'

set_option maxRecDepth 20000 in
set_option maxHeartbeats 1000000 in
theorem indexC_any (p : Nat → Bool) (k : Nat) (first cap : Array Value) (A : Option Addr) (n cp : Nat) (C : List (Int × List Int)) (w : World) (hm : n ≤ 9223372036854775807) (hk : KCS w A n C) (ha : AsksC p k first cap n C w) :
    Calls Try.prog 116 #[.slice A n cp, .func (.func k) first cap] w fun e w' => ((∃ j : Nat, j < n ∧ e = .returned (.int .i64 j) ∧ anyK p n = true) ∨ (e = .returned (.int .i64 (-1)) ∧ anyK p n = false)) ∧ Below w.heap.size w w' := by
  have HK := Lib.hid hk
  have HA := Lib.hid ha
  have eg := ha.enters
  clear hk ha
  go_enter Try.func116, Try.ntmps116
  go_wp2_with fail
  go_loopw [5, 8] (fun _ i wr => ∃ j : Nat, j ≤ n ∧ i = .int .i64 j ∧ (∀ t, t < j → p t = false) ∧ Below w.heap.size w wr) (fun _ i _ => n - (intOf i).toNat)
  case atStart => exact ⟨0, Nat.zero_le _, rfl, fun _ h => by omega, Below.refl _ _⟩
  case round =>
    obtain ⟨j, hj, rfl, hno, hb⟩ := hrel
    have HS := Lib.hid hno
    clear hno
    by_cases hlt : j < n
    · have hks := HK.out.now hb
      obtain ⟨_, b, off, hA, hrow⟩ := hks
      obtain ⟨rfl, hbl⟩ := hA (by omega)
      obtain ⟨A', cap', hc0, hc1, hm', hkn⟩ := hrow j hlt
      have HC := Lib.hid (HA.out.gives wr j A' cap' hlt hb hm' hkn)
      clear hA hrow hkn hm'
      generalize qAt C j = q0 at *
      generalize nAt C j = m0 at *
      cases hp : p j with
      | true =>
        have HW := Lib.hid (anyK_yes hlt hp)
        rw [hp] at HC
        clear hp
        go_wp2_with (go_at_fn k; refine HC.out.mono ?_; rintro e w' ⟨rfl, hb'⟩)
        go_ret
        exact ⟨Or.inl ⟨j, hlt, rfl, HW.out⟩, bfrom hb hb'⟩
      | false =>
        have HW := Lib.hid (show ∀ t, t < j + 1 → p t = false from fun t ht => by
          by_cases e : t = j
          · subst e; exact hp
          · exact HS.out t (by omega))
        rw [hp] at HC
        clear hp
        go_wp2_with (go_at_fn k; refine HC.out.mono ?_; rintro e w' ⟨rfl, hb'⟩)
        go_roundw
        case rel => exact ⟨j + 1, by omega, by go_num, HW.out, bfrom hb hb'⟩
        case measure => simp [intOf]; omega
    · obtain rfl : j = n := by omega
      have HW := Lib.hid (anyK_no HS.out)
      go_wp2
      go_ret
      exact ⟨Or.inr ⟨rfl, HW.out⟩, hb⟩

set_option maxHeartbeats 1000000 in
theorem containsC_any (p : Nat → Bool) (k : Nat) (first cap : Array Value) (A : Option Addr) (n cp : Nat) (C : List (Int × List Int)) (w : World) (hm : n ≤ 9223372036854775807) (hk : KCS w A n C) (ha : AsksC p k first cap n C w) :
    Calls Try.prog 81 #[.slice A n cp, .func (.func k) first cap] w fun e w' => e = .returned (.bool (anyK p n)) ∧ Below w.heap.size w w' := by
  have HI := Lib.hid (indexC_any p k first cap A n cp C w hm hk ha)
  clear hk ha
  go_enter Try.func81, Try.ntmps81
  go_wp2_with fail
  refine HI.out.mono ?_
  rintro e w1 ⟨h, hb⟩
  rcases h with ⟨j, hj, rfl, hw⟩ | ⟨rfl, hw⟩
  · have HW := Lib.hid hw
    clear hw
    have h0 : (0 : Int) ≤ (j : Int) := by omega
    go_wp2
    go_ret
    exact ⟨by rw [HW.out]; first | rfl | simp, hb⟩
  · have HW := Lib.hid hw
    clear hw
    go_wp2
    go_ret
    exact ⟨by rw [HW.out]; rfl, hb⟩

/-- Are these at least one and at most so many committees? -/
def comsB (most : Nat) (C : List (Int × List Int)) : Bool := decide (1 ≤ C.length ∧ C.length ≤ most) && allK (fun i => goodB (qAt C i) (wAt C i) (nAt C i)) C.length
theorem comsB_parts {most : Nat} {C : List (Int × List Int)} (h : comsB most C = true) : 1 ≤ C.length ∧ C.length ≤ most ∧ ∀ i, i < C.length → Vo.Good (qAt C i) (wAt C i) (nAt C i) := by
  unfold comsB at h
  rw [Bool.and_eq_true, decide_eq_true_iff] at h
  exact ⟨h.1.1, h.1.2, fun i hi => of_decide_eq_true (allK_iff.1 h.2 i hi)⟩
/-- Are these chambers? -/
def chB (C : List (Int × List Int)) : Bool := comsB 4 C && allK (fun i => nAt C i == nAt C 0) C.length
theorem chB_parts {C : List (Int × List Int)} (h : chB C = true) : 1 ≤ C.length ∧ C.length ≤ 4 ∧ ∀ i, i < C.length → Vo.Good (qAt C i) (wAt C i) (nAt C i) ∧ nAt C i = nAt C 0 := by
  unfold chB at h
  rw [Bool.and_eq_true] at h
  obtain ⟨h1, h2, h3⟩ := comsB_parts h.1
  refine ⟨h1, h2, fun i hi => ⟨h3 i hi, ?_⟩⟩
  have := allK_iff.1 h.2 i hi
  simpa using this

set_option maxHeartbeats 1000000 in
theorem notCommittee_asks (n : Nat) (C : List (Int × List Int)) (w : World) : AsksC (fun i => !goodB (qAt C i) (wAt C i) (nAt C i)) 82 #[] #[] n C w := by
  refine ⟨enters_of Try.func82 (by kernel_rfl) rfl, fun W i A cp hi hb hm hk => ?_⟩
  have HK := Lib.hid hk
  clear hk
  generalize qAt C i = q at *
  generalize wAt C i = ws at *
  generalize nAt C i = n at *
  show Calls Try.prog 82 #[.agg #[.int .i64 q, .slice A n cp]] W _
  have b0 := below1 W (.cells #[.int .i64 q, .slice A n cp] 43)
  go_enter Try.func82, Try.ntmps82
  go_wp2_with fail
  refine (isCommittee_any q A n cp ws _ hm (HK.out.now b0)).mono ?_
  rintro e w1 ⟨rfl, hb1⟩
  go_wp2
  go_ret
  exact ⟨rfl, bfrom b0 hb1⟩

set_option maxHeartbeats 1000000 in
theorem areCommittees_any (most : Nat) (A : Option Addr) (n cp : Nat) (C : List (Int × List Int)) (w : World) (hm : n ≤ 9223372036854775807) (_h9 : most ≤ 9) (hk : KCS w A n C) :
    Calls Try.prog 39 #[.slice A n cp, .int .i64 most] w fun e w' => e = .returned (.bool (comsB most C)) ∧ Below w.heap.size w w' := by
  have hlen := hk.1
  have HK := Lib.hid hk
  clear hk
  by_cases h1 : n < 1
  · have HR := Lib.hid (show comsB most C = false from by unfold comsB; rw [decide_eq_false (by omega)]; rfl)
    go_enter Try.func39, Try.ntmps39
    go_wp2
    go_ret
    exact ⟨by rw [HR.out]; rfl, Below.refl _ _⟩
  by_cases h2 : (most : Int) < n
  · have HR := Lib.hid (show comsB most C = false from by unfold comsB; rw [decide_eq_false (by omega)]; rfl)
    clear hlen
    go_enter Try.func39, Try.ntmps39
    go_wp2
    go_ret
    exact ⟨by rw [HR.out]; rfl, Below.refl _ _⟩
  · have HR := Lib.hid (show (!anyK (fun i => !goodB (qAt C i) (wAt C i) (nAt C i)) n) = comsB most C from by
      unfold comsB anyK
      rw [decide_eq_true (show 1 ≤ C.length ∧ C.length ≤ most by omega), hlen]
      simp)
    clear hlen
    have h2' : (n : Int) ≤ most := by omega
    go_enter Try.func39, Try.ntmps39
    go_wp2_with fail
    refine (containsC_any _ _ _ _ A n cp C _ hm HK.out (notCommittee_asks n C _)).mono ?_
    rintro e w1 ⟨rfl, hb1⟩
    go_wp2
    go_ret
    exact ⟨by rw [← HR.out]; rfl, hb1⟩
end Go.Proofs.Ytkckefjpkhjeaab
