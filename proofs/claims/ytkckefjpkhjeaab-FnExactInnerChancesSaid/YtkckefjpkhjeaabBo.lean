/- Contracts: members of some committees together; what is a council. -/
import Derived.Test.YtkckefjpkhjeaabBc
import Derived.Test.YtkckefjpkhjeaabS2
import Derived.Test.YtkckefjpkhjeaabW2
import Derived.Deep.RegionHeld3
namespace Go.Proofs.Ytkckefjpkhjeaab
open Go.RowKit Vo

set_option maxRecDepth 20000 in
set_option maxHeartbeats 2000000 in
theorem ownMembers_any (A : Option Addr) (n cp : Nat) (C : List (Int × List Int)) (w : World) (hm : n ≤ 9223372036854775807) (hT : csum C n ≤ 1048576) (hk : KCS w A n C) :
    Calls Try.prog 48 #[.slice A n cp] w fun e w' => e = .returned (.int .i64 (csum C n : Nat)) ∧ Below w.heap.size w w' := by
  have HK := Lib.hid hk
  have HLE := Lib.hid (fun j (hj : j ≤ n) => csum_le C hj)
  clear hk
  go_enter Try.func48, Try.ntmps48
  go_wp2_with fail
  go_loopw [3, 5, 8] (fun u _ i wr => ∃ j : Nat, j ≤ n ∧ i = .int .i64 j ∧ u = .int .i64 (csum C j : Nat) ∧ Below w.heap.size w wr) (fun _ _ i _ => n - (intOf i).toNat)
  case atStart => exact ⟨0, Nat.zero_le _, rfl, rfl, Below.refl _ _⟩
  case round =>
    obtain ⟨j, hj, rfl, rfl, hb⟩ := hrel
    by_cases hlt : j < n
    · have hks := HK.out.now hb
      obtain ⟨_, b, off, hA, hrow⟩ := hks
      obtain ⟨rfl, hbl⟩ := hA (by omega)
      obtain ⟨A', cap', c0, c1, _, _⟩ := hrow j hlt
      have HS := Lib.hid (csum_succ C j)
      have hle := HLE.out (j+1) (by omega)
      rw [HS.out] at hle
      clear hA hrow
      generalize qAt C j = q0 at *
      obtain ⟨m, hmm⟩ : ∃ z, z = nAt C j := ⟨_, rfl⟩
      obtain ⟨p, hp⟩ : ∃ z, z = csum C j := ⟨_, rfl⟩
      rw [← hmm] at c1
      rw [← hmm, ← hp] at HS hle
      rw [← hp]
      clear hmm hp
      have hx := Box.new wr (.int .i64 q0) (.slice A' m cap')
      have b0 := below1 wr (.cells #[.int .i64 q0, .slice A' m cap'] 43)
      obtain ⟨e0, e1⟩ := hx.cells
      go_wp2_with (first | (go_at_call 49; refine (members_any _ A' m cap' _).mono ?_; rintro e w2 ⟨rfl, hb2⟩) | fail)
      go_roundw
      case rel => exact ⟨j + 1, by omega, by go_num, by rw [HS.out]; first | rfl | (congr 1; omega), bfrom hb (bfrom b0 hb2)⟩
      case measure => simp [intOf]; omega
    · obtain rfl : j = n := by omega
      go_wp2
      go_ret
      exact ⟨rfl, hb⟩

/-- The members of committees together, or -1 if one of them is none. -/
def cmI (C : List (Int × List Int)) (n : Nat) : Int := if allK (fun i => goodB (qAt C i) (wAt C i) (nAt C i)) n then (csum C n : Nat) else -1
theorem cmI_yes {C : List (Int × List Int)} {n : Nat} (h : allK (fun i => goodB (qAt C i) (wAt C i) (nAt C i)) n = true) : cmI C n = (csum C n : Nat) := if_pos h
theorem cmI_no {C : List (Int × List Int)} {n : Nat} (h : allK (fun i => goodB (qAt C i) (wAt C i) (nAt C i)) n = false) : cmI C n = -1 := if_neg (by rw [h]; simp)

set_option maxRecDepth 20000 in
set_option maxHeartbeats 2000000 in
theorem chMembers_any (A : Option Addr) (n cp : Nat) (C : List (Int × List Int)) (w : World) (hm : n ≤ 9223372036854775807) (hT : csum C n ≤ 1048576) (hk : KCS w A n C) :
    Calls Try.prog 46 #[.slice A n cp] w fun e w' => e = .returned (.int .i64 (cmI C n)) ∧ Below w.heap.size w w' := by
  have HK := Lib.hid hk
  have HLE := Lib.hid (fun j (hj : j ≤ n) => csum_le C hj)
  clear hk
  go_enter Try.func46, Try.ntmps46
  go_wp2_with fail
  go_loopw [3, 5, 8] (fun u _ i wr => ∃ j : Nat, j ≤ n ∧ i = .int .i64 j ∧ u = .int .i64 (csum C j : Nat) ∧ allK (fun i => goodB (qAt C i) (wAt C i) (nAt C i)) j = true ∧ Below w.heap.size w wr) (fun _ _ i _ => n - (intOf i).toNat)
  case atStart => exact ⟨0, Nat.zero_le _, rfl, rfl, rfl, Below.refl _ _⟩
  case round =>
    obtain ⟨j, hj, rfl, rfl, hall, hb⟩ := hrel
    have HALL := Lib.hid hall
    clear hall
    by_cases hlt : j < n
    · have hks := HK.out.now hb
      obtain ⟨_, b, off, hA, hrow⟩ := hks
      obtain ⟨rfl, hbl⟩ := hA (by omega)
      obtain ⟨A', cap', c0, c1, hm', hkn⟩ := hrow j hlt
      have HKN := Lib.hid hkn
      have HS := Lib.hid (csum_succ C j)
      have hle := HLE.out (j+1) (by omega)
      rw [HS.out] at hle
      have HNX := Lib.hid (show goodB (qAt C j) (wAt C j) (nAt C j) = true → allK (fun i => goodB (qAt C i) (wAt C i) (nAt C i)) (j+1) = true from fun h => by simp only [allK]; rw [HALL.out, h]; rfl)
      have HNO := Lib.hid (show goodB (qAt C j) (wAt C j) (nAt C j) = false → cmI C n = -1 from fun h => cmI_no (allK_false j hlt h))
      clear hA hrow hkn
      generalize qAt C j = q0 at *
      generalize wAt C j = ws at *
      obtain ⟨m, hmm⟩ : ∃ z, z = nAt C j := ⟨_, rfl⟩
      obtain ⟨p, hp⟩ : ∃ z, z = csum C j := ⟨_, rfl⟩
      rw [← hmm] at c1 hm' HKN HNX HNO
      rw [← hmm, ← hp] at HS hle
      rw [← hp]
      clear hmm hp
      have hx := Box.new wr (.int .i64 q0) (.slice A' m cap')
      have b0 := below1 wr (.cells #[.int .i64 q0, .slice A' m cap'] 43)
      obtain ⟨e0, e1⟩ := hx.cells
      cases hgd : goodB q0 ws m with
      | false =>
        have HGD := Lib.hid hgd
        have HR := Lib.hid (HNO.out hgd)
        clear hgd
        go_wp2_with (first | (go_at_call 86; refine (voGood_any q0 A' m cap' ws _ hm' (HKN.out.now b0)).mono ?_; rintro e w2 ⟨rfl, hb2⟩; rw [HGD.out]) | fail)
        go_ret
        exact ⟨by rw [HR.out]; rfl, bfrom hb (bfrom b0 hb2)⟩
      | true =>
        have HGD := Lib.hid hgd
        have HR := Lib.hid (HNX.out hgd)
        clear hgd
        go_wp2_with (first | (go_at_call 86; refine (voGood_any q0 A' m cap' ws _ hm' (HKN.out.now b0)).mono ?_; rintro e w2 ⟨rfl, hb2⟩; rw [HGD.out]; obtain ⟨f0, f1⟩ := (hx.now hb2).cells) | fail)
        go_roundw
        case rel => exact ⟨j + 1, by omega, by go_num, by rw [HS.out]; first | rfl | (congr 1; omega), HR.out, bfrom hb (bfrom b0 hb2)⟩
        case measure => simp [intOf]; omega
    · obtain rfl : j = n := by omega
      have HR := Lib.hid (cmI_yes HALL.out)
      go_wp2
      go_ret
      exact ⟨by rw [HR.out]; rfl, hb⟩

/-- Are these an outer committee and inner ones? -/
def cnB (q : Int) (ws : List Int) (n : Nat) (C : List (Int × List Int)) : Bool := goodB q ws n && (decide (C.length = n) && (comsB 9 C && decide (csum C C.length ≤ 9)))
theorem cnB_parts {q : Int} {ws : List Int} {n : Nat} {C : List (Int × List Int)} (h : cnB q ws n C = true) : Vo.Good q ws n ∧ C.length = n ∧ csum C n ≤ 9 ∧ ∀ i, i < n → Vo.Good (qAt C i) (wAt C i) (nAt C i) := by
  unfold cnB at h
  simp only [Bool.and_eq_true, decide_eq_true_iff] at h
  obtain ⟨h1, h2, h3, h4⟩ := h
  obtain ⟨_, _, h5⟩ := comsB_parts h3
  exact ⟨of_decide_eq_true h1, h2, by rw [← h2]; exact h4, fun i hi => h5 i (by omega)⟩
theorem csum_pos {C : List (Int × List Int)} {n : Nat} (h1 : 1 ≤ n) (h : ∀ i, i < n → Vo.Good (qAt C i) (wAt C i) (nAt C i)) : 1 ≤ csum C n := by
  have := csum_row C (show 0 < n by omega)
  have := (h 0 (by omega)).lo
  omega
theorem comsB_few {C : List (Int × List Int)} (h : comsB 9 C = true) : csum C C.length ≤ 81 := by
  obtain ⟨_, h2, h3⟩ := comsB_parts h
  have : ∀ k, k ≤ C.length → csum C k ≤ 9 * k := fun k => by
    induction k with
    | zero => intro _; simp [csum]
    | succ k ih => intro hk; have := ih (by omega); have := (h3 k (by omega)).hi; rw [csum_succ]; omega
  have := this C.length (Nat.le_refl _)
  omega
theorem cnB_split {q : Int} {ws : List Int} {n k : Nat} {C : List (Int × List Int)} (hk : C.length = k) : cnB q ws n C = (goodB q ws n && (decide (k = n) && inB (cmI C k) 1 9)) := by
  unfold cnB
  rw [hk]
  cases hg : goodB q ws n with
  | false => rfl
  | true =>
    by_cases hkn : k = n
    · subst hkn
      have hgood : Vo.Good q ws k := of_decide_eq_true hg
      simp only [decide_true, Bool.true_and]
      unfold comsB
      rw [hk]
      cases ha : allK (fun i => goodB (qAt C i) (wAt C i) (nAt C i)) k with
      | false => rw [cmI_no ha]; simp [inB]
      | true =>
        rw [cmI_yes ha]
        have h1 := csum_pos (C := C) hgood.lo (fun i hi => of_decide_eq_true (allK_iff.1 ha i hi))
        have h2 := hgood.lo
        have h3 := hgood.hi
        rw [decide_eq_true (show 1 ≤ k ∧ k ≤ 9 by omega)]
        unfold inB
        rw [decide_eq_true (show (1 : Int) ≤ ((csum C k : Nat) : Int) by omega)]
        simp only [Bool.true_and]
        rw [Bool.eq_iff_iff]
        simp
        omega
    · simp [hkn]

set_option maxRecDepth 20000 in
set_option maxHeartbeats 2000000 in
theorem iAreCouncil_any (q : Int) (A : Option Addr) (n cap : Nat) (ws : List Int) (A2 : Option Addr) (k cp : Nat) (C : List (Int × List Int)) (w : World) (hm : n ≤ 9223372036854775807) (hk : Known w A n ws) (hm2 : k ≤ 9223372036854775807) (hk2 : KCS w A2 k C) :
    Calls Try.prog 87 #[.agg #[.int .i64 q, .slice A n cap], .slice A2 k cp] w fun e w' => e = .returned (.bool (cnB q ws n C)) ∧ Below w.heap.size w w' := by
  have HK := Lib.hid hk
  have HK2 := Lib.hid hk2
  have hlen := hk2.1
  have HLEN := Lib.hid hk2.1
  clear hk hk2
  have hx := Box.new w (.int .i64 q) (.slice A n cap)
  have hb0 := below1 w (.cells #[.int .i64 q, .slice A n cap] 43)
  have HIC := Lib.hid (fun W (hb : Below w.heap.size w W) => isCommittee_any q A n cap ws W hm (HK.out.now hb))
  have HAC := Lib.hid (fun W (hb : Below w.heap.size w W) => areCommittees_any 9 A2 k cp C W hm2 (by omega) (HK2.out.now hb))
  obtain ⟨c0, c1⟩ := hx.cells
  cases hg : goodB q ws n with
  | false =>
    have HG := Lib.hid hg
    have HR := Lib.hid (show cnB q ws n C = false from by unfold cnB; rw [hg]; rfl)
    rw [HR.out]
    clear hg hlen
    go_enter Try.func87, Try.ntmps87
    go_wp2_with (first | (go_at_call 83; refine (HIC.out _ hb0).mono ?_; rintro e w1 ⟨rfl, hb1⟩; rw [HG.out]) | fail)
    go_ret
    exact ⟨rfl, bfrom hb0 hb1⟩
  | true =>
    have HG := Lib.hid hg
    by_cases hkn : k = n
    · subst hkn
      cases hc : comsB 9 C with
      | false =>
        have HC := Lib.hid hc
        have HR := Lib.hid (show cnB q ws k C = false from by unfold cnB; rw [hc]; simp)
        rw [HR.out]
        clear hg hlen hc
        have hne : ((k : Int) != (k : Int)) = false := by simp
        go_enter Try.func87, Try.ntmps87
        go_wp2_with (first
          | (go_at_call 83; refine (HIC.out _ hb0).mono ?_; rintro e w1 ⟨rfl, hb1⟩; rw [HG.out]; have g1 := bfrom hb0 hb1; obtain ⟨d0, d1⟩ := (hx.now hb1).cells)
          | (go_at_call 49; refine (members_any _ A k cap _).mono ?_; rintro e w2 ⟨rfl, hb2⟩; have g2 := bfrom g1 hb2)
          | (go_at_call 39; refine (HAC.out _ g2).mono ?_; rintro e w3 ⟨rfl, hb3⟩; rw [HC.out])
          | fail)
        go_ret
        exact ⟨rfl, bfrom g2 hb3⟩
      | true =>
        have HC := Lib.hid hc
        have hT : csum C k ≤ 81 := by have := comsB_few hc; rw [hlen] at this; exact this
        have HR := Lib.hid (show cnB q ws k C = decide (((csum C k : Nat) : Int) ≤ 9) from by unfold cnB; rw [hg, hc, hlen]; simp; omega)
        rw [HR.out]
        have HOM := Lib.hid (fun W (hb : Below w.heap.size w W) => ownMembers_any A2 k cp C W hm2 (by omega) (HK2.out.now hb))
        clear hg hlen hc hT
        generalize csum C k = T at *
        have hne : ((k : Int) != (k : Int)) = false := by simp
        go_enter Try.func87, Try.ntmps87
        go_wp2_with (first
          | (go_at_call 83; refine (HIC.out _ hb0).mono ?_; rintro e w1 ⟨rfl, hb1⟩; rw [HG.out]; have g1 := bfrom hb0 hb1; obtain ⟨d0, d1⟩ := (hx.now hb1).cells)
          | (go_at_call 49; refine (members_any _ A k cap _).mono ?_; rintro e w2 ⟨rfl, hb2⟩; have g2 := bfrom g1 hb2)
          | (go_at_call 39; refine (HAC.out _ g2).mono ?_; rintro e w3 ⟨rfl, hb3⟩; rw [HC.out]; have g3 := bfrom g2 hb3)
          | (go_at_call 48; refine (HOM.out _ g3).mono ?_; rintro e w4 ⟨rfl, hb4⟩)
          | fail)
        go_ret
        exact ⟨by first | rfl | simp, bfrom g3 hb4⟩
    · have HR := Lib.hid (show cnB q ws n C = false from by unfold cnB; rw [hlen, decide_eq_false hkn]; simp)
      rw [HR.out]
      clear hg hlen
      have hne : ((k : Int) != (n : Int)) = true := by simp; omega
      go_enter Try.func87, Try.ntmps87
      go_wp2_with (first
        | (go_at_call 83; refine (HIC.out _ hb0).mono ?_; rintro e w1 ⟨rfl, hb1⟩; rw [HG.out]; have g1 := bfrom hb0 hb1; obtain ⟨d0, d1⟩ := (hx.now hb1).cells)
        | (go_at_call 49; refine (members_any _ A n cap _).mono ?_; rintro e w2 ⟨rfl, hb2⟩; have g2 := bfrom g1 hb2)
        | fail)
      go_ret
      exact ⟨rfl, g2⟩

set_option maxRecDepth 20000 in
set_option maxHeartbeats 2000000 in
theorem sAreCouncil_any (q : Int) (A : Option Addr) (n cap : Nat) (ws : List Int) (A2 : Option Addr) (k cp : Nat) (C : List (Int × List Int)) (w : World) (hm : n ≤ 9223372036854775807) (hk : Known w A n ws) (hm2 : k ≤ 9223372036854775807) (hk2 : KCS w A2 k C) (hT : csum C k ≤ 1048576) :
    Calls Try.prog 51 #[.agg #[.int .i64 q, .slice A n cap], .slice A2 k cp] w fun e w' => e = .returned (.bool (cnB q ws n C)) ∧ Below w.heap.size w w' := by
  have HK := Lib.hid hk
  have HK2 := Lib.hid hk2
  have HR := Lib.hid (cnB_split (q := q) (ws := ws) (n := n) hk2.1)
  rw [HR.out]
  clear hk hk2
  have hx := Box.new w (.int .i64 q) (.slice A n cap)
  have hb0 := below1 w (.cells #[.int .i64 q, .slice A n cap] 43)
  have HIC := Lib.hid (fun W (hb : Below w.heap.size w W) => voGood_any q A n cap ws W hm (HK.out.now hb))
  have HCM := Lib.hid (fun W (hb : Below w.heap.size w W) => chMembers_any A2 k cp C W hm2 hT (HK2.out.now hb))
  have HIN := Lib.hid (fun W => l1In_any (cmI C k) 1 9 W)
  obtain ⟨c0, c1⟩ := hx.cells
  clear hT
  generalize cmI C k = T at *
  cases hg : goodB q ws n with
  | false =>
    have HG := Lib.hid hg
    clear hg
    go_enter Try.func51, Try.ntmps51
    go_wp2_with (first | (go_at_call 86; refine (HIC.out _ hb0).mono ?_; rintro e w1 ⟨rfl, hb1⟩; rw [HG.out]) | fail)
    go_ret
    exact ⟨rfl, bfrom hb0 hb1⟩
  | true =>
    have HG := Lib.hid hg
    clear hg
    by_cases hkn : k = n
    · subst hkn
      have hne : ((k : Int) == (k : Int)) = true := by simp
      go_enter Try.func51, Try.ntmps51
      go_wp2_with (first
        | (go_at_call 86; refine (HIC.out _ hb0).mono ?_; rintro e w1 ⟨rfl, hb1⟩; rw [HG.out]; have g1 := bfrom hb0 hb1; obtain ⟨d0, d1⟩ := (hx.now hb1).cells)
        | (go_at_call 46; refine (HCM.out _ g1).mono ?_; rintro e w2 ⟨rfl, hb2⟩)
        | (go_at_call 45; refine (HIN.out _).mono ?_; rintro e w3 ⟨rfl, rfl⟩)
        | fail)
      go_ret
      exact ⟨by simp, bfrom g1 hb2⟩
    · have hne : ((k : Int) == (n : Int)) = false := by simp; omega
      go_enter Try.func51, Try.ntmps51
      go_wp2_with (first
        | (go_at_call 86; refine (HIC.out _ hb0).mono ?_; rintro e w1 ⟨rfl, hb1⟩; rw [HG.out]; have g1 := bfrom hb0 hb1; obtain ⟨d0, d1⟩ := (hx.now hb1).cells)
        | fail)
      go_ret
      exact ⟨by rw [decide_eq_false hkn]; rfl, g1⟩
end Go.Proofs.Ytkckefjpkhjeaab
