/- Contracts of PlaceInCouncil, the program's and the model's; the model's chInners. -/
import Derived.Test.YtkckefjpkhjeaabBo
import Derived.Test.YtkckefjpkhjeaabT12
import Derived.OwnWalk
namespace Go.Proofs.Ytkckefjpkhjeaab
open Go.RowKit Vo

set_option maxHeartbeats 2000000 in
theorem chInners_any (A : Option Addr) (n cp : Nat) (C : List (Int × List Int)) (w : World) (hm : n ≤ 9223372036854775807) (hT : csum C n ≤ 1048576) (hk : KCS w A n C) :
    Calls Try.prog 36 #[.slice A n cp] w fun e w' => e = .returned (.bool (comsB 9 C)) ∧ Below w.heap.size w w' := by
  have hlen := hk.1
  have HK := Lib.hid hk
  clear hk
  by_cases h19 : 1 ≤ n ∧ n ≤ 9
  · have HIN := Lib.hid (inB_yes (x := (n : Int)) (lo := 1) (hi := 9) (by omega) (by omega))
    cases ha : allK (fun i => goodB (qAt C i) (wAt C i) (nAt C i)) n with
    | true =>
      have HB := Lib.hid (show comsB 9 C = true from by unfold comsB; rw [hlen, ha, decide_eq_true h19]; rfl)
      have HCI := Lib.hid (cmI_yes ha)
      have h1 := csum_pos (C := C) h19.1 (fun i hi => of_decide_eq_true (allK_iff.1 ha i hi))
      have HCM := Lib.hid (fun W (hb : Below w.heap.size w W) => chMembers_any A n cp C W hm hT (HK.out.now hb))
      rw [HCI.out] at HCM
      clear ha h19 HCI hlen
      generalize csum C n = T at *
      go_enter Try.func36, Try.ntmps36
      go_wp2_with (first
        | (go_at_call 45; refine (l1In_any _ _ _ _).mono ?_; rintro e w' ⟨rfl, rfl⟩; rw [HIN.out])
        | (go_at_call 46; refine (HCM.out _ (Below.refl _ _)).mono ?_; rintro e w1 ⟨rfl, hb1⟩)
        | fail)
      go_ret
      exact ⟨by rw [HB.out]; simp; omega, hb1⟩
    | false =>
      have HB := Lib.hid (show comsB 9 C = false from by unfold comsB; rw [hlen, ha]; simp)
      have HCI := Lib.hid (cmI_no ha)
      have HCM := Lib.hid (fun W (hb : Below w.heap.size w W) => chMembers_any A n cp C W hm hT (HK.out.now hb))
      rw [HCI.out] at HCM
      clear ha h19 HCI hlen
      go_enter Try.func36, Try.ntmps36
      go_wp2_with (first
        | (go_at_call 45; refine (l1In_any _ _ _ _).mono ?_; rintro e w' ⟨rfl, rfl⟩; rw [HIN.out])
        | (go_at_call 46; refine (HCM.out _ (Below.refl _ _)).mono ?_; rintro e w1 ⟨rfl, hb1⟩)
        | fail)
      go_ret
      exact ⟨by rw [HB.out]; rfl, hb1⟩
  · have HIN := Lib.hid (inB_no (x := (n : Int)) (lo := 1) (hi := 9) (by omega))
    have HB := Lib.hid (show comsB 9 C = false from by unfold comsB; rw [hlen, decide_eq_false h19]; rfl)
    clear h19 hlen
    go_enter Try.func36, Try.ntmps36
    go_wp2_with (first
      | (go_at_call 45; refine (l1In_any _ _ _ _).mono ?_; rintro e w' ⟨rfl, rfl⟩; rw [HIN.out])
      | fail)
    go_ret
    exact ⟨by rw [HB.out]; rfl, Below.refl _ _⟩

/-- Where a member of a council belongs. -/
def plB (C : List (Int × List Int)) (n : Nat) (z : Int) : Bool := comsB 9 C && inB z 0 ((csum C n : Nat) - 1)
def plT (C : List (Int × List Int)) (n : Nat) (z : Int) : Nat := if plB C n z then cnt (fun i => decide (csum C (i+1) ≤ z.toNat)) n else 0
def plR (C : List (Int × List Int)) (n : Nat) (z : Int) : Nat := if plB C n z then z.toNat - csum C (plT C n z) else 0
theorem cnt_first {p : Nat → Bool} {t n : Nat} (h : ∀ i, i < n → (p i = true ↔ i < t)) (ht : t ≤ n) : cnt p n = t := by
  have H : ∀ n, (∀ i, i < n → (p i = true ↔ i < t)) → cnt p n = min t n := by
    intro n
    induction n with
    | zero => intro _; simp [cnt]
    | succ n ih =>
      intro h
      show cnt p n + (if p n then 1 else 0) = min t (n+1)
      rw [ih fun i hi => h i (by omega)]
      by_cases hp : p n = true
      · have := (h n (by omega)).1 hp
        rw [if_pos hp]; omega
      · have : ¬ n < t := fun g => hp ((h n (by omega)).2 g)
        rw [if_neg hp]; omega
  rw [H n h]; omega
theorem plT_eq {C : List (Int × List Int)} {n t Z : Nat} (hB : plB C n (Z : Int) = true) (ht : t < n) (h1 : csum C t ≤ Z) (h2 : Z < csum C (t+1)) : plT C n (Z : Int) = t ∧ plR C n (Z : Int) = Z - csum C t := by
  have e : plT C n (Z : Int) = t := by
    unfold plT
    rw [if_pos hB]
    refine cnt_first (fun i hi => ?_) (by omega)
    simp only [Int.toNat_natCast, decide_eq_true_eq]
    constructor
    · intro h
      by_cases g : i < t
      · exact g
      · have := csum_le C (show t + 1 ≤ i + 1 by omega); omega
    · intro h
      have := csum_le C (show i + 1 ≤ t by omega); omega
  refine ⟨e, ?_⟩
  unfold plR
  rw [if_pos hB, e, Int.toNat_natCast]
theorem plT_no {C n z} (h : plB C n z = false) : plT C n z = 0 ∧ plR C n z = 0 := by
  constructor
  · unfold plT; rw [h]; rfl
  · unfold plR; rw [h]; rfl

set_option maxRecDepth 20000 in
set_option maxHeartbeats 4000000 in
theorem iPlaceInCouncil_any (A : Option Addr) (n cp : Nat) (C : List (Int × List Int)) (z : Int) (w : World) (hm : n ≤ 9223372036854775807) (hk : KCS w A n C) (hz : (Lit.int .i64 z).wf = true) (_hT : csum C n ≤ 1048576) :
    Calls Try.prog 19 #[.slice A n cp, .int .i64 z] w fun e w' => e = .returned (.tuple #[.int .i64 (plT C n z : Nat), .int .i64 (plR C n z : Nat), .bool (plB C n z)]) ∧ Below w.heap.size w w' := by
  have HK := Lib.hid hk
  have HLEN := Lib.hid hk.1
  have HAC := Lib.hid (areCommittees_any 9 A n cp C w hm (by omega) hk)
  clear hk
  cases hc : comsB 9 C with
  | false =>
    have HB := Lib.hid (show plB C n z = false from by unfold plB; rw [hc]; rfl)
    have HN := Lib.hid (plT_no HB.out)
    have HC := Lib.hid hc
    clear hc
    rw [HN.out.1, HN.out.2, HB.out]
    go_enter Try.func19, Try.ntmps19
    go_wp2_with fail
    refine HAC.out.mono ?_
    rintro e w1 ⟨rfl, hb1⟩
    rw [HC.out]
    go_wp2
    go_ret3
    exact ⟨rfl, hb1⟩
  | true =>
    have HC := Lib.hid hc
    have hfew := comsB_few hc
    rw [HLEN.out] at hfew
    have HOM := Lib.hid (fun W (hb : Below w.heap.size w W) => ownMembers_any A n cp C W hm (by omega) (HK.out.now hb))
    have HIM := Lib.hid (fun W => isMember_any (csum C n) z W (by omega))
    cases hi : inB z 0 ((csum C n : Nat) - 1) with
    | false =>
      have HB := Lib.hid (show plB C n z = false from by unfold plB; rw [hi]; simp)
      have HN := Lib.hid (plT_no HB.out)
      rw [hi] at HIM
      clear hc hi
      rw [HN.out.1, HN.out.2, HB.out]
      generalize csum C n = T at *
      go_enter Try.func19, Try.ntmps19
      go_wp2_with fail
      refine HAC.out.mono ?_
      rintro e w1 ⟨rfl, hb1⟩
      rw [HC.out]
      go_wp2_with (first
        | (go_at_call 48; refine (HOM.out _ hb1).mono ?_; rintro e w2 ⟨rfl, hb2⟩)
        | (go_at_call 47; refine (HIM.out _).mono ?_; rintro e w' ⟨rfl, rfl⟩)
        | fail)
      go_ret3
      exact ⟨rfl, bfrom hb1 hb2⟩
    | true =>
      have HB := Lib.hid (show plB C n z = true from by unfold plB; rw [hc, hi]; rfl)
      obtain ⟨hz0, hz1⟩ : 0 ≤ z ∧ z ≤ (csum C n : Nat) - 1 := by unfold inB at hi; simpa using hi
      obtain ⟨Z, rfl⟩ : ∃ Z : Nat, z = (Z : Int) := ⟨z.toNat, by omega⟩
      have hZ : Z < csum C n := by omega
      have HEND := Lib.hid (show ∀ t, t < n → csum C t ≤ Z → csum C (t+1) ≤ Z → t + 1 < n from fun t ht _ h => by
        by_cases g : t + 1 < n
        · exact g
        · have : t + 1 = n := by omega
          rw [this] at h; omega)
      have HPL := Lib.hid (fun t ht h1 h2 => plT_eq (C := C) (n := n) (t := t) HB.out ht h1 h2)
      have hn0 : 0 < n := by
        rcases Nat.eq_zero_or_pos n with h | h
        · rw [h] at hZ; simp [csum] at hZ
        · exact h
      have HCS := Lib.hid (csum_succ C)
      have hz80 : Z < 1048576 := by omega
      rw [hi] at HIM
      clear hc hi hz0 hz1 hZ hfew hz
      generalize csum C n = T at *
      go_enter Try.func19, Try.ntmps19
      go_wp2_with fail
      refine HAC.out.mono ?_
      rintro e w1 ⟨rfl, hb1⟩
      rw [HC.out]
      go_wp2_with (first
        | (go_at_call 48; refine (HOM.out _ hb1).mono ?_; rintro e w2 ⟨rfl, hb2⟩)
        | (go_at_call 47; refine (HIM.out _).mono ?_; rintro e w' ⟨rfl, rfl⟩)
        | fail)
      have g2 := bfrom hb1 hb2
      go_loopw [1, 7] (fun kk a wr => ∃ t : Nat, t < n ∧ csum C t ≤ Z ∧ a = .int .i64 t ∧ kk = .int .i64 (Z - csum C t : Nat) ∧ Below w.heap.size w wr) (fun _ a _ => n - (intOf a).toNat)
      case atStart => exact ⟨0, hn0, Nat.zero_le _, rfl, by simp [csum], g2⟩
      case round =>
        obtain ⟨t, ht, hle, rfl, rfl, hb⟩ := hrel
        obtain ⟨_, b, off, hA, hrow⟩ := HK.out.now hb
        obtain ⟨rfl, hbl⟩ := hA (by omega)
        obtain ⟨A', cap', e0, e1, _, _⟩ := hrow t ht
        have HS := Lib.hid (HCS.out t)
        have HE := Lib.hid (HEND.out t ht)
        have HP := Lib.hid (HPL.out t ht)
        rw [HS.out] at HE HP
        clear hA hrow
        generalize qAt C t = q1 at *
        obtain ⟨m, hmm⟩ : ∃ z, z = nAt C t := ⟨_, rfl⟩
        obtain ⟨s, hs⟩ : ∃ z, z = csum C t := ⟨_, rfl⟩
        rw [← hmm] at e1
        rw [← hmm, ← hs] at HS HE HP
        rw [← hs] at hle ⊢
        clear hmm hs
        obtain ⟨kk, hkk⟩ : ∃ z, z = Z - s := ⟨_, rfl⟩
        rw [← hkk] at HP ⊢
        have hk80 : kk < 1048576 := by omega
        have htn : (t : Int) < (n : Int) := by omega
        by_cases hge : m ≤ kk
        · have hgeI : (m : Int) ≤ (kk : Int) := by omega
          have hlt1 := HE.out hle (by omega)
          have hnew : (kk : Int) - (m : Int) = ((Z - csum C (t+1) : Nat) : Int) := by rw [HS.out]; omega
          have hle1 : csum C (t+1) ≤ Z := by rw [HS.out]; omega
          have HNEW := Lib.hid hnew
          have HLE1 := Lib.hid hle1
          clear hnew hle1 hkk
          go_wp2_with (first
            | (go_at_call 49; refine (members_any _ A' m cap' _).mono ?_; rintro e w3 ⟨rfl, hb3⟩; have e0 := (hb3.cell (p := ⟨b, off + t * 2, none⟩) hbl).trans e0; have e1 := (hb3.cell (p := ⟨b, off + t * 2 + 1, none⟩) hbl).trans e1; have hbl := Nat.lt_of_lt_of_le hbl hb3.size; have hb := bfrom hb hb3)
            | fail)
          go_roundw
          case rel => exact ⟨t + 1, hlt1, HLE1.out, by go_num, by first | (rw [← HNEW.out]; go_num) | (rw [← HNEW.out]) | exact congrArg (Value.int .i64) (by have := HNEW.out; omega), by assumption⟩
          case measure => simp [intOf]; omega
        · have hltI : ¬ (m : Int) ≤ (kk : Int) := by omega
          obtain ⟨hp1, hp2⟩ := HP.out hle (by omega)
          have HP1 := Lib.hid hp1
          have HP2 := Lib.hid hp2
          clear hp1 hp2 hkk
          go_wp2_with (first
            | (go_at_call 49; refine (members_any _ A' m cap' _).mono ?_; rintro e w3 ⟨rfl, hb3⟩; have hb := bfrom hb hb3)
            | fail)
          go_ret3
          exact ⟨by rw [HP1.out, HP2.out, HB.out]; rfl, by assumption⟩

set_option maxRecDepth 20000 in
set_option maxHeartbeats 4000000 in
theorem sPlaceInCouncil_any (b0 off0 n : Nat) (C : List (Int × List Int)) (z : Int) (w : World) (hm : n ≤ 9223372036854775807) (hk : KCS w (some ⟨b0, off0, none⟩) n C) (hz : (Lit.int .i64 z).wf = true) (hT : csum C n ≤ 1048576) :
    Calls Try.prog 18 #[.slice (some ⟨b0, off0, none⟩) n n, .int .i64 z] w fun e w' => e = .returned (.tuple #[.int .i64 (plT C n z : Nat), .int .i64 (plR C n z : Nat), .bool (plB C n z)]) ∧ Below w.heap.size w w' := by
  have HK := Lib.hid hk
  have HLEN := Lib.hid hk.1
  have HAC := Lib.hid (chInners_any _ n n C w hm hT hk)
  clear hk
  cases hc : comsB 9 C with
  | false =>
    have HB := Lib.hid (show plB C n z = false from by unfold plB; rw [hc]; rfl)
    have HN := Lib.hid (plT_no HB.out)
    have HC := Lib.hid hc
    clear hc
    rw [HN.out.1, HN.out.2, HB.out]
    go_enter Try.func18, Try.ntmps18
    go_wp2_with fail
    refine HAC.out.mono ?_
    rintro e w1 ⟨rfl, hb1⟩
    rw [HC.out]
    go_wp2
    go_ret3
    exact ⟨rfl, hb1⟩
  | true =>
    have HC := Lib.hid hc
    have hfew := comsB_few hc
    have hgood : ∀ i, i < n → Vo.Good (qAt C i) (wAt C i) (nAt C i) := by
      have h := hc
      unfold comsB at h
      rw [HLEN.out] at h
      simp only [Bool.and_eq_true, decide_eq_true_eq] at h
      exact fun i hi => of_decide_eq_true (allK_iff.1 h.2 i hi)
    have HCI := Lib.hid (cmI_yes (C := C) (n := n) (allK_iff.2 fun i hi => decide_eq_true (hgood i hi)))
    rw [HLEN.out] at hfew
    have HOM := Lib.hid (fun W (hb : Below w.heap.size w W) => chMembers_any _ n n C W hm (by omega) (HK.out.now hb))
    rw [HCI.out] at HOM
    cases hi : inB z 0 ((csum C n : Nat) - 1) with
    | false =>
      have HB := Lib.hid (show plB C n z = false from by unfold plB; rw [hi]; simp)
      have HN := Lib.hid (plT_no HB.out)
      have HI := Lib.hid hi
      clear hc hi hgood HCI
      rw [HN.out.1, HN.out.2, HB.out]
      generalize csum C n = T at *
      go_enter Try.func18, Try.ntmps18
      go_wp2_with fail
      refine HAC.out.mono ?_
      rintro e w1 ⟨rfl, hb1⟩
      rw [HC.out]
      go_wp2_with (first
        | (go_at_call 46; refine (HOM.out _ hb1).mono ?_; rintro e w2 ⟨rfl, hb2⟩)
        | (go_at_call 45; refine (l1In_any _ _ _ _).mono ?_; rintro e w' ⟨rfl, rfl⟩; rw [HI.out])
        | fail)
      go_ret3
      exact ⟨rfl, bfrom hb1 hb2⟩
    | true =>
      have HB := Lib.hid (show plB C n z = true from by unfold plB; rw [hc, hi]; rfl)
      have HI := Lib.hid hi
      obtain ⟨hz0, hz1⟩ : 0 ≤ z ∧ z ≤ (csum C n : Nat) - 1 := by unfold inB at hi; simpa using hi
      obtain ⟨Z, rfl⟩ : ∃ Z : Nat, z = (Z : Int) := ⟨z.toNat, by omega⟩
      have hZ : Z < csum C n := by omega
      have HEND := Lib.hid (show ∀ t, t < n → csum C t ≤ Z → csum C (t+1) ≤ Z → t + 1 < n from fun t ht _ h => by
        by_cases g : t + 1 < n
        · exact g
        · have : t + 1 = n := by omega
          rw [this] at h; omega)
      have HPL := Lib.hid (fun t ht h1 h2 => plT_eq (C := C) (n := n) (t := t) HB.out ht h1 h2)
      have hn0 : 0 < n := by
        rcases Nat.eq_zero_or_pos n with h | h
        · rw [h] at hZ; simp [csum] at hZ
        · exact h
      have HCS := Lib.hid (csum_succ C)
      have hz80 : Z < 1048576 := by omega
      clear hc hi hz0 hz1 hZ hz hgood HCI
      generalize csum C n = T at *
      go_enter Try.func18, Try.ntmps18
      go_wp2_with fail
      refine HAC.out.mono ?_
      rintro e w1 ⟨rfl, hb1⟩
      rw [HC.out]
      go_wp2_with (first
        | (go_at_call 46; refine (HOM.out _ hb1).mono ?_; rintro e w2 ⟨rfl, hb2⟩)
        | (go_at_call 45; refine (l1In_any _ _ _ _).mono ?_; rintro e w' ⟨rfl, rfl⟩; rw [HI.out])
        | fail)
      have g2 := bfrom hb1 hb2
      go_loopw [1, 7] (fun kk a wr => ∃ t : Nat, t < n ∧ csum C t ≤ Z ∧ a = .int .i64 t ∧ kk = .int .i64 (Z - csum C t : Nat) ∧ Below w.heap.size w wr) (fun _ a _ => n - (intOf a).toNat)
      case atStart => exact ⟨0, hn0, Nat.zero_le _, rfl, by simp [csum], g2⟩
      case round =>
        obtain ⟨t, ht, hle, rfl, rfl, hb⟩ := hrel
        obtain ⟨_, b, off, hA, hrow⟩ := HK.out.now hb
        obtain ⟨hA, hbl⟩ := hA (by omega)
        injection hA with hA
        injection hA with hA1 hA2
        subst hA1 hA2
        obtain ⟨A', cap', e0, e1, _, _⟩ := hrow t ht
        have HS := Lib.hid (HCS.out t)
        have HE := Lib.hid (HEND.out t ht)
        have HP := Lib.hid (HPL.out t ht)
        rw [HS.out] at HE HP
        clear hrow
        generalize qAt C t = q1 at *
        obtain ⟨m, hmm⟩ : ∃ z, z = nAt C t := ⟨_, rfl⟩
        obtain ⟨s, hs⟩ : ∃ z, z = csum C t := ⟨_, rfl⟩
        rw [← hmm] at e1
        rw [← hmm, ← hs] at HS HE HP
        rw [← hs] at hle ⊢
        clear hmm hs
        obtain ⟨kk, hkk⟩ : ∃ z, z = Z - s := ⟨_, rfl⟩
        rw [← hkk] at HP ⊢
        have hk80 : kk < 1048576 := by omega
        have htn : (t : Int) < (n : Int) := by omega
        by_cases hge : m ≤ kk
        · have hgeI : (m : Int) ≤ (kk : Int) := by omega
          have hlt1 := HE.out hle (by omega)
          have hnew : (kk : Int) - (m : Int) = ((Z - csum C (t+1) : Nat) : Int) := by rw [HS.out]; omega
          have hle1 : csum C (t+1) ≤ Z := by rw [HS.out]; omega
          have HNEW := Lib.hid hnew
          have HLE1 := Lib.hid hle1
          clear hnew hle1 hkk
          go_wp2_with fail
          go_roundw
          case rel => exact ⟨t + 1, hlt1, HLE1.out, by go_num, by first | (rw [← HNEW.out]; go_num) | (rw [← HNEW.out]) | exact congrArg (Value.int .i64) (by have := HNEW.out; omega), hb⟩
          case measure => simp [intOf]; omega
        · have hltI : ¬ (m : Int) ≤ (kk : Int) := by omega
          obtain ⟨hp1, hp2⟩ := HP.out hle (by omega)
          have HP1 := Lib.hid hp1
          have HP2 := Lib.hid hp2
          clear hp1 hp2 hkk
          go_wp2_with fail
          go_ret3
          exact ⟨by rw [HP1.out, HP2.out, HB.out]; rfl, hb⟩
