/- Contracts of WinsCouncil of the program. -/
import Derived.Test.YtkckefjpkhjeaaaBr
import Derived.Test.YtkckefjpkhjeaaaI2
import Derived.BigQuiet
namespace Go.Proofs.Ytkckefjpkhjeaaa
open Go.RowKit Vo

theorem RI.kn {l : List Int} {lo hi : Nat} {v : Value} {w : World} (h : RI l lo hi v w) : ∃ A cap, v = .slice A l.length cap ∧ Known w A l.length l := by
  obtain ⟨A, cap, hv, h⟩ := h
  refine ⟨A, cap, hv, ?_⟩
  rcases h with h | ⟨g, rfl, _, _, h⟩
  · exact ⟨0, 0, fun h1 => by omega, fun h1 => by omega⟩
  · exact Known.of (Ints.sl h)
theorem RSS0.kss {L : List (List Int)} {lo hi : Nat} {A : Option Addr} {n cap : Nat} {w : World} (hn : L.length = n) (ht : tot L + L.length ≤ 1048576) (h : RSS0 L lo hi (.slice A n cap) w) : KSS w A n L := by
  obtain ⟨A1, c1, hv, h⟩ := h
  obtain ⟨rfl, _, _⟩ : A = A1 ∧ n = L.length ∧ cap = c1 := by simpa using hv
  rcases h with h | ⟨g, f, hA, _, _, ho, h⟩
  · exact ⟨hn, 0, 0, fun h1 => by omega, fun i hi => by omega⟩
  · refine ⟨hn, g, 0, fun h1 => ⟨hA, ho.lt⟩, fun i hi => ?_⟩
    obtain ⟨A', c', hf, hk⟩ := RI.kn (h i (by omega))
    exact ⟨A', c', by rw [Nat.zero_add, ho.cell (by omega), hf], by have := tot_row (L := L) rfl (show i < L.length by omega); omega, hk⟩

set_option maxHeartbeats 1000000 in
theorem readSet_kn (n : Nat) (A : Option Addr) (m cap : Nat) (xs : List Int) (w : World) (hn : n < 10) (hm : m ≤ 9223372036854775807) (hk : Known w A m xs) :
    Calls Try.prog 101 #[.int .i64 n, .slice A m cap] w fun e w' => e = .returned (.tuple #[.int .u64 (ofB n xs m : Nat), .bool (riseB n xs m)]) ∧ w = w' := by
  by_cases hz : m = 0
  · subst hz
    have H1 := Lib.hid (ofB_yes (n := n) (xs := xs) (m := 0) RiseK.zero)
    have H2 := Lib.hid (riseB_yes (n := n) (xs := xs) (m := 0) RiseK.zero)
    go_enter Try.func101, Try.ntmps101
    go_wp2
    refine wp_loop_rounds 1 ?_
    rw [rounds_succ]
    go_wp2
    go_ret2
    exact ⟨by rw [H1.out, H2.out]; rfl, rfl⟩
  · obtain ⟨b, off, rfl, hsl⟩ := hk.get (by omega)
    exact readSet_any n b off m cap xs w hn hm hsl

/-- Sets of the inner committees, told one by one. -/
def setR (C : List (Int × List Int)) (X : List (List Int)) (i : Nat) : Bool := riseB (nAt C i) (X.getD i []) (X.getD i []).length
def setK (C : List (Int × List Int)) (X : List (List Int)) (i : Nat) : Nat := ofB (nAt C i) (X.getD i []) (X.getD i []).length
def setKL (C : List (Int × List Int)) (X : List (List Int)) (j : Nat) : List Nat := (List.range j).map (setK C X)
theorem setKL_len (C X j) : (setKL C X j).length = j := by simp [setKL]
theorem setKL_succ (C X j) : setKL C X (j+1) = setKL C X j ++ [setK C X j] := by simp [setKL, List.range_succ]
theorem setKL_get (C X) (j i : Nat) (h : i < j) : (setsV (setKL C X j))[i]? = some (.int .u64 (setK C X i : Nat)) := by simp [setsV, setKL, h]
theorem setK_lt (C X) (i : Nat) (h : nAt C i ≤ 9) : setK C X i < 512 := by
  unfold setK ofB
  split
  next hr => have := ofK_lt hr; have := pow_lt h; omega
  next => omega
def wcB (q : Int) (ws : List Int) (n : Nat) (C : List (Int × List Int)) (j : Nat) (X : List (List Int)) : Bool := cnB q ws n C && (decide (j = n) && allK (setR C X) n)
def wcV (q : Int) (ws : List Int) (n : Nat) (C : List (Int × List Int)) (j : Nat) (X : List (List Int)) : Bool := wcB q ws n C j X && winB q ws n (wonL C (setK C X) n)

set_option maxRecDepth 20000 in
set_option maxHeartbeats 4000000 in
theorem iWinsCouncil_any (q : Int) (A : Option Addr) (n cap : Nat) (ws : List Int) (A2 : Option Addr) (k cp : Nat) (C : List (Int × List Int)) (A3 : Option Addr) (j cap3 : Nat) (X : List (List Int)) (w : World) (hm : n ≤ 9223372036854775807) (hk : Known w A n ws) (hm2 : k ≤ 9223372036854775807) (hk2 : KCS w A2 k C) (_hT : csum C k ≤ 1048576) (hj20 : j ≤ 1048576) (hk3 : KSS w A3 j X) :
    Calls Try.prog 53 #[.agg #[.int .i64 q, .slice A n cap], .slice A2 k cp, .slice A3 j cap3] w fun e w' => e = .returned (.tuple #[.bool (wcV q ws n C j X), .bool (wcB q ws n C j X)]) ∧ Below w.heap.size w w' := by
  obtain ⟨i0, hi0, hz0, hz1, hz2⟩ := info_parts infoSet
  have hx := Box.new w (.int .i64 q) (.slice A n cap)
  have hb0 := below1 w (.cells #[.int .i64 q, .slice A n cap] 47)
  obtain ⟨c0, c1⟩ := hx.cells
  have HK3 := Lib.hid hk3
  clear hk3
  cases hc : cnB q ws n C with
  | false =>
    have HB := Lib.hid (show wcB q ws n C j X = false from by unfold wcB; rw [hc]; rfl)
    have HV := Lib.hid (show wcV q ws n C j X = false from by unfold wcV; rw [HB.out]; rfl)
    have HRC := Lib.hid (readCouncil_no q A n cap ws A2 k cp C _ hm (hk.now hb0) hm2 (hk2.now hb0) hc)
    clear hk hk2 hc
    go_enter Try.func53, Try.ntmps53
    go_wp2_with fail
    refine HRC.out.mono ?_
    rintro e w1 ⟨rfl, hb1⟩
    have g1 := bfrom hb0 hb1
    have b2 := below1 w1 (.cells #[.int .i64 0, .slice none 0 0, .slice none 0 0] 103)
    go_wp2
    go_ret2
    exact ⟨by rw [HV.out, HB.out]; rfl, bfrom g1 b2⟩
  | true =>
    obtain ⟨hkn, hco⟩ := council_of hk hk2 hc
    subst hkn
    have HRC := Lib.hid (readCouncil_yes q A k cap ws A2 k cp C _ hm (hk.now hb0) hm2 (hk2.now hb0) hc)
    have HCO := Lib.hid hco
    have hn9 := hco.good.hi
    have hn1 := hco.good.lo
    by_cases hjk : j = k
    · obtain rfl : k = j := hjk.symm
      have HB := Lib.hid (show wcB q ws k C k X = allK (setR C X) k from by unfold wcB; rw [hc]; simp)
      have HV := Lib.hid (show wcV q ws k C k X = (wcB q ws k C k X && winB q ws k (wonL C (setK C X) k)) from rfl)
      clear hk hk2 hc hco
      go_enter Try.func53, Try.ntmps53
      go_wp2_with fail
      refine HRC.out.mono ?_
      rintro e w1 ⟨rfl, hb1⟩
      have g1 := bfrom hb0 hb1
      have hy := CBox.new q A k cap A2 k cp w1
      have b2 := below1 w1 (.cells #[.int .i64 q, .slice A k cap, .slice A2 k cp] 103)
      obtain ⟨w2, hw2⟩ : ∃ z, z = w1.alloc (.cells #[.int .i64 q, .slice A k cap, .slice A2 k cp] 103) := ⟨_, rfl⟩
      rw [← hw2] at hy b2
      have g2 := bfrom g1 b2
      have HSZ2 := Lib.hid (show w2.heap.size = w1.heap.size + 1 from by rw [hw2]; simp)
      have HY := Lib.hid hy
      have hz2' := g2.size
      clear hx c0 c1 hb0 hb1 hy hjk
      go_wp2_with (first
        | (at_make; rw [← hw2]; refine wpList_make_own _ rfl _ _ 93 rfl w2.heap.size 86 i0 (.int .u64 0) 1 Try.underlying93 hi0 hz0 hz1 .i64 .i64 k k rfl rfl rfl (by rw [hz2]; omega) (by unfold maxLen; omega) (by simp) ?_; intro w3 hown hgrow; have b3 : Below w2.heap.size w2 w3 := (Below.refl _ _).grown hgrow (Nat.le_refl _) (fun j hj => by cases hj); have HO3 := Lib.hid hown; clear hown hgrow)
        | fail)
      go_loopw [10, 11, 12, 13, 14, 35] (fun v _ _ _ _ i wr => ∃ (t : Nat) (B : Option Addr) (cp4 : Nat), t ≤ k ∧ i = .int .i64 t ∧ v = .slice B t cp4 ∧ allK (setR C X) t = true ∧ wr.ownsRow w2.heap.size 86 1 (.slice B t cp4) t (setsV (setKL C X t)) ∧ Below w2.heap.size w2 wr) (fun _ _ _ _ _ i _ => k - (intOf i).toNat)
      case atStart => exact ⟨0, some ⟨w1.heap.size + 1, 0, none⟩, k, Nat.zero_le _, rfl, rfl, rfl, by have h := HO3.out; rw [HSZ2.out] at h ⊢; exact h, b3⟩
      case round =>
        obtain ⟨t, B, cp4, ht, rfl, rfl, hall, hown, hbr⟩ := hrel
        have HO := Lib.hid hown
        have HALL := Lib.hid hall
        have hb := bfrom g2 hbr
        have hszr := hbr.size
        clear hown hall
        by_cases hlt : t < k
        · obtain ⟨_, b, off, hA, hrow⟩ := (HCO.out.inner.now hb)
          obtain ⟨rfl, hbl⟩ := hA (by omega)
          obtain ⟨A', cap', e0, e1, _, _⟩ := hrow t hlt
          obtain ⟨_, b5, off5, hA5, hrow5⟩ := (HK3.out.now hb)
          obtain ⟨rfl, hbl5⟩ := hA5 (by omega)
          obtain ⟨A'', cap'', hcell, hml, hkn⟩ := hrow5 t hlt
          have hm9 := (HCO.out.each t hlt).hi
          have HPS := Lib.hid (setKL_succ C X t)
          have HPL := Lib.hid (setKL_len C X t)
          have HKN := Lib.hid hkn
          have HRS := Lib.hid (fun W h => readSet_kn (nAt C t) A'' (X.getD t []).length cap'' (X.getD t []) W (by omega) hml h)
          have HSR := Lib.hid (show riseB (nAt C t) (X.getD t []) (X.getD t []).length = setR C X t from rfl)
          have HSK := Lib.hid (show ofB (nAt C t) (X.getD t []) (X.getD t []).length = setK C X t from rfl)
          have hsk := setK_lt C X t hm9
          have HNX := Lib.hid (show setR C X t = true → allK (setR C X) (t+1) = true from fun h => by simp only [allK]; rw [HALL.out, h]; rfl)
          have HNO := Lib.hid (show setR C X t = false → allK (setR C X) k = false from fun h => allK_false t hlt h)
          rw [HSR.out, HSK.out] at HRS
          clear hA hrow hA5 hrow5 hkn HSR HSK
          obtain ⟨sr, hsr⟩ : ∃ z, z = setR C X t := ⟨_, rfl⟩
          obtain ⟨sk, hske⟩ : ∃ z, z = setK C X t := ⟨_, rfl⟩
          rw [← hsr, ← hske] at HRS
          rw [← hsr] at HNX HNO
          rw [← hske] at HPS hsk
          clear hsr hske
          obtain ⟨m5, hm5⟩ : ∃ z, z = (X.getD t []).length := ⟨_, rfl⟩
          rw [← hm5] at hcell HRS HKN
          clear hm5 hml
          generalize qAt C t = q1 at *
          generalize nAt C t = m1 at *
          have htk : (t : Int) < (k : Int) := by omega
          cases sr with
          | true =>
            go_wp2_with (first
              | (go_at_call 62; refine (members_any _ A' m1 cap' _).mono ?_; rintro e w3 ⟨rfl, hb3⟩; have HO4 := Lib.hid (owns_now HO.out hb3); have hz3 := hb3.size)
              | (go_at_call 101; refine (HRS.out _ (HKN.out.now hb3)).mono ?_; rintro e w' ⟨rfl, rfl⟩)
              | (at_builtin; refine wpList_append_lies _ rfl _ _ _ rfl w2.heap.size 86 i0 _ 1 8 Try.underlying93 hi0 hz0 hz1 hz2 rfl (by decide) (.slice B t cp4) t (setsV (setKL C X t)) rfl (HO4.out.alloc _) ⟨w3.heap.size, 0, none⟩ 1 1 [.int .u64 (sk : Nat)] rfl rfl (World.news_of_block (cs := #[.int .u64 (sk : Nat)]) (t := 86) (fr := (0, 0)) (heap_alloc_new w3 _)) (by simp [Value.oneCell']) (by omega) (by unfold maxLen; omega) (by omega) (by simp; omega) (w3.heap.size + 1) (by simp) ?_; intro gg cap5 w4 hown4 hgrow4 hat hlt4)
              | fail)
            have q3 : Below w2.heap.size w2 w3 := hbr.trans (hb3.mono hszr)
            have q4 : Below w2.heap.size w2 w4 := (q3.alloc q3.size (.cells #[.int .u64 (sk : Nat)] 86)).grown hgrow4 (by have := q3.size; simp; omega) fun i hi => owns_le HO.out hi
            go_roundw
            case rel => exact ⟨t + 1, some ⟨gg, 0, none⟩, cap5, by omega, by go_num, rfl, by first | exact HNX.out rfl | simpa using HNX.out, by rw [HPS.out]; simpa [setsV] using hown4, q4⟩
            case measure => simp [intOf]; omega
          | false =>
            have HF := Lib.hid (HNO.out rfl)
            go_wp2_with (first
              | (go_at_call 62; refine (members_any _ A' m1 cap' _).mono ?_; rintro e w3 ⟨rfl, hb3⟩)
              | (go_at_call 101; refine (HRS.out _ (HKN.out.now hb3)).mono ?_; rintro e w' ⟨rfl, rfl⟩)
              | fail)
            go_ret2
            exact ⟨by rw [HV.out, HB.out, HF.out]; rfl, bfrom hb hb3⟩
        · obtain rfl : k = t := by omega
          obtain ⟨gp, cp5, hv, hgp, _, _⟩ := owns_head HO.out (by omega)
          obtain ⟨rfl, rfl⟩ : B = some ⟨gp, 0, none⟩ ∧ cp4 = cp5 := by simpa using hv
          have HOP := Lib.hid (show Own wr gp 86 k (fun i => .int .u64 (setK C X i : Nat)) from Own.of_own HO.out (fun i hi => setKL_get C X k i hi))
          obtain ⟨f0, f1, f2⟩ := (HY.out.now hbr).cells
          have HW := Lib.hid (winsByParts_any q A k cap ws A2 cp C gp cp4 (setK C X) wr (HCO.out.now hb) (fun i hi => setK_lt C X i (HCO.out.each i hi).hi) HOP.out)
          go_wp2_with (first | (go_at_call 102; refine HW.out.mono ?_; rintro e w3 ⟨rfl, hb3⟩) | fail)
          go_ret2
          exact ⟨by rw [HV.out, HB.out, HALL.out]; rfl, bfrom hb hb3⟩
    · have HB := Lib.hid (show wcB q ws k C j X = false from by unfold wcB; rw [decide_eq_false hjk]; simp)
      have HV := Lib.hid (show wcV q ws k C j X = false from by unfold wcV; rw [HB.out]; rfl)
      have hjk' : ¬ (j : Int) = (k : Int) := by omega
      clear hk hk2 hc hco
      go_enter Try.func53, Try.ntmps53
      go_wp2_with fail
      refine HRC.out.mono ?_
      rintro e w1 ⟨rfl, hb1⟩
      have g1 := bfrom hb0 hb1
      have b2 := below1 w1 (.cells #[.int .i64 q, .slice A k cap, .slice A2 k cp] 103)
      go_wp2
      go_ret2
      exact ⟨by rw [HV.out, HB.out]; rfl, bfrom g1 b2⟩
