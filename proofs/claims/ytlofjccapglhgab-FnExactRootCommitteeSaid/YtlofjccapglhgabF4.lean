/- Contracts of RootQuota, the program's and the model's; the walk of its law. -/
import Derived.Test.YtlofjccapglhgabF3
import Derived.Test.YtlofjccapglhgabU1
import Derived.Test.YtlofjccapglhgabL1
import Derived.Test.YtlofjccapglhgabS2
import Derived.BigQuiet
namespace Go.Proofs.Ytlofjccapglhgab
open Go.RowKit Vo

def rootOk (ws : List Int) (n : Nat) : Bool := numsB 0 1000 ws n && decide (0 < sumK ws n)
def rootV (ws : List Int) (n : Nat) : Int := if rootOk ws n then (rq (sumK ws n).toNat (sqK ws n) : Nat) else 0
theorem rootV_yes {ws : List Int} {n : Nat} (h : rootOk ws n = true) : rootV ws n = (rq (sumK ws n).toNat (sqK ws n) : Nat) := if_pos h
theorem rootV_no {ws : List Int} {n : Nat} (h : rootOk ws n = false) : rootV ws n = 0 := if_neg (by rw [h]; simp)
theorem sqK_bd {ws : List Int} {n k : Nat} (hn : n ≤ 9) (h : InK 0 1000 ws n) (hk : k ≤ n) : sqK ws k ≤ 9000000 := by
  have := sqK_le (h.mono hk)
  have : 1000000 * k ≤ 1000000 * 9 := Nat.mul_le_mul_left _ (by omega)
  omega

set_option maxHeartbeats 2000000 in
theorem rootQuota_any (A : Option Addr) (n cap : Nat) (ws : List Int) (w : World) (hm : n ≤ 9223372036854775807) (hk : Known w A n ws) :
    Calls Try.prog 29 #[.slice A n cap] w fun e w' => e = .returned (.tuple #[.int .i64 (rootV ws n), .bool (rootOk ws n)]) ∧ w = w' := by
  have HK := Lib.hid hk
  clear hk
  cases hnb : numsB 0 1000 ws n with
  | false =>
    have HN := Lib.hid hnb
    have HO := Lib.hid (show rootOk ws n = false from by unfold rootOk; rw [hnb]; rfl)
    clear hnb
    go_enter Try.func29, Try.ntmps29
    go_wp2_with (go_at_call 60; refine (areNumbers_any A n cap 0 1000 ws _ hm HK.out).mono ?_; rintro e w1 ⟨rfl, rfl⟩; rw [HN.out])
    go_ret2
    exact ⟨by rw [rootV_no HO.out, HO.out]; rfl, rfl⟩
  | true =>
    obtain ⟨h1, h9, hin⟩ := numsB_parts hnb
    have HN := Lib.hid hnb
    obtain ⟨b, off, rfl, hsl⟩ := HK.out.get h1
    have HSL := Lib.hid hsl
    have HIN := Lib.hid hin
    have HINB := Lib.hid (show InK 0 1000000000000 ws n from fun j hj => by have := hin j hj; omega)
    have hbd := sumK_bd hin
    obtain ⟨T, hT⟩ : ∃ T : Nat, sumK ws n = T := ⟨(sumK ws n).toNat, by omega⟩
    have HT := Lib.hid hT
    have hTb : T ≤ 9000 := by omega
    have hlt0 := hsl.lt
    clear hsl hin hbd
    by_cases hz : T = 0
    · have HO := Lib.hid (show rootOk ws n = false from by unfold rootOk; rw [hnb, HT.out, hz]; rfl)
      have HT0 := Lib.hid (show sumK ws n = 0 from by rw [HT.out, hz]; rfl)
      clear hnb hT
      go_enter Try.func29, Try.ntmps29
      go_wp2_with (first
        | (go_at_call 60; refine (areNumbers_any _ n cap 0 1000 ws _ hm HK.out).mono ?_; rintro e w1 ⟨rfl, rfl⟩; rw [HN.out])
        | (go_at_call 62; refine (sumOf_any b off n cap ws _ (by omega) HINB.out HSL.out).mono ?_; rintro e w1 ⟨rfl, rfl⟩; rw [HT0.out]))
      go_ret2
      exact ⟨by rw [rootV_no HO.out, HO.out]; rfl, rfl⟩
    · have HO := Lib.hid (show rootOk ws n = true from by unfold rootOk; rw [hnb, HT.out]; simp; omega)
      have HV := Lib.hid (show rootV ws n = (((T + ru (sqK ws n) + 1) / 2 : Nat) : Int) from by rw [rootV_yes HO.out, HT.out]; rfl)
      have hTp : 0 < T := by omega
      have hSb := sqK_bd h9 HIN.out (Nat.le_refl n)
      have HSB := Lib.hid (fun k hk => sqK_bd (k := k) h9 HIN.out hk)
      have hrub := ru_bd (n := sqK ws n) (B := 3000) (by omega)
      clear hnb hT hz
      go_enter Try.func29, Try.ntmps29
      go_wp2_with (first
        | (go_at_call 60; refine (areNumbers_any _ n cap 0 1000 ws _ hm HK.out).mono ?_; rintro e w1 ⟨rfl, rfl⟩; rw [HN.out])
        | (go_at_call 62; refine (sumOf_any b off n cap ws _ (by omega) HINB.out HSL.out).mono ?_; rintro e w1 ⟨rfl, rfl⟩; rw [HT.out]))
      go_loop [4, 6, 18] (fun s _ i => ∃ k : Nat, k ≤ n ∧ i = .int .i64 k ∧ s = .int .i64 (sqK ws k : Nat)) (fun _ _ i => n - (intOf i).toNat)
      case atStart => exact ⟨0, Nat.zero_le _, rfl, rfl⟩
      case round =>
        obtain ⟨k, hk, rfl, rfl⟩ := hrel
        have hsk := HSB.out k hk
        by_cases hlt : k < n
        · have w1 := HIN.out k hlt
          have hcell : w.cell? ⟨b, off + k, none⟩ = some (.int .i64 (ws.getD k 0)) := HSL.out.cell k hlt
          have HS := Lib.hid (show sqK ws (k+1) = sqK ws k + (ws.getD k 0).toNat * (ws.getD k 0).toNat from rfl)
          obtain ⟨x, hx⟩ : ∃ x : Nat, ws.getD k 0 = x := ⟨(ws.getD k 0).toNat, by omega⟩
          rw [hx] at hcell HS w1
          rw [Int.toNat_natCast] at HS
          obtain ⟨s, hs⟩ : ∃ s, s = x * x := ⟨_, rfl⟩
          have hsb : s ≤ 1000 * 1000 := by rw [hs]; exact sq_bd (by omega)
          have hmul : (x : Int) * (x : Int) = (s : Int) := by rw [hs]; simp
          rw [← hs] at HS
          clear hs hx
          generalize sqK ws k = t at *
          go_wp2
          go_round
          case rel => exact ⟨k + 1, by omega, by go_num, by rw [HS.out]; simp⟩
          case measure => simp [intOf]; omega
        · obtain rfl : n = k := by omega
          obtain ⟨S, hS⟩ : ∃ S, S = sqK ws n := ⟨_, rfl⟩
          rw [← hS] at hrub HV hSb ⊢
          clear hS hsk
          obtain ⟨r, hr⟩ : ∃ r, ru S = r := ⟨_, rfl⟩
          rw [hr] at hrub HV
          have HRU := Lib.hid hr
          clear hr
          go_wp2_with (first
            | (go_at_call 62; refine (sumOf_any b off n cap ws _ (by omega) HINB.out HSL.out).mono ?_; rintro e w1 ⟨rfl, rfl⟩; rw [HT.out])
            | (go_at_call 63; refine (rootUp_any S _ (by omega)).mono ?_; rintro e w1 ⟨rfl, rfl⟩; rw [HRU.out]))
          go_ret2
          exact ⟨by rw [HV.out, HO.out]; simp, rfl⟩

theorem numsB_split (lo hi : Int) (xs : List Int) (n : Nat) : numsB lo hi xs n = (inB n 1 9 && allB lo hi xs n) := by
  by_cases h1 : (1 : Int) ≤ n ∧ (n : Int) ≤ 9
  · rw [inB_yes h1.1 h1.2]
    by_cases h2 : InK lo hi xs n
    · rw [allB_yes h2, numsB_yes (by omega) (by omega) h2]; rfl
    · rw [allB_no h2, numsB_no h2]; rfl
  · rw [inB_no h1, numsB_len (by omega)]; rfl

set_option maxHeartbeats 2000000 in
theorem shQuota_any (b off n cap : Nat) (ws : List Int) (w : World) (h9 : n ≤ 9) (hin : InK 0 1000 ws n) (hsl : Sl w b off n ws) :
    Calls Try.prog 59 #[.slice (some ⟨b, off, none⟩) n cap] w fun e w' => e = .returned (.int .i64 (rq (sumK ws n).toNat (sqK ws n) : Nat)) ∧ w = w' := by
  have HSL := Lib.hid hsl
  have HIN := Lib.hid hin
  have hbd := sumK_bd hin
  obtain ⟨T, hT⟩ : ∃ T : Nat, sumK ws n = T := ⟨(sumK ws n).toNat, by omega⟩
  have HT := Lib.hid hT
  have hTb : T ≤ 9000 := by omega
  have hlt0 := hsl.lt
  have hSb := sqK_bd h9 HIN.out (Nat.le_refl n)
  have HSB := Lib.hid (fun k hk => sqK_bd (k := k) h9 HIN.out hk)
  have hrub := ru_bd (n := sqK ws n) (B := 3000) (by omega)
  have HQ := Lib.hid (show rq (sumK ws n).toNat (sqK ws n) = rq T (sqK ws n) from by rw [HT.out]; rfl)
  have hqb : rq T (sqK ws n) ≤ 7000 := by unfold rq; omega
  clear hsl hin hbd hT hrub
  rw [HQ.out]
  have HNO := Lib.hid (fun q h0 h => rq_no (T := T) (S := sqK ws n) (q := q) h0 h)
  have HYES := Lib.hid (fun q h0 h1 h => rq_yes (T := T) (S := sqK ws n) (q := q) h0 h1 h)
  have h0 := rq_start T (sqK ws n)
  clear HQ
  obtain ⟨R, hR⟩ : ∃ R, rq T (sqK ws n) = R := ⟨_, rfl⟩
  rw [hR] at hqb h0 HNO HYES ⊢
  clear hR
  go_enter Try.func59, Try.ntmps59
  go_wp2
  go_loop [3, 5, 10] (fun s _ i => ∃ k : Nat, k ≤ n ∧ i = .int .i64 k ∧ s = .int .i64 (sqK ws k : Nat)) (fun _ _ i => n - (intOf i).toNat)
  case atStart => exact ⟨0, Nat.zero_le _, rfl, rfl⟩
  case round =>
    obtain ⟨k, hk, rfl, rfl⟩ := hrel
    have hsk := HSB.out k hk
    by_cases hlt : k < n
    · have w1 := HIN.out k hlt
      have hcell : w.cell? ⟨b, off + k, none⟩ = some (.int .i64 (ws.getD k 0)) := HSL.out.cell k hlt
      have HS := Lib.hid (show sqK ws (k+1) = sqK ws k + (ws.getD k 0).toNat * (ws.getD k 0).toNat from rfl)
      obtain ⟨x, hx⟩ : ∃ x : Nat, ws.getD k 0 = x := ⟨(ws.getD k 0).toNat, by omega⟩
      rw [hx] at hcell HS w1
      rw [Int.toNat_natCast] at HS
      obtain ⟨s, hs⟩ : ∃ s, s = x * x := ⟨_, rfl⟩
      have hsb : s ≤ 1000 * 1000 := by rw [hs]; exact sq_bd (by omega)
      have hmul : (x : Int) * (x : Int) = (s : Int) := by rw [hs]; simp
      rw [← hs] at HS
      clear hs hx
      generalize sqK ws k = t at *
      go_wp2
      go_round
      case rel => exact ⟨k + 1, by omega, by go_num, by rw [HS.out]; simp⟩
      case measure => simp [intOf]; omega
    · obtain rfl : n = k := by omega
      obtain ⟨S, hS⟩ : ∃ S, S = sqK ws n := ⟨_, rfl⟩
      rw [← hS] at hSb HNO HYES ⊢
      clear hS hsk
      go_wp2_with (go_at_call 36; refine (voSum_any b off n cap ws _ (by omega) HIN.out HSL.out).mono ?_; rintro e w1 ⟨rfl, rfl⟩; rw [HT.out])
      go_loop [7] (fun v => ∃ q : Nat, v = .int .i64 q ∧ T ≤ 2 * q ∧ q ≤ R) (fun v => R - (intOf v).toNat)
      case atStart => exact ⟨(T + 1) / 2, by congr 1 <;> omega, by omega, h0⟩
      case round =>
        obtain ⟨q, rfl, hq1, hq2⟩ := hrel
        obtain ⟨d, hd⟩ : ∃ d, d = 2 * q - T := ⟨_, rfl⟩
        have hdb : d ≤ 14000 := by omega
        have hdI : (2 : Int) * (q : Int) - (T : Int) = (d : Int) := by omega
        obtain ⟨s, hs⟩ : ∃ s, s = d * d := ⟨_, rfl⟩
        have hsb : s ≤ 14000 * 14000 := by rw [hs]; exact sq_bd hdb
        have hmul : (d : Int) * (d : Int) = (s : Int) := by rw [hs]; simp
        have HSD := Lib.hid (show (2 * q - T) * (2 * q - T) = s from by rw [hs, hd])
        clear hs hd
        by_cases hlt2 : s < S
        · have hq3 := HNO.out q hq1 (by rw [HSD.out]; exact hlt2)
          go_wp2
          go_round
          case rel => exact ⟨q + 1, by go_num, by omega, by omega⟩
          case measure => simp [intOf]; omega
        · have HE := Lib.hid (HYES.out q hq1 hq2 (by rw [HSD.out]; omega))
          go_wp2
          go_ret
          exact ⟨by rw [HE.out]; rfl, rfl⟩

set_option maxHeartbeats 2000000 in
theorem sRootQuota_any (A : Option Addr) (n cap : Nat) (ws : List Int) (w : World) (hm : n ≤ 9223372036854775807) (hk : Known w A n ws) :
    Calls Try.prog 28 #[.slice A n cap] w fun e w' => e = .returned (.tuple #[.int .i64 (rootV ws n), .bool (rootOk ws n)]) ∧ w = w' := by
  have HK := Lib.hid hk
  clear hk
  have hsp := numsB_split 0 1000 ws n
  cases hi : inB n 1 9 with
  | false =>
    have HI := Lib.hid hi
    have HO := Lib.hid (show rootOk ws n = false from by unfold rootOk; rw [hsp, hi]; rfl)
    clear hsp hi
    go_enter Try.func28, Try.ntmps28
    go_wp2_with (go_at_call 56; refine (l1In_any n 1 9 _).mono ?_; rintro e w1 ⟨rfl, rfl⟩; rw [HI.out])
    go_ret2
    exact ⟨by rw [rootV_no HO.out, HO.out]; rfl, rfl⟩
  | true =>
    have h19 : 1 ≤ n ∧ n ≤ 9 := by unfold inB at hi; simp at hi; omega
    obtain ⟨h1, h9⟩ := h19
    obtain ⟨b, off, rfl, hsl⟩ := HK.out.get h1
    have HSL := Lib.hid hsl
    have hlt0 := hsl.lt
    have HI := Lib.hid hi
    clear hsl
    cases ha : allB 0 1000 ws n with
    | false =>
      have HA := Lib.hid ha
      have HO := Lib.hid (show rootOk ws n = false from by unfold rootOk; rw [hsp, hi, ha]; rfl)
      clear hsp hi ha
      go_enter Try.func28, Try.ntmps28
      go_wp2_with (first
        | (go_at_call 56; refine (l1In_any n 1 9 _).mono ?_; rintro e w1 ⟨rfl, rfl⟩; rw [HI.out])
        | (go_at_call 57; refine (l1All_any b off n cap ws 0 1000 _ hm HSL.out).mono ?_; rintro e w1 ⟨rfl, rfl⟩; rw [HA.out]))
      go_ret2
      exact ⟨by rw [rootV_no HO.out, HO.out]; rfl, rfl⟩
    | true =>
      have hin : InK 0 1000 ws n := of_decide_eq_true ha
      have HIN := Lib.hid hin
      have HA := Lib.hid ha
      have hbd := sumK_bd hin
      obtain ⟨T, hT⟩ : ∃ T : Nat, sumK ws n = T := ⟨(sumK ws n).toNat, by omega⟩
      have HT := Lib.hid hT
      by_cases hz : T = 0
      · have HO := Lib.hid (show rootOk ws n = false from by unfold rootOk; rw [hsp, hi, ha, hT, hz]; rfl)
        have HT0 := Lib.hid (show sumK ws n = 0 from by rw [hT, hz]; rfl)
        clear hsp hi ha hin hbd hT
        go_enter Try.func28, Try.ntmps28
        go_wp2_with (first
          | (go_at_call 56; refine (l1In_any n 1 9 _).mono ?_; rintro e w1 ⟨rfl, rfl⟩; rw [HI.out])
          | (go_at_call 57; refine (l1All_any b off n cap ws 0 1000 _ hm HSL.out).mono ?_; rintro e w1 ⟨rfl, rfl⟩; rw [HA.out])
          | (go_at_call 36; refine (voSum_any b off n cap ws _ (by omega) HIN.out HSL.out).mono ?_; rintro e w1 ⟨rfl, rfl⟩; rw [HT0.out]))
        go_ret2
        exact ⟨by rw [rootV_no HO.out, HO.out]; rfl, rfl⟩
      · have HO := Lib.hid (show rootOk ws n = true from by unfold rootOk; rw [hsp, hi, ha, hT]; simp; omega)
        have HV := Lib.hid (rootV_yes HO.out)
        have hTp : 0 < T := by omega
        clear hsp hi ha hin hbd hT hz
        go_enter Try.func28, Try.ntmps28
        go_wp2_with (first
          | (go_at_call 56; refine (l1In_any n 1 9 _).mono ?_; rintro e w1 ⟨rfl, rfl⟩; rw [HI.out])
          | (go_at_call 57; refine (l1All_any b off n cap ws 0 1000 _ hm HSL.out).mono ?_; rintro e w1 ⟨rfl, rfl⟩; rw [HA.out])
          | (go_at_call 36; refine (voSum_any b off n cap ws _ (by omega) HIN.out HSL.out).mono ?_; rintro e w1 ⟨rfl, rfl⟩; rw [HT.out])
          | (go_at_call 59; refine (shQuota_any b off n cap ws _ h9 HIN.out HSL.out).mono ?_; rintro e w1 ⟨rfl, rfl⟩))
        go_ret2
        exact ⟨by rw [HV.out, HO.out]; rfl, rfl⟩

set_option maxHeartbeats 2000000 in
theorem lawRootQuota (A : Option Addr) (n cap : Nat) (ws : List Int) (w : World) (hm : n ≤ 9223372036854775807) (hk : Known w A n ws) :
    Calls Try.prog 7 #[.slice A n cap] w fun e w' => e = .returned (.bool true) ∧ Below w.heap.size w w' := by
  have HK := Lib.hid hk
  clear hk
  by_cases hn : 1048576 < n
  · go_enter Try.func7, Try.ntmps7
    go_wp2
    go_ret
    exact ⟨rfl, Below.refl _ _⟩
  have hn' : n ≤ 1048576 := by omega
  obtain ⟨V, hV⟩ : ∃ V, V = rootV ws n := ⟨_, rfl⟩
  have HV := Lib.hid hV
  obtain ⟨ok, hok⟩ : ∃ ok, ok = rootOk ws n := ⟨_, rfl⟩
  have HOKB := Lib.hid hok
  clear hV hok
  go_enter Try.func7, Try.ntmps7
  go_wp2_with fail
  refine (toIntS_any A n cap ws _ hn' HK.out).mono ?_
  rintro e w1 ⟨rfl, hi1, hb1⟩
  have hi1' := Lib.hid hi1.sl
  clear hi1
  go_wp2_with fail
  refine (sRootQuota_any _ n n ws _ hm (Known.of hi1'.out)).mono ?_
  rintro e w2 ⟨rfl, rfl⟩
  rw [← HV.out, ← HOKB.out]
  go_wp2_with fail
  refine (toIntS_any A n cap ws _ hn' (HK.out.now hb1)).mono ?_
  rintro e w2 ⟨rfl, hi2, hb2⟩
  have hi2' := Lib.hid hi2.sl
  clear hi2
  have g2 := bfrom hb1 hb2
  go_wp2_with fail
  refine (rootQuota_any _ n n ws _ hm (Known.of hi2'.out)).mono ?_
  rintro e w3 ⟨rfl, rfl⟩
  rw [← HV.out, ← HOKB.out]
  go_wp2_with fail
  refine (toIntS_any A n cap ws _ hn' (HK.out.now g2)).mono ?_
  rintro e w4 ⟨rfl, hi4, hb4⟩
  have hi4' := Lib.hid hi4.sl
  have hi24 := Lib.hid (hi2'.out.now hb4)
  have HSAME := Lib.hid (sameB_yes (xs := ws) (ys := ws) (n := n) (fun _ _ => rfl))
  clear hi4
  go_wp2_with fail
  refine (eqIntS_in _ 0 n n _ 0 n ws ws _ hm hi24.out hi4'.out).mono ?_
  rintro e w5 ⟨rfl, hb5⟩
  rw [HSAME.out]
  go_wp2
  go_ret
  exact ⟨rfl, bfrom g2 (bfrom hb4 hb5)⟩
end Go.Proofs.Ytlofjccapglhgab
