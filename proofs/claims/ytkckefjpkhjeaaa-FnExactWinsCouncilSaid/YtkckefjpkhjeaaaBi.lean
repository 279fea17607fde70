/- Contracts of the model's chambers: what are some, which sets win all of them, or some. -/
import Derived.Test.YtkckefjpkhjeaaaBc
import Derived.Test.YtkckefjpkhjeaaaS2
import Derived.Test.YtkckefjpkhjeaaaS3
import Derived.Test.YtkckefjpkhjeaaaW5
import Derived.BigQuiet
namespace Go.Proofs.Ytkckefjpkhjeaaa
open Go.RowKit Vo

theorem infoCell (W : World) (b o : Nat) : W.cell? ⟨b, o + 0, none⟩ = W.cell? ⟨b, o, none⟩ := rfl

set_option maxRecDepth 20000 in
set_option maxHeartbeats 4000000 in
theorem chGood_any (A : Option Addr) (n cp : Nat) (C : List (Int × List Int)) (w : World) (hm : n ≤ 9223372036854775807) (hk : KCS w A n C) :
    Calls Try.prog 60 #[.slice A n cp] w fun e w' => e = .returned (.bool (chB C)) ∧ Below w.heap.size w w' := by
  have hlen := hk.1
  have HK := Lib.hid hk
  clear hk
  cases hin : inB (n : Int) 1 4 with
  | false =>
    have HIN := Lib.hid hin
    have HR := Lib.hid (show chB C = false from by
      cases h : chB C with
      | false => rfl
      | true =>
        obtain ⟨h1, h4, _⟩ := chB_parts h
        rw [inB_yes (by omega) (by omega)] at hin; cases hin)
    clear hin hlen
    go_enter Try.func60, Try.ntmps60
    go_wp2_with fail
    refine (l1In_any (n : Int) 1 4 _).mono ?_
    rintro e w1 ⟨rfl, rfl⟩
    rw [HIN.out]
    go_wp2
    go_ret
    exact ⟨by rw [HR.out]; rfl, Below.refl _ _⟩
  | true =>
    have hn14 : 1 ≤ n ∧ n ≤ 4 := by unfold inB at hin; simp at hin; omega
    have HIN := Lib.hid hin
    have HLEN := Lib.hid hlen
    obtain ⟨hn1, hn4⟩ := hn14
    have h0n : (0 : Int) < (n : Int) := by omega
    clear hin hlen
    go_enter Try.func60, Try.ntmps60
    go_wp2_with fail
    refine (l1In_any (n : Int) 1 4 _).mono ?_
    rintro e w1 ⟨rfl, rfl⟩
    rw [HIN.out]
    go_wp2_with fail
    go_loopw [4, 11] (fun _ i wr => ∃ j : Nat, j ≤ n ∧ i = .int .i64 j ∧ (∀ t, t < j → goodB (qAt C t) (wAt C t) (nAt C t) = true ∧ nAt C t = nAt C 0) ∧ Below w.heap.size w wr) (fun _ i _ => n - (intOf i).toNat)
    case atStart => exact ⟨0, Nat.zero_le _, rfl, fun _ h => by omega, Below.refl _ _⟩
    case round =>
      obtain ⟨j, hj, rfl, hall, hb⟩ := hrel
      have HALL := Lib.hid hall
      clear hall
      by_cases hlt : j < n
      · have hks := HK.out.now hb
        obtain ⟨_, b, off, hA, hrow⟩ := hks
        obtain ⟨rfl, hbl⟩ := hA (by omega)
        obtain ⟨A', cap', hc0, hc1, hm', hkn⟩ := hrow j hlt
        obtain ⟨A0, cap0, hd0, hd1, _, _⟩ := hrow 0 (by omega)
        simp only [Nat.zero_mul, Nat.add_zero] at hd0 hd1
        have HKN := Lib.hid hkn
        clear hA hrow hkn hd0
        obtain ⟨q, hq⟩ : ∃ z, z = qAt C j := ⟨_, rfl⟩
        obtain ⟨ws, hws⟩ : ∃ z, z = wAt C j := ⟨_, rfl⟩
        obtain ⟨m, hmm⟩ : ∃ z, z = nAt C j := ⟨_, rfl⟩
        obtain ⟨m0, hm0⟩ : ∃ z, z = nAt C 0 := ⟨_, rfl⟩
        rw [← hq] at hc0
        rw [← hmm] at hc1 hm'
        rw [← hm0] at hd1
        rw [← hws, ← hmm] at HKN
        have HSTEP := Lib.hid (show goodB q ws m = true → m = m0 → ∀ t, t < j + 1 → goodB (qAt C t) (wAt C t) (nAt C t) = true ∧ nAt C t = nAt C 0 from fun h1 h2 t ht => by
          by_cases e : t = j
          · subst e; rw [← hq, ← hws, ← hmm, ← hm0]; exact ⟨h1, h2⟩
          · exact HALL.out t (by omega))
        have HNO := Lib.hid (show ¬ (goodB q ws m = true ∧ m = m0) → chB C = false from fun h => by
          cases hcb : chB C with
          | false => rfl
          | true =>
            have hh := (chB_parts hcb).2.2 j (by rw [HLEN.out]; exact hlt)
            exact absurd ⟨by rw [hq, hws, hmm]; exact goodB_true hh.1, by rw [hmm, hm0]; exact hh.2⟩ h)
        clear hq hws hmm hm0
        have hx := Box.new wr (.int .i64 q) (.slice A' m cap')
        have b0 := below1 wr (.cells #[.int .i64 q, .slice A' m cap'] 47)
        have KX := Lib.hid (show ∀ W, Below (wr.alloc (.cells #[.int .i64 q, .slice A' m cap'] 47)).heap.size (wr.alloc (.cells #[.int .i64 q, .slice A' m cap'] 47)) W → W.cell? ⟨wr.heap.size, 0, none⟩ = some (.int .i64 q) ∧ W.cell? ⟨wr.heap.size, 1, none⟩ = some (.slice A' m cap') ∧ W.cell? ⟨b, off + 1, none⟩ = some (.slice A0 m0 cap0) ∧ Below wr.heap.size wr W from fun W h => ⟨(hx.now h).cells.1, (hx.now h).cells.2, ((bfrom b0 h).cell (p := ⟨b, off + 1, none⟩) hbl).trans hd1, bfrom b0 h⟩)
        obtain ⟨e0, e1, e2, _⟩ := KX.out _ (Below.refl _ _)
        clear hx
        cases hgd : goodB q ws m with
        | false =>
          have HGD := Lib.hid hgd
          have HR := Lib.hid (HNO.out (fun h => by rw [hgd] at h; cases h.1))
          clear hgd
          go_wp2_with fail
          first
            | (go_region_with (first
                | (go_at_call 76; refine (voGood_any q A' m cap' ws _ hm' (HKN.out.now (KX.out _ (Below.refl _ _).drew).2.2.2)).mono ?_; rintro e w2 ⟨rfl, hb2⟩; rw [HGD.out]; obtain ⟨f0, f1, f2, b2⟩ := KX.out _ (bfrom (Below.refl _ _).drew hb2))))
            | fail
          all_goals
            go_wp2
            go_ret
            exact ⟨by rw [HR.out]; rfl, bfrom hb b2⟩
        | true =>
          have HGD := Lib.hid hgd
          clear hgd
          by_cases hmm : m = m0
          · subst hmm
            have HS := Lib.hid (HSTEP.out HGD.out rfl)
            have hd : ((m : Int) != (m : Int)) = false := by simp
            go_wp2_with fail
            first
              | (go_region_with (first
                  | (go_at_call 76; refine (voGood_any q A' m cap' ws _ hm' (HKN.out.now (KX.out _ (Below.refl _ _).drew).2.2.2)).mono ?_; rintro e w2 ⟨rfl, hb2⟩; rw [HGD.out]; obtain ⟨f0, f1, f2, b2⟩ := KX.out _ (bfrom (Below.refl _ _).drew hb2))))
              | fail
            all_goals
              go_wp2
              go_roundw
              case rel => exact ⟨j + 1, by omega, by go_num, HS.out, bfrom hb b2⟩
              case measure => simp [intOf]; omega
          · have HR := Lib.hid (HNO.out (fun h => hmm h.2))
            have hd : ((m : Int) != (m0 : Int)) = true := by simp; omega
            go_wp2_with fail
            first
              | (go_region_with (first
                  | (go_at_call 76; refine (voGood_any q A' m cap' ws _ hm' (HKN.out.now (KX.out _ (Below.refl _ _).drew).2.2.2)).mono ?_; rintro e w2 ⟨rfl, hb2⟩; rw [HGD.out]; obtain ⟨f0, f1, f2, b2⟩ := KX.out _ (bfrom (Below.refl _ _).drew hb2))))
              | fail
            all_goals
              go_wp2
              go_ret
              exact ⟨by rw [HR.out]; rfl, bfrom hb b2⟩
      · obtain rfl : j = n := by omega
        have HR := Lib.hid (show chB C = true from by
          unfold chB comsB
          rw [HLEN.out, decide_eq_true (show 1 ≤ j ∧ j ≤ 4 by omega), allK_iff.2 (fun t ht => (HALL.out t ht).1), allK_iff.2 (fun t ht => by simp [(HALL.out t ht).2])]
          rfl)
        go_wp2
        go_ret
        exact ⟨by rw [HR.out]; rfl, hb⟩

theorem sAreChambers_any (A : Option Addr) (n cp : Nat) (C : List (Int × List Int)) (w : World) (hm : n ≤ 9223372036854775807) (hk : KCS w A n C) :
    Calls Try.prog 16 #[.slice A n cp] w fun e w' => e = .returned (.bool (chB C)) ∧ Below w.heap.size w w' := by
  have HG := Lib.hid (chGood_any A n cp C w hm hk)
  clear hk
  go_enter Try.func16, Try.ntmps16
  go_wp2_with fail
  refine HG.out.mono ?_
  rintro e w1 ⟨rfl, hb1⟩
  go_wp2
  go_ret
  exact ⟨rfl, hb1⟩
end Go.Proofs.Ytkckefjpkhjeaaa
