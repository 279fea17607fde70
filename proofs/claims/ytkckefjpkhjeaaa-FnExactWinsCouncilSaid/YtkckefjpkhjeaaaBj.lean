/- Contracts of the model's chambers: which sets win all of them, or some. -/
import Derived.Test.YtkckefjpkhjeaaaBi
namespace Go.Proofs.Ytkckefjpkhjeaaa
open Go.RowKit Vo

/-- Does a set win in each (a), or in some (not a), of the first k of these? -/
def chP (a : Bool) (C : List (Int × List Int)) : Nat → Nat → Bool
  | 0, _ => a
  | k+1, s => if a then chP a C k s && winB (qAt C k) (wAt C k) (nAt C k) s else chP a C k s || winB (qAt C k) (wAt C k) (nAt C k) s
theorem chP_one (a : Bool) (C : List (Int × List Int)) (s : Nat) : chP a C 1 s = winB (qAt C 0) (wAt C 0) (nAt C 0) s := by cases a <;> simp [chP]
theorem chP_all (C : List (Int × List Int)) (k s : Nat) : chP true C k s = !anyK (fun i => !winB (qAt C i) (wAt C i) (nAt C i) s) k := by
  induction k with
  | zero => rfl
  | succ k ih =>
    have e : anyK (fun i => !winB (qAt C i) (wAt C i) (nAt C i) s) (k+1) = (anyK (fun i => !winB (qAt C i) (wAt C i) (nAt C i) s) k || !winB (qAt C k) (wAt C k) (nAt C k) s) := by
      simp [anyK, allK, Bool.not_and]
    rw [e]
    simp only [chP, ih, if_true]
    simp
theorem chP_some (C : List (Int × List Int)) (k s : Nat) : chP false C k s = anyK (fun i => winB (qAt C i) (wAt C i) (nAt C i) s) k := by
  induction k with
  | zero => rfl
  | succ k ih =>
    have e : anyK (fun i => winB (qAt C i) (wAt C i) (nAt C i) s) (k+1) = (anyK (fun i => winB (qAt C i) (wAt C i) (nAt C i) s) k || winB (qAt C k) (wAt C k) (nAt C k) s) := by
      simp [anyK, allK, Bool.not_and]
    rw [e]
    simp [chP, ih]

/-- Block g of the call's own tells of all sets of m members whether they are of the kind p. -/
def TableAt (p : Nat → Bool) (N : Nat) (w w' : World) (e : Ending) : Prop :=
  ∃ g cap, e = .returned (.slice (some ⟨g, 0, none⟩) N cap) ∧ w.heap.size ≤ g ∧ Own w' g 4 N (fun j => .bool (p j)) ∧ Below w.heap.size w w'

theorem grown_refl' (w : World) (r : Option Nat) : w.grownBy w r := ⟨rfl, rfl, rfl, Nat.le_refl _, fun _ _ _ => rfl⟩
theorem grown_set' {w wr : World} {g : Nat} (h : w.grownBy wr (some g)) (o : Nat) (u : Value) : w.grownBy (wr.setCell ⟨g, o, none⟩ u) (some g) :=
  ⟨h.os, h.tape, h.output, by have := h.size; simpa [World.setCell] using this, fun k hk hne => (Below.heap_setCell wr ⟨g, o, none⟩ u k (fun e => hne (by rw [e]))).trans (h.block k hk hne)⟩

set_option maxRecDepth 20000 in
set_option maxHeartbeats 4000000 in
theorem chAll_any (a : Bool) (b off n : Nat) (C : List (Int × List Int)) (w : World) (hm : n ≤ 9223372036854775807) (hk : KCS w (some ⟨b, off, none⟩) n C) (hc : chB C = true) :
    Calls Try.prog 66 #[.slice (some ⟨b, off, none⟩) n n, .bool a] w fun e w' => TableAt (chP a C n) (2 ^ nAt C 0) w w' e := by
  obtain ⟨h1, h4, hgood⟩ := chB_parts hc
  have hlen := hk.1
  have HK := Lib.hid hk
  have hROW := Lib.hid (show ∀ W, Below w.heap.size w W → ∀ i, i < n → ∃ A' cap, b < W.heap.size ∧ W.cell? ⟨b, off + i * 2, none⟩ = some (.int .i64 (qAt C i)) ∧ W.cell? ⟨b, off + i * 2 + 1, none⟩ = some (.slice (some A') (nAt C i) cap) ∧ Known W (some A') (nAt C i) (wAt C i) ∧ Vo.Good (qAt C i) (wAt C i) (nAt C i) ∧ nAt C i = nAt C 0 from fun W hb i hi => by
    have hks := HK.out.now hb
    obtain ⟨_, b', off', hA, hrow⟩ := hks
    obtain ⟨hA', hbl⟩ := hA (by omega)
    injection hA' with hA'
    injection hA' with e1 e2
    subst e1 e2
    obtain ⟨A', cap, c0, c1, _, hkn⟩ := hrow i hi
    have hg := hgood i (by omega)
    obtain ⟨bb, oo, rfl, hsl⟩ := hkn.get hg.1.lo
    exact ⟨_, cap, hbl, c0, c1, Known.of hsl, hg.1, hg.2⟩)
  have hn1 : 1 ≤ n := by omega
  have hn4 : n ≤ 4 := by omega
  have h9 : nAt C 0 < 10 := by have := (hgood 0 (by omega)).1.hi; omega
  have h512 := pow_lt (n := nAt C 0) (by omega)
  clear hk hc hgood h1 h4 hlen HK
  obtain ⟨N, hN⟩ : ∃ N, N = 2 ^ nAt C 0 := ⟨_, rfl⟩
  rw [← hN] at h512 ⊢
  have HN := Lib.hid hN
  clear hN
  obtain ⟨A0, cap0, hbl, c0, c1, hk0, hg0, _⟩ := hROW.out w (Below.refl _ _) 0 (by omega)
  simp only [Nat.zero_mul, Nat.add_zero] at c0 c1
  have HW0 := Lib.hid (show ∀ W, Below w.heap.size w W → Calls Try.prog 78 #[.agg #[.int .i64 (qAt C 0), .slice (some A0) (nAt C 0) cap0]] W fun e w' => TableAt (winB (qAt C 0) (wAt C 0) (nAt C 0)) N W w' e from fun W hb => by
    obtain ⟨bb, oo, e, hsl⟩ := (hk0.now hb).get hg0.lo
    rw [e, HN.out]
    exact voWins_any (qAt C 0) bb oo (nAt C 0) cap0 (wAt C 0) W h9 hg0.ok hsl)
  have HP1 := Lib.hid (fun s => chP_one a C s)
  clear hk0 hg0
  obtain ⟨q0, hq0⟩ : ∃ z, z = qAt C 0 := ⟨_, rfl⟩
  obtain ⟨m0, hm0⟩ : ∃ z, z = nAt C 0 := ⟨_, rfl⟩
  rw [← hq0] at c0
  rw [← hm0] at c1
  rw [← hq0, ← hm0] at HW0
  have HQ0 := Lib.hid hq0
  have HM0 := Lib.hid hm0
  clear hq0 hm0
  have h0n : (0 : Int) < (n : Int) := by omega
  have h1n : (1 : Int) ≤ (n : Int) := by omega
  by_cases hone : n = 1
  · subst hone
    go_enter Try.func66, Try.ntmps66
    go_wp2_with (first | (go_at_call 78; refine (HW0.out _ (Below.refl _ _)).mono ?_; rintro e w1 ⟨g, cp, rfl, hg, hown, hb1⟩; have HO1 := Lib.hid hown; clear hown) | fail)
    refine wp_loop_rounds 1 ?_
    rw [rounds_succ]
    go_wp2
    go_ret
    exact ⟨g, cp, rfl, hg, HO1.out.congr fun s _ => by rw [HP1.out s, HQ0.out, HM0.out], hb1⟩
  · have h1n' : (1 : Int) < (n : Int) := by omega
    go_enter Try.func66, Try.ntmps66
    go_wp2_with (first | (go_at_call 78; refine (HW0.out _ (Below.refl _ _)).mono ?_; rintro e w1 ⟨g, cp, rfl, hg, hown, hb1⟩; have HO1 := Lib.hid hown; clear hown) | fail)
    obtain ⟨R, hR⟩ : ∃ R, R = n - 1 := ⟨_, rfl⟩
    rw [← hR]
    have HRR := Lib.hid (show R + 1 = n by omega)
    have hR4 : R ≤ 4 := by omega
    have hgl1 := HO1.out.lt
    clear hR c0 c1
    go_loopw [7, 8, 9, 17] (fun _ _ _ i wr => ∃ j : Nat, j ≤ R ∧ i = .int .i64 j ∧ Own wr g 4 N (fun s => .bool (chP a C (j + 1) s)) ∧ Below w.heap.size w wr) (fun _ _ _ i _ => R - (intOf i).toNat)
    case atStart => exact ⟨0, Nat.zero_le _, rfl, HO1.out.congr fun s _ => by rw [HP1.out s, HQ0.out, HM0.out], hb1⟩
    case round =>
      obtain ⟨j, hj, rfl, hown, hb⟩ := hrel
      have HOR := Lib.hid hown
      have hglr := hown.lt
      clear hown
      by_cases hlt : j < R
      · obtain ⟨A', cap', hbl', d0, d1, hkn, hgd, hmm⟩ := hROW.out wr hb (j+1) (by have := HRR.out; omega)
        rw [show off + (j+1)*2 = off + 2 + j * 2 from by omega] at d0 d1
        have HW := Lib.hid (show ∀ W, Below wr.heap.size wr W → Calls Try.prog 78 #[.agg #[.int .i64 (qAt C (j+1)), .slice (some A') m0 cap']] W fun e w' => TableAt (winB (qAt C (j+1)) (wAt C (j+1)) (nAt C (j+1))) N W w' e from fun W hb' => by
          obtain ⟨bb, oo, e, hsl⟩ := (hkn.now hb').get hgd.lo
          rw [e, HN.out, HM0.out, ← hmm]
          exact voWins_any (qAt C (j+1)) bb oo (nAt C (j+1)) cap' (wAt C (j+1)) W (by rw [hmm]; exact h9) hgd.ok hsl)
        rw [hmm, ← HM0.out] at d1
        have HSTEP := Lib.hid (show ∀ s, chP a C (j+2) s = if a then chP a C (j+1) s && winB (qAt C (j+1)) (wAt C (j+1)) (nAt C (j+1)) s else chP a C (j+1) s || winB (qAt C (j+1)) (wAt C (j+1)) (nAt C (j+1)) s from fun _ => rfl)
        clear hkn hgd hmm
        obtain ⟨P1, hP1⟩ : ∃ z, z = winB (qAt C (j+1)) (wAt C (j+1)) (nAt C (j+1)) := ⟨_, rfl⟩
        rw [← hP1] at HW HSTEP
        clear hP1
        obtain ⟨q1, hq1⟩ : ∃ z, z = qAt C (j+1) := ⟨_, rfl⟩
        rw [← hq1] at HW d0
        clear hq1
        obtain ⟨X, hX⟩ : ∃ z, z = chP a C (j+1) := ⟨_, rfl⟩
        obtain ⟨Y, hY⟩ : ∃ z, z = chP a C (j+2) := ⟨_, rfl⟩
        rw [← hX] at HOR HSTEP
        rw [← hY] at HSTEP
        have HY := Lib.hid hY
        clear hX hY
        have hx := Box.new wr (.int .i64 q1) (.slice (some A') m0 cap')
        have b0 := below1 wr (.cells #[.int .i64 q1, .slice (some A') m0 cap'] 47)
        obtain ⟨e0, e1⟩ := hx.cells
        go_wp2_with (first | (go_at_call 78; refine (HW.out _ b0).mono ?_; rintro e w2 ⟨g2, cp2, rfl, hg2, hown2, hb2⟩; have HO2 := Lib.hid hown2; clear hown2) | fail)
        have b2 := bfrom b0 hb2
        have HOG := Lib.hid (HOR.out.below b2 hglr)
        have hgg : g ≠ g2 := by simp only [World.size_alloc] at hg2; omega
        have hgl2 := HOG.out.lt
        have hgl3 := HO2.out.lt
        clear d0 d1 e0 e1 hx
        go_loopw [8, 9, 24] (fun _ _ i wi => ∃ t : Nat, t ≤ N ∧ i = .int .i64 t ∧ Own wi g 4 N (fun s => .bool (if s < t then Y s else X s)) ∧ w2.grownBy wi (some g)) (fun _ _ i _ => N - (intOf i).toNat)
        case atStart => exact ⟨0, Nat.zero_le _, rfl, HOG.out.congr fun s _ => by simp, grown_refl' _ _⟩
        case round =>
          obtain ⟨t, ht, rfl, hownt, hgr⟩ := hrel
          have HOT := Lib.hid hownt
          have HGR := Lib.hid hgr
          have hzt := hgr.size
          clear hownt hgr
          by_cases hlt2 : t < N
          · have f0 := HOT.out.cell hlt2
            rw [if_neg (Nat.lt_irrefl t)] at f0
            have f1 := (HO2.out.grown HGR.out (by simp; omega)).cell hlt2
            have f2 := HOT.out.frozen t
            have HS := Lib.hid (HOT.out.set t (.bool (Y t)))
            have HG2 := Lib.hid (grown_set' HGR.out t (.bool (Y t)))
            have hYT := HSTEP.out t
            obtain ⟨x, hx⟩ : ∃ x, x = X t := ⟨_, rfl⟩
            obtain ⟨p, hp⟩ : ∃ p, p = P1 t := ⟨_, rfl⟩
            obtain ⟨y, hy⟩ : ∃ y, y = Y t := ⟨_, rfl⟩
            rw [← hx] at f0 hYT
            rw [← hp] at f1 hYT
            rw [← hy] at HS HG2 hYT
            have HYE := Lib.hid hy
            clear hx hp hy
            have hlt2' : (t : Int) < (N : Int) := by omega
            cases a <;> cases x <;> cases p
            all_goals
              simp at hYT
              subst hYT
              go_wp2
              go_roundw
              case rel =>
                refine ⟨t + 1, by omega, by go_num, HS.out.congr fun s hs => ?_, HG2.out⟩
                by_cases e : s = t
                · subst e; rw [if_pos rfl, if_pos (by omega), ← HYE.out]
                · rw [if_neg e]
                  by_cases h : s < t
                  · rw [if_pos h, if_pos (by omega)]
                  · rw [if_neg h, if_neg (by omega)]
              case measure => simp [intOf]; omega
          · obtain rfl : N = t := by omega
            have HGF := Lib.hid ((hb.trans (b2.mono (by have := hb.size; omega))).grown HGR.out (by have := hb.size; have := b2.size; omega) (fun k hk => by cases hk; omega))
            have HOF := Lib.hid (show Own wr g 4 N (fun s => .bool (chP a C (j + 1 + 1) s)) from HOT.out.congr fun s hs => by rw [if_pos hs, HY.out])
            go_wp2
            go_roundw
            case rel => exact ⟨j + 1, by omega, by go_num, HOF.out, HGF.out⟩
            case measure => simp [intOf]; omega
      · obtain rfl : j = R := by omega
        have HRE := Lib.hid (show j + 1 = n from HRR.out)
        go_wp2
        go_ret
        exact ⟨g, cp, rfl, hg, by rw [← HRE.out]; exact HOR.out, hb⟩
end Go.Proofs.Ytkckefjpkhjeaaa
