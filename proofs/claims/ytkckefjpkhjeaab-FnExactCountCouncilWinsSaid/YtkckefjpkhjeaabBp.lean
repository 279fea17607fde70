/- Contracts of the program's councils: sets win by their parts. -/
import Derived.Test.YtkckefjpkhjeaabBo
import Derived.Test.YtkckefjpkhjeaabBf
import Derived.Test.YtkckefjpkhjeaabBg
import Derived.Deep.RegionHeld3
namespace Go.Proofs.Ytkckefjpkhjeaab
open Go.RowKit Vo

/-- The part of a set that inner committee j has. -/
def partK (C : List (Int × List Int)) (s j : Nat) : Nat := s / 2 ^ csum C j % 2 ^ nAt C j
theorem partK_lt (C : List (Int × List Int)) (s j : Nat) : partK C s j < 2 ^ nAt C j := Nat.mod_lt _ (Nat.two_pow_pos _)
theorem rest_succ (C : List (Int × List Int)) (s j : Nat) : s / 2 ^ csum C j / 2 ^ nAt C j = s / 2 ^ csum C (j+1) := by
  rw [Nat.div_div_eq_div_mul, ← Nat.pow_add, csum_succ]
/-- Which of the first k outer members win by these parts. -/
def wonL (C : List (Int × List Int)) (P : Nat → Nat) : Nat → Nat
  | 0 => 0
  | j+1 => if winB (qAt C j) (wAt C j) (nAt C j) (P j) then wonL C P j ||| 2 ^ j else wonL C P j
theorem wonL_lt (C : List (Int × List Int)) (P : Nat → Nat) (k : Nat) : wonL C P k < 2 ^ k := by
  induction k with
  | zero => simp [wonL]
  | succ k ih =>
    simp only [wonL]
    split
    · exact Nat.or_lt_two_pow (Nat.lt_trans ih (Nat.pow_lt_pow_right (by omega) (by omega))) (Nat.pow_lt_pow_right (by omega) (by omega))
    · exact Nat.lt_trans ih (Nat.pow_lt_pow_right (by omega) (by omega))
theorem wonL_succ (C : List (Int × List Int)) (P : Nat → Nat) (j : Nat) : wonL C P (j+1) = if winB (qAt C j) (wAt C j) (nAt C j) (P j) then wonL C P j ||| 2 ^ j else wonL C P j := rfl
/-- Does a set of the council's own members win? -/
def councilP (q : Int) (ws : List Int) (n : Nat) (C : List (Int × List Int)) (s : Nat) : Bool := winB q ws n (wonL C (partK C s) n)

/-- Block g is the box of a council. -/
def CBox (q : Int) (A : Option Addr) (n cap : Nat) (A2 : Option Addr) (k cp : Nat) (w : World) (g : Nat) : Prop := w.heap[g]? = some (.cells #[.int .i64 q, .slice A n cap, .slice A2 k cp] 77 (0, 0))
theorem CBox.cells {q : Int} {A A2 : Option Addr} {n cap k cp g : Nat} {w : World} (h : CBox q A n cap A2 k cp w g) : w.cell? ⟨g, 0, none⟩ = some (.int .i64 q) ∧ w.cell? ⟨g, 1, none⟩ = some (.slice A n cap) ∧ w.cell? ⟨g, 2, none⟩ = some (.slice A2 k cp) := by
  unfold CBox at h; exact ⟨by simp [World.cell?, h], by simp [World.cell?, h], by simp [World.cell?, h]⟩
theorem CBox.lt {q : Int} {A A2 : Option Addr} {n cap k cp g : Nat} {w : World} (h : CBox q A n cap A2 k cp w g) : g < w.heap.size := (Array.getElem?_eq_some_iff.1 h).1
theorem CBox.now {q : Int} {A A2 : Option Addr} {n cap k cp g : Nat} {w w' : World} (h : CBox q A n cap A2 k cp w g) (hb : Below w.heap.size w w') : CBox q A n cap A2 k cp w' g := (hb.block g h.lt).trans h
theorem CBox.new (q : Int) (A : Option Addr) (n cap : Nat) (A2 : Option Addr) (k cp : Nat) (w : World) : CBox q A n cap A2 k cp (w.alloc (.cells #[.int .i64 q, .slice A n cap, .slice A2 k cp] 77)) w.heap.size := heap_alloc_new w _

/-- What is known of a council: its outer committee, its inner ones. -/
structure Council (q : Int) (A : Option Addr) (n : Nat) (ws : List Int) (A2 : Option Addr) (C : List (Int × List Int)) (w : World) : Prop where
  outer : Known w A n ws
  inner : KCS w A2 n C
  good : Vo.Good q ws n
  each : ∀ i, i < n → Vo.Good (qAt C i) (wAt C i) (nAt C i)
  few : csum C n ≤ 9
theorem Council.now {q : Int} {A A2 : Option Addr} {n : Nat} {ws : List Int} {C : List (Int × List Int)} {w w' : World} (h : Council q A n ws A2 C w) (hb : Below w.heap.size w w') : Council q A n ws A2 C w' :=
  ⟨h.outer.now hb, h.inner.now hb, h.good, h.each, h.few⟩

set_option maxRecDepth 20000 in
set_option maxHeartbeats 4000000 in
theorem winsByParts_any (q : Int) (A : Option Addr) (n cap : Nat) (ws : List Int) (A2 : Option Addr) (cp : Nat) (C : List (Int × List Int)) (gp cpp : Nat) (P : Nat → Nat) (w : World) (hc : Council q A n ws A2 C w) (hP : ∀ i, i < n → P i < 512) (hp : Own w gp 106 n (fun i => .int .u64 (P i : Nat))) :
    Calls Try.prog 122 #[.agg #[.int .i64 q, .slice A n cap, .slice A2 n cp], .slice (some ⟨gp, 0, none⟩) n cpp] w fun e w' => e = .returned (.bool (winB q ws n (wonL C P n))) ∧ Below w.heap.size w w' := by
  have HC := Lib.hid hc
  have HP := Lib.hid hP
  have HOWN := Lib.hid hp
  have hn9 := hc.good.hi
  have hgl := hp.lt
  have hx := CBox.new q A n cap A2 n cp w
  have hb0 := below1 w (.cells #[.int .i64 q, .slice A n cap, .slice A2 n cp] 77)
  have HWL := Lib.hid (wonL_lt C P)
  obtain ⟨c0, c1, c2⟩ := hx.cells
  clear hc hP hp
  go_enter Try.func122, Try.ntmps122
  go_wp2_with fail
  go_loopw [5, 6, 7, 11] (fun u _ _ i wr => ∃ j : Nat, j ≤ n ∧ i = .int .i64 j ∧ u = .int .u64 (wonL C P j : Nat) ∧ Below (w.alloc (.cells #[.int .i64 q, .slice A n cap, .slice A2 n cp] 77)).heap.size (w.alloc (.cells #[.int .i64 q, .slice A n cap, .slice A2 n cp] 77)) wr) (fun _ _ _ i _ => n - (intOf i).toNat)
  case atStart => exact ⟨0, Nat.zero_le _, rfl, rfl, Below.refl _ _⟩
  case round =>
    obtain ⟨j, hj, rfl, rfl, hbr⟩ := hrel
    have hb := bfrom hb0 hbr
    have hwl := HWL.out j
    have hw512 : wonL C P j < 512 := by have := Nat.pow_le_pow_right (show 1 ≤ 2 by omega) (show j ≤ 9 by omega); omega
    by_cases hlt : j < n
    · obtain ⟨_, b, off, hA, hrow⟩ := (HC.out.inner.now hb)
      obtain ⟨rfl, hbl⟩ := hA (by omega)
      obtain ⟨A', cap', d0, d1, _, hkn⟩ := hrow j hlt
      have HWN := Lib.hid (fun W (hb' : Below wr.heap.size wr W) => wins_known (qAt C j) A' (nAt C j) cap' (wAt C j) (P j) W (HC.out.each j hlt) (HP.out j hlt) (hkn.now hb'))
      have HS := Lib.hid (wonL_succ C P j)
      have hpc := (HOWN.out.below hb hgl).cell hlt
      clear hA hrow hkn hwl
      generalize winB (qAt C j) (wAt C j) (nAt C j) (P j) = r at *
      generalize qAt C j = q1 at *
      generalize nAt C j = m1 at *
      generalize wonL C P j = t at *
      obtain ⟨pj, hpj⟩ : ∃ z, z = P j := ⟨_, rfl⟩
      rw [← hpj] at HWN hpc
      clear hpj
      have hy := Box.new wr (.int .i64 q1) (.slice A' m1 cap')
      have b0 := below1 wr (.cells #[.int .i64 q1, .slice A' m1 cap'] 43)
      have hglr : gp < wr.heap.size := Nat.lt_of_lt_of_le hgl hb.size
      have K := Lib.hid (show ∀ W, Below (wr.alloc (.cells #[.int .i64 q1, .slice A' m1 cap'] 43)).heap.size (wr.alloc (.cells #[.int .i64 q1, .slice A' m1 cap'] 43)) W → W.cell? ⟨wr.heap.size, 0, none⟩ = some (.int .i64 q1) ∧ W.cell? ⟨wr.heap.size, 1, none⟩ = some (.slice A' m1 cap') ∧ W.cell? ⟨gp, j, none⟩ = some (.int .u64 (pj : Nat)) ∧ Below wr.heap.size wr W from fun W h => ⟨(hy.now h).cells.1, (hy.now h).cells.2, ((bfrom b0 h).cell (p := ⟨gp, j, none⟩) hglr).trans hpc, bfrom b0 h⟩)
      obtain ⟨e0, e1, e2, _⟩ := K.out _ (Below.refl _ _)
      have hjn : (j : Int) < (n : Int) := by omega
      clear hy
      cases r
      all_goals
        simp only [Bool.false_eq_true, if_false, if_true] at HS
        go_wp2_with fail
        go_region_held3 (fun w' => w'.cell? ⟨wr.heap.size, 0, none⟩ = some (.int .i64 q1) ∧ w'.cell? ⟨wr.heap.size, 1, none⟩ = some (.slice A' m1 cap') ∧ w'.cell? ⟨gp, j, none⟩ = some (.int .u64 (pj : Nat)))
          (first | exact ⟨e0, e1, e2⟩ | exact ⟨f0, f1, f2⟩ | go_keep)
          (first
            | (go_at_call 85; refine (HWN.out _ (K.out _ (Below.refl _ _).drew).2.2.2).mono ?_; rintro e w2 ⟨rfl, hb2⟩; obtain ⟨f0, f1, f2, b2⟩ := K.out _ (bfrom (Below.refl _ _).drew hb2))
            | fail)
        all_goals
          go_wp2_with (first | (go_at_call 110; refine (with_any t j _ (by omega) hw512).mono ?_; rintro e w3 ⟨rfl, rfl⟩) | fail)
          go_roundw
          case rel => exact ⟨j + 1, by omega, by go_num, by first | (rw [HS.out]; done) | (rw [HS.out]; rfl) | (rw [HS.out]; simp), bfrom hbr b2⟩
          case measure => simp [intOf]; omega
    · obtain rfl : j = n := by omega
      obtain ⟨d0, d1, d2⟩ := (hx.now hbr).cells
      have HW := Lib.hid (wins_known q A j cap ws (wonL C P j) wr HC.out.good hw512 (HC.out.outer.now hb))
      go_wp2_with (first | (go_at_call 85; refine HW.out.mono ?_; rintro e w2 ⟨rfl, hb2⟩) | fail)
      go_ret
      exact ⟨rfl, bfrom hb hb2⟩

/-- The parts of a set that the first j inner committees have. -/
def partsL (C : List (Int × List Int)) (s j : Nat) : List Nat := (List.range j).map (partK C s)
theorem partsL_len (C : List (Int × List Int)) (s j : Nat) : (partsL C s j).length = j := by simp [partsL]
theorem partsL_succ (C : List (Int × List Int)) (s j : Nat) : partsL C s (j+1) = partsL C s j ++ [partK C s j] := by simp [partsL, List.range_succ]
theorem partsL_get (C : List (Int × List Int)) (s j i : Nat) (h : i < j) : (setsV (partsL C s j))[i]? = some (.int .u64 (partK C s i : Nat)) := by simp [setsV, partsL, h]
end Go.Proofs.Ytkckefjpkhjeaab
