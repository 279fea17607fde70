/- The table of worth: the program's worthTable, pair, isComplete, against; IsComplete, UnderMembers. -/
import Derived.Test.YtgilbenbaefgfaaGreatDa
import Derived.Test.YtgilbenbaefgfaaGreatK1
import Derived.Deep.RegionHeld3
import Derived.Outline
namespace Go.Proofs.YtgilbenbaefgfaaGreat
open Go.RowKit Vo

/-- The members of a kind among the first ones, as a set. -/
def selK (f : Nat → Bool) : Nat → Nat
  | 0 => 0
  | k+1 => if f k then selK f k ||| 2^k else selK f k
theorem selK_lt (f : Nat → Bool) : ∀ k, selK f k < 2^k
  | 0 => by simp [selK]
  | k+1 => by
    have := selK_lt f k
    simp only [selK]
    split
    · exact Nat.or_lt_two_pow (by rw [Nat.pow_succ]; omega) (Nat.pow_lt_pow_right (by omega) (by omega))
    · rw [Nat.pow_succ]; omega
theorem selK_bit (f : Nat → Bool) (k j : Nat) : (selK f k).testBit j = (decide (j < k) && f j) := by
  induction k with
  | zero => simp [selK]
  | succ k ih =>
    simp only [selK]
    by_cases e : j = k
    · subst e
      have h0 : (selK f j).testBit j = false := Nat.testBit_lt_two_pow (selK_lt f j)
      cases hf : f j
      · simp [h0]
      · simp [Nat.testBit_or, h0]
    · cases hf : f k
      · simp only [Bool.false_eq_true, if_false]
        rw [ih]
        by_cases h : j < k
        · simp [h, show j < k + 1 from by omega]
        · simp [h, show ¬ j < k + 1 from by omega]
      · simp only [if_true]
        rw [Nat.testBit_or, ih, Nat.testBit_two_pow, decide_eq_false (show ¬ k = j from fun h => e h.symm), Bool.or_false]
        by_cases h : j < k
        · simp [h, show j < k + 1 from by omega]
        · simp [h, show ¬ j < k + 1 from by omega]
theorem selK_512 (f : Nat → Bool) {k : Nat} (h : k ≤ 9) : selK f k < 512 := by
  have h1 := selK_lt f k
  have h2 := pow_lt h
  omega
/-- The table, with i rows done and j places of the next. -/
def tabV (f : Nat → Nat → Bool) (n i j t : Nat) : Nat := if t < i then selK (f t) n else if t = i then selK (f i) j else 0
theorem tabV_zero (f n t) : tabV f n 0 0 t = 0 := by unfold tabV; simp [selK]
theorem tabV_next (f n i t) : tabV f n i n t = tabV f n (i+1) 0 t := by
  unfold tabV
  by_cases h : t < i
  · simp [h, show t < i + 1 from by omega]
  · by_cases e : t = i
    · subst e; simp
    · have : ¬ t < i + 1 := by omega
      simp [h, e, this, selK]
theorem tabV_at (f n i j) : tabV f n i j i = selK (f i) j := by unfold tabV; simp
theorem tabV_set (f n i j t) : tabV f n i (j+1) t = if t = i then selK (f i) (j+1) else tabV f n i j t := by
  unfold tabV
  by_cases e : t = i
  · subst e; simp
  · simp [e]
theorem tabV_all (f n t) (h : t < n) : tabV f n n 0 t = selK (f t) n := by unfold tabV; simp [h]

set_option maxRecDepth 20000 in
set_option maxHeartbeats 8000000 in
theorem worthTable_any (S : List Nat) (n base k cap : Nat) (A : Option Addr) (w : World) (hn : n ≤ 9) (hk : k = S.length) (hkm : k ≤ 1048576) (hS : ∀ t ∈ S, t < 512) (h1 : w.ownsRow base 68 1 (.slice A k cap) k (setsV S)) :
    Calls Tryz.prog 39 #[.agg #[.int .i64 n, .slice A k cap]] w fun e w' => e = .returned (.slice (some ⟨w.heap.size + 1, 0, none⟩) n n) ∧ Own w' (w.heap.size + 1) 68 n (fun i => .int .u64 (selK (worthP (winS S) n i) n : Nat)) ∧ Below w.heap.size w w' := by
  have hb0 := below1 w (.cells #[.int .i64 n, .slice A k cap] 55)
  have hx := BoxT.new 55 w (.int .i64 n) (.slice A k cap)
  have hmk := run_make_row' (P := Tryz.prog) 45 68 (.int .u64 0) 8 Tryz.underlying45 infoSet rfl .i64 .i64 n (by omega) (by omega)
  have HW := Lib.hid (fun i j W (hi : i < n) (hj : j < n) hb => gIsWorth_any S n i j base k cap A W hn hi hj hk hkm hS (owns_now h1 hb))
  obtain ⟨c0, c1⟩ := hx.cells
  obtain ⟨f, hf⟩ : ∃ f, f = worthP (winS S) n := ⟨_, rfl⟩
  simp only [← hf] at HW
  rw [← hf]
  clear h1 hk hS hf
  go_enter Tryz.func39, Tryz.ntmps39
  go_wp2
  go_loopw [4, 11] (fun _ x wr => ∃ i : Nat, i ≤ n ∧ x = .int .i64 i ∧ Own wr (w.heap.size + 1) 68 n (fun t => .int .u64 (tabV f n i 0 t : Nat)) ∧ BoxT 55 wr w.heap.size (.int .i64 n) (.slice A k cap) ∧ Below w.heap.size w wr) (fun _ x _ => n - (intOf x).toNat)
  case atStart =>
    refine ⟨0, Nat.zero_le _, rfl, ?_, hx.now (below1 _ _), bfrom hb0 (below1 _ _)⟩
    have hrow := Own.of_row (World.rowIs_made (w.alloc (.cells #[.int .i64 n, .slice A k cap] 55)) (.int .u64 0) n 68)
    simp only [World.size_alloc] at hrow
    exact hrow.congr fun t _ => by rw [tabV_zero]; rfl
  case round =>
    obtain ⟨i, hi, rfl, hown, hxr, hb⟩ := hrel
    have HO := Lib.hid hown
    have HX := Lib.hid hxr
    clear hown hxr
    by_cases hlt : i < n
    · have HWI := Lib.hid (fun j W (hj : j < n) hb => HW.out i j W hlt hj hb)
      go_wp2
      go_loopw [5, 16] (fun _ x wi => ∃ j : Nat, j ≤ n ∧ x = .int .i64 j ∧ Own wi (w.heap.size + 1) 68 n (fun t => .int .u64 (tabV f n i j t : Nat)) ∧ BoxT 55 wi w.heap.size (.int .i64 n) (.slice A k cap) ∧ Below w.heap.size w wi) (fun _ x _ => n - (intOf x).toNat)
      case atStart => exact ⟨0, Nat.zero_le _, rfl, HO.out, HX.out, hb⟩
      case round =>
        obtain ⟨j, hj, rfl, hown2, hxr2, hb2⟩ := hrel
        have HO2 := Lib.hid hown2
        have HX2 := Lib.hid hxr2
        have hol := hown2.lt
        clear hown2 hxr2
        by_cases hlt2 : j < n
        · obtain ⟨d0, d1⟩ := HX2.out.cells
          have HWJ := Lib.hid (HWI.out j _ hlt2 hb2)
          have HT1 := Lib.hid (tabV_at f n i j)
          have HT2 := Lib.hid (tabV_set f n i j)
          have h5 := selK_512 (f i) (show j ≤ 9 by omega)
          have hS1 : selK (f i) (j+1) = if f i j then selK (f i) j ||| 2^j else selK (f i) j := rfl
          cases hfij : f i j
          · rw [hfij] at HWJ
            have HE := Lib.hid (show ∀ t, tabV f n i (j+1) t = tabV f n i j t from fun t => by
              rw [HT2.out t]
              by_cases e : t = i
              · subst e; rw [if_pos rfl, hS1, hfij, HT1.out]; rfl
              · rw [if_neg e])
            clear hfij hS1
            go_wp2_with fail
            refine HWJ.out.mono ?_
            rintro e w3 ⟨rfl, hb3⟩
            go_wp2
            go_roundw
            case rel => exact ⟨j + 1, by omega, by go_num, (HO2.out.below hb3 hol).congr fun t _ => by rw [HE.out t], HX2.out.now hb3, bfrom hb2 hb3⟩
            case measure => simp [intOf]; omega
          · rw [hfij] at HWJ
            have HS1 := Lib.hid (show selK (f i) (j+1) = selK (f i) j ||| 2^j from by rw [hS1, hfij]; rfl)
            have HWT := Lib.hid (fun W => with_any (selK (f i) j) j W (by omega) h5)
            rw [← HS1.out] at HWT
            clear hfij hS1
            go_wp2_with fail
            refine HWJ.out.mono ?_
            rintro e w3 ⟨rfl, hb3⟩
            have HO3 := Lib.hid (HO2.out.below hb3 hol)
            have hcell := HO3.out.cell hlt
            rw [HT1.out] at hcell
            have hfr := HO3.out.frozen i
            have HSET := Lib.hid (HO3.out.set i (.int .u64 (selK (f i) (j+1) : Nat)))
            have HX3 := Lib.hid (HX2.out.now hb3)
            have HB3 := Lib.hid (bfrom hb2 hb3)
            generalize selK (f i) j = s at *
            go_wp2_with (first
              | (go_at_call 68; refine (HWT.out _).mono ?_; rintro e w4 ⟨rfl, rfl⟩)
              | fail)
            go_roundw
            case rel =>
              exact ⟨j + 1, by omega, by go_num, HSET.out.congr fun t _ => by rw [HT2.out t]; by_cases e : t = i <;> simp [e], HX3.out.far (by simp) _, HB3.out.setCell (by simp) _⟩
            case measure => simp [intOf]; omega
        · obtain rfl : j = n := by omega
          go_wp2
          go_roundw
          case rel => exact ⟨i + 1, by omega, by go_num, HO2.out.congr fun t _ => by rw [tabV_next], HX2.out, hb2⟩
          case measure => simp [intOf]; omega
    · obtain rfl : i = n := by omega
      go_wp2
      go_ret
      exact ⟨rfl, HO.out.congr fun t ht => by rw [tabV_all _ _ _ ht], hb⟩

set_option maxRecDepth 20000 in
set_option maxHeartbeats 4000000 in
theorem pair_any (T : Nat → Nat) (n i j g cap : Nat) (w : World) (hn : n ≤ 9) (hi : i < n) (hj : j < n) (hT : ∀ t, t < n → T t < 512) (ho : Own w g 68 n (fun t => .int .u64 (T t : Nat))) :
    Calls Tryz.prog 75 #[.slice (some ⟨g, 0, none⟩) n cap, .int .i64 i, .int .i64 j] w fun e w' => e = .returned (.agg #[.bool ((T i).testBit j), .bool ((T j).testBit i)]) ∧ Below w.heap.size w w' := by
  have hci := ho.cell hi
  have hcj := ho.cell hj
  have HI := Lib.hid (fun W => has_any (T i) j W (by omega) (hT i hi))
  have HJ := Lib.hid (fun W => has_any (T j) i W (by omega) (hT j hj))
  have hgl := ho.lt
  have hiz : (i : Int) < n := by omega
  have hjz : (j : Int) < n := by omega
  have hb0 := below1 w (.cells #[.bool false, .bool false] 88)
  have hx := BoxT.new 88 w (.bool false) (.bool false)
  obtain ⟨c0, c1⟩ := hx.cells
  have KS := Lib.hid (show ∀ a' b' : Bool, (w.alloc (.cells #[.bool a', .bool b'] 88)).cell? ⟨g, i, none⟩ = some (.int .u64 (T i : Nat)) ∧ (w.alloc (.cells #[.bool a', .bool b'] 88)).cell? ⟨g, j, none⟩ = some (.int .u64 (T j : Nat)) ∧ ((w.alloc (.cells #[.bool a', .bool b'] 88)).cell? ⟨w.heap.size, 0, none⟩).isSome = true ∧ ((w.alloc (.cells #[.bool a', .bool b'] 88)).cell? ⟨w.heap.size, 1, none⟩).isSome = true ∧ (w.alloc (.cells #[.bool a', .bool b'] 88)).frozen? ⟨w.heap.size, 0, none⟩ = false ∧ (w.alloc (.cells #[.bool a', .bool b'] 88)).frozen? ⟨w.heap.size, 1, none⟩ = false from fun a' b' => by
    have h := BoxT.new 88 w (.bool a') (.bool b')
    obtain ⟨h0, h1⟩ := h.cells
    obtain ⟨h2, h3⟩ := frozen_boxT h
    exact ⟨((below1 w _).cell (p := ⟨g, i, none⟩) hgl).trans hci, ((below1 w _).cell (p := ⟨g, j, none⟩) hgl).trans hcj, by rw [h0]; rfl, by rw [h1]; rfl, h2, h3⟩)
  obtain ⟨f0, f1⟩ := frozen_boxT hx
  clear ho hT hx hci hcj
  generalize T i = a at *
  generalize T j = b at *
  go_enter Tryz.func75, Tryz.ntmps75
  go_wp2_with fail
  go_region_held3 (fun w' => w'.cell? ⟨g, i, none⟩ = some (.int .u64 (a : Nat)) ∧ w'.cell? ⟨g, j, none⟩ = some (.int .u64 (b : Nat)) ∧ (w'.cell? ⟨w.heap.size, 0, none⟩).isSome = true ∧ (w'.cell? ⟨w.heap.size, 1, none⟩).isSome = true ∧ w'.frozen? ⟨w.heap.size, 0, none⟩ = false ∧ w'.frozen? ⟨w.heap.size, 1, none⟩ = false)
    (first | exact KS.out _ _ | go_keep)
    (first
      | (go_at_call 79; refine (HI.out _).mono ?_; rintro e w1 ⟨rfl, rfl⟩)
      | (go_at_call 79; refine (HJ.out _).mono ?_; rintro e w1 ⟨rfl, rfl⟩))
  all_goals
    obtain ⟨e0, e1⟩ := (BoxT.new 88 w (.bool (a.testBit j)) (.bool (b.testBit i))).cells
    go_wp2
    refine bodyPost_ret (v := .agg #[.bool (a.testBit j), .bool (b.testBit i)]) (by simp [results, Tryz.results75, go_sem, e0, e1]) rfl ⟨rfl, ?_⟩
    exact (below1 w (.cells #[.bool (a.testBit j), .bool (b.testBit i)] 88)).drew

/-- Is no one of these pairs unlike? -/
def compB (f : Nat → Nat → Bool) (n : Nat) : Bool := allK (fun i => allK (fun j => f i j || f j i) i) n

set_option maxRecDepth 20000 in
set_option maxHeartbeats 4000000 in
theorem tIsComplete_any (f : Nat → Nat → Bool) (n g cap : Nat) (w : World) (hn : n ≤ 9) (ho : Own w g 68 n (fun t => .int .u64 (selK (f t) n : Nat))) :
    Calls Tryz.prog 49 #[.slice (some ⟨g, 0, none⟩) n cap] w fun e w' => e = .returned (.bool (compB f n)) ∧ Below w.heap.size w w' := by
  have HP := Lib.hid (fun i j W (hi : i < n) (hj : j < n) (hb : Below w.heap.size w W) => pair_any (fun t => selK (f t) n) n i j g cap W hn hi hj (fun t _ => selK_512 _ hn) (ho.below hb ho.lt))
  have HB := Lib.hid (show ∀ i j, i < n → j < n → (selK (f i) n).testBit j = f i j from fun i j hi hj => by rw [selK_bit, decide_eq_true hj]; rfl)
  have HF := Lib.hid (fun i (hi : i < n) (h : allK (fun j => f i j || f j i) i = false) => show compB f n = false from allK_false i hi h)
  have HT := Lib.hid (show (∀ i, i < n → allK (fun j => f i j || f j i) i = true) → compB f n = true from fun h => allK_iff.2 h)
  clear ho
  obtain ⟨r, hr⟩ : ∃ r, r = compB f n := ⟨_, rfl⟩
  rw [← hr] at HF HT ⊢
  clear hr
  go_enter Tryz.func49, Tryz.ntmps49
  go_wp2
  go_loopw [3, 7] (fun _ x wr => ∃ i : Nat, i ≤ n ∧ x = .int .i64 i ∧ (∀ t, t < i → allK (fun j => f t j || f j t) t = true) ∧ Below w.heap.size w wr) (fun _ x _ => n - (intOf x).toNat)
  case atStart => exact ⟨0, Nat.zero_le _, rfl, fun _ h => by omega, Below.refl _ _⟩
  case round =>
    obtain ⟨i, hi, rfl, hall, hb⟩ := hrel
    have HA := Lib.hid hall
    clear hall
    by_cases hlt : i < n
    · have HSTEP := Lib.hid (show allK (fun j => f i j || f j i) i = true → ∀ t, t < i + 1 → allK (fun j => f t j || f j t) t = true from fun h t ht => by
        by_cases e : t = i
        · subst e; exact h
        · exact HA.out t (by omega))
      go_wp2
      go_loopw [4, 11] (fun _ x wi => ∃ j : Nat, j ≤ i ∧ x = .int .i64 j ∧ allK (fun j => f i j || f j i) j = true ∧ Below w.heap.size w wi) (fun _ x _ => i - (intOf x).toNat)
      case atStart => exact ⟨0, Nat.zero_le _, rfl, rfl, hb⟩
      case round =>
        obtain ⟨j, hj, rfl, hall2, hb2⟩ := hrel
        have HA2 := Lib.hid hall2
        clear hall2
        by_cases hlt2 : j < i
        · have HPJ := Lib.hid (HP.out i j _ hlt (by omega) hb2)
          simp only [HB.out i j hlt (by omega), HB.out j i (by omega) hlt] at HPJ
          have HAF := Lib.hid (fun (h : (f i j || f j i) = false) => HF.out i hlt (allK_false j hlt2 h))
          have HAS := Lib.hid (show (f i j || f j i) = true → allK (fun j => f i j || f j i) (j+1) = true from fun h => by simp only [allK]; rw [HA2.out, h]; rfl)
          generalize f i j = a at *
          generalize f j i = b at *
          cases hab : (a || b)
          · have HU := Lib.hid (fun W => isUnlike_any a b W)
            have HR := Lib.hid (HAF.out hab)
            have hu : (!a && !b) = true := by revert hab; cases a <;> cases b <;> simp
            rw [hu] at HU
            clear hab hu
            go_wp2_with fail
            refine HPJ.out.mono ?_
            rintro e w3 ⟨rfl, hb3⟩
            go_wp2_with fail
            refine (HU.out _).mono ?_
            rintro e w4 ⟨rfl, hb4⟩
            go_wp2
            go_ret
            exact ⟨by rw [HR.out]; rfl, bfrom (bfrom hb2 hb3) hb4⟩
          · have HU := Lib.hid (fun W => isUnlike_any a b W)
            have HS := Lib.hid (HAS.out hab)
            have hu : (!a && !b) = false := by revert hab; cases a <;> cases b <;> simp
            rw [hu] at HU
            clear hab hu
            go_wp2_with fail
            refine HPJ.out.mono ?_
            rintro e w3 ⟨rfl, hb3⟩
            go_wp2_with fail
            refine (HU.out _).mono ?_
            rintro e w4 ⟨rfl, hb4⟩
            go_wp2
            go_roundw
            case rel => exact ⟨j + 1, by omega, by go_num, HS.out, bfrom (bfrom hb2 hb3) hb4⟩
            case measure => simp [intOf]; omega
        · obtain rfl : j = i := by omega
          have HS := Lib.hid (HSTEP.out HA2.out)
          go_wp2
          go_roundw
          case rel => exact ⟨j + 1, by omega, by go_num, HS.out, hb2⟩
          case measure => simp [intOf]; omega
    · obtain rfl : i = n := by omega
      have HR := Lib.hid (HT.out HA.out)
      go_wp2
      go_ret
      exact ⟨by rw [HR.out]; rfl, hb⟩

def compG (m : Int) (L : List (List Int)) : Bool := goodG m L && compB (worthP (winS (setsN L)) m.toNat) m.toNat
theorem compG_yes {q : Nat} {L : List (List Int)} (h : goodG (q : Int) L = true) : compG (q : Int) L = compB (worthP (winS (setsN L)) q) q := by unfold compG; rw [h, Int.toNat_natCast]; rfl
theorem compG_no {m : Int} {L : List (List Int)} (h : goodG m L = false) : compG m L = false := by unfold compG; rw [h]; rfl

/-- How two compare: 1, 0 or -1. -/
def cmpK (a b : Bool) : Int := if a then (if b then 0 else 1) else if b then -1 else 0
def agK (f : Nat → Nat → Bool) (k : Nat) (way : Int) (j : Nat) : Bool := cmpK (f k j) (f j k) == way

set_option maxRecDepth 20000 in
set_option maxHeartbeats 4000000 in
theorem against_any (f : Nat → Nat → Bool) (n k g cap : Nat) (way : Int) (w : World) (hn : n ≤ 9) (hk : k < n) (ho : Own w g 68 n (fun t => .int .u64 (selK (f t) n : Nat))) :
    Calls Tryz.prog 69 #[.slice (some ⟨g, 0, none⟩) n cap, .int .i64 k, .int .i64 way] w fun e w' => e = .returned (.int .u64 (selK (agK f k way) n : Nat)) ∧ Below w.heap.size w w' := by
  have HP := Lib.hid (fun j W (hj : j < n) (hb : Below w.heap.size w W) => pair_any (fun t => selK (f t) n) n k j g cap W hn hk hj (fun t _ => selK_512 _ hn) (ho.below hb ho.lt))
  have HB := Lib.hid (show ∀ i j, i < n → j < n → (selK (f i) n).testBit j = f i j from fun i j hi hj => by rw [selK_bit, decide_eq_true hj]; rfl)
  have HA := Lib.hid (show ∀ j, agK f k way j = (cmpK (f k j) (f j k) == way) from fun _ => rfl)
  clear ho
  go_enter Tryz.func69, Tryz.ntmps69
  go_wp2
  go_loopw [7, 8, 9, 10, 13] (fun v _ _ _ x wr => ∃ j : Nat, j ≤ n ∧ x = .int .i64 j ∧ v = .int .u64 (selK (agK f k way) j : Nat) ∧ Below w.heap.size w wr) (fun _ _ _ _ x _ => n - (intOf x).toNat)
  case atStart => exact ⟨0, Nat.zero_le _, rfl, rfl, Below.refl _ _⟩
  case round =>
    obtain ⟨j, hj, rfl, rfl, hb⟩ := hrel
    by_cases hlt : j < n
    · have HPJ := Lib.hid (HP.out j _ hlt hb)
      simp only [HB.out k j hk hlt, HB.out j k hlt hk] at HPJ
      have h5 := selK_512 (agK f k way) (show j ≤ 9 by omega)
      have hS1 : selK (agK f k way) (j+1) = if agK f k way j then selK (agK f k way) j ||| 2^j else selK (agK f k way) j := rfl
      have HC := Lib.hid (fun W => compare_any (f k j) (f j k) W)
      have hcv : (cmpK (f k j) (f j k) == way) = agK f k way j := (HA.out j).symm
      have HCV := Lib.hid (show (if f k j then (if f j k then 0 else 1) else if f j k then -1 else 0 : Int) = cmpK (f k j) (f j k) from rfl)
      rw [HCV.out] at HC
      generalize cmpK (f k j) (f j k) = c at *
      generalize f k j = a at *
      generalize f j k = b at *
      cases hag : agK f k way j
      · rw [hag] at hcv
        have HS := Lib.hid (show selK (agK f k way) (j+1) = selK (agK f k way) j from by rw [hS1, hag]; rfl)
        clear hag hS1
        go_wp2_with fail
        refine HPJ.out.mono ?_
        rintro e w3 ⟨rfl, hb3⟩
        go_wp2_with fail
        refine (HC.out _).mono ?_
        rintro e w4 ⟨rfl, hb4⟩
        go_wp2
        go_roundw
        case rel => exact ⟨j + 1, by omega, by go_num, by rw [HS.out], bfrom (bfrom hb hb3) hb4⟩
        case measure => simp [intOf]; omega
      · rw [hag] at hcv
        have HS := Lib.hid (show selK (agK f k way) (j+1) = selK (agK f k way) j ||| 2^j from by rw [hS1, hag]; rfl)
        have HWT := Lib.hid (fun W => with_any (selK (agK f k way) j) j W (by omega) h5)
        rw [← HS.out] at HWT
        clear hag hS1
        go_wp2_with fail
        refine HPJ.out.mono ?_
        rintro e w3 ⟨rfl, hb3⟩
        go_wp2_with fail
        refine (HC.out _).mono ?_
        rintro e w4 ⟨rfl, hb4⟩
        go_wp2_with (go_at_call 68; refine (HWT.out _).mono ?_; rintro e w5 ⟨rfl, rfl⟩)
        go_roundw
        case rel => exact ⟨j + 1, by omega, by go_num, rfl, bfrom (bfrom hb hb3) hb4⟩
        case measure => simp [intOf]; omega
    · obtain rfl : j = n := by omega
      go_wp2
      go_ret
      exact ⟨rfl, hb⟩

set_option maxHeartbeats 1000000 in
theorem lessThan_any (f : Nat → Nat → Bool) (n k g cap : Nat) (w : World) (hn : n ≤ 9) (hk : k < n) (ho : Own w g 68 n (fun t => .int .u64 (selK (f t) n : Nat))) :
    Calls Tryz.prog 40 #[.slice (some ⟨g, 0, none⟩) n cap, .int .i64 k] w fun e w' => e = .returned (.int .u64 (selK (agK f k 1) n : Nat)) ∧ Below w.heap.size w w' := by
  have HA := Lib.hid (against_any f n k g cap 1 w hn hk ho)
  clear ho
  generalize selK (agK f k 1) n = s at *
  go_enter Tryz.func40, Tryz.ntmps40
  go_wp2_with fail
  refine HA.out.mono ?_
  rintro e w1 ⟨rfl, hb⟩
  go_wp2
  go_ret
  exact ⟨rfl, hb⟩

def underL (m : Int) (L : List (List Int)) (x : Int) : List Int := if memG m L x then mem (selK (agK (worthP (winS (setsN L)) m.toNat) x.toNat 1) m.toNat) 9 else []
theorem underL_yes {q k : Nat} {L : List (List Int)} (h : memG (q : Int) L (k : Int) = true) : underL (q : Int) L (k : Int) = mem (selK (agK (worthP (winS (setsN L)) q) k 1) q) 9 := by unfold underL; rw [if_pos h]; simp
theorem underL_no {m : Int} {L : List (List Int)} {x : Int} (h : memG m L x = false) : underL m L x = [] := if_neg (by rw [h]; simp)
theorem underL_len (m : Int) (L : List (List Int)) (x : Int) : (underL m L x).length ≤ 1048576 := by
  unfold underL; split
  · have := mem_len (selK (agK (worthP (winS (setsN L)) m.toNat) x.toNat 1) m.toNat) 9; omega
  · simp
theorem noInts {w w' : World} (hb : Below w.heap.size w w') : Ans (RS []) false w w' (.returned (.tuple #[.slice none 0 0, .bool false])) :=
  ⟨_, rfl, RS.lies ⟨none, 0, rfl, Or.inl rfl⟩ (Nat.le_refl _), hb⟩

end Go.Proofs.YtgilbenbaefgfaaGreat
