/- Texts of Gh, Gp. -/
import Derived.Test.YtnldodnpakpeeaaPkQ30
import Derived.Outline
import Derived.Test.YtnldodnpakpeeaaPkQ26
import Derived.Test.YtnldodnpakpeeaaPkQ10
namespace Go.Proofs.Ytnldodnpakpeeaa
open Go.RowKit Vo

theorem andK_bit (d : Nat) (S : List Nat) (x : Nat) : ∀ k, (andK d S k).testBit x = (d.testBit x && allK (fun i => (S.getD i 0).testBit x) k)
  | 0 => by simp [andK, allK]
  | k+1 => by simp only [andK, allK, Nat.testBit_and, andK_bit d S x k, Bool.and_assoc]
theorem partB_co {n x t : Nat} (hx : x < n) (ht : t < 2^n) : partB (2^n - 1 - 2^x) t = !t.testBit x := by
  have hp : 2^x < 2^n := Nat.pow_lt_pow_right (by omega) hx
  have hco : ∀ j, (2^n - 1 - 2^x).testBit j = (decide (j < n) && !(2^x).testBit j) := fun j => testBit_co hp
  cases hb : t.testBit x with
  | true =>
    refine decide_eq_false fun e => ?_
    have h := congrArg (fun z => z.testBit x) e
    simp only [Nat.testBit_and, hco, hb, Nat.testBit_two_pow_self] at h
    simp at h
  | false =>
    refine decide_eq_true ?_
    apply Nat.eq_of_testBit_eq
    intro j
    rw [Nat.testBit_and, hco]
    cases hj : t.testBit j with
    | false => simp
    | true =>
      have hjn : j < n := by
        rcases Nat.lt_or_ge j n with h | h
        · exact h
        · have : t < 2^j := Nat.lt_of_lt_of_le ht (Nat.pow_le_pow_right (by omega) h)
          rw [Nat.testBit_lt_two_pow this] at hj; cases hj
      have hne : x ≠ j := fun e => by rw [e, hj] at hb; cases hb
      rw [Nat.testBit_two_pow_of_ne hne]
      simp [hjn]
theorem any_not_all (S : List Nat) (x : Nat) : S.any (fun t => !t.testBit x) = !allK (fun i => (S.getD i 0).testBit x) S.length := by
  cases h : S.any (fun t => !t.testBit x) with
  | true =>
    obtain ⟨t, ht, hb⟩ := List.any_eq_true.1 h
    obtain ⟨i, hi, rfl⟩ := List.getElem_of_mem ht
    have : allK (fun i => (S.getD i 0).testBit x) S.length = false := allK_false i hi (by
      rw [List.getD_eq_getElem?_getD, List.getElem?_eq_getElem hi]
      simpa using hb)
    rw [this]; rfl
  | false =>
    have : allK (fun i => (S.getD i 0).testBit x) S.length = true := allK_iff.2 fun i hi => by
      have := List.any_eq_false.1 h _ (List.getElem_mem hi)
      rw [List.getD_eq_getElem?_getD, List.getElem?_eq_getElem hi]
      simpa using this
    rw [this]; rfl
theorem veto_eq {S : List Nat} {n x : Nat} (hx : x < n) (hS : ∀ t ∈ S, t < 2^n) : vetoB S n x = !winS S (2^n - 1 - 2^x) := by
  have h1 : winS S (2^n - 1 - 2^x) = S.any (fun t => !t.testBit x) := by
    unfold winS
    apply Bool.eq_iff_iff.2
    simp only [List.any_eq_true]
    constructor
    · rintro ⟨t, ht, h⟩; exact ⟨t, ht, by rw [← partB_co hx (hS t ht)]; exact h⟩
    · rintro ⟨t, ht, h⟩; exact ⟨t, ht, by rw [partB_co hx (hS t ht)]; exact h⟩
  have hp : (2^n - 1).testBit x = true := by rw [Nat.testBit_two_pow_sub_one]; simpa using hx
  unfold vetoB
  rw [andK_bit, hp, Bool.true_and, h1, any_not_all, Bool.not_not]

/-- What sets that win tell to a clue. -/
def valP (p : Nat → Bool) (n : Nat) (k a : Int) : Nat :=
  if k = 0 then asN (p a.toNat)
  else if k = 1 then cnt p (2^n)
  else if k = 2 then asN (!p (2^n - 1 - 2^a.toNat))
  else if k = 3 then cnt (swP p a.toNat) (2^n)
  else if k = 4 then asN (allK (properS p n) (2^n))
  else asN (allK (strongS p n) (2^n))
theorem valP_valK {S : List Nat} {n : Nat} {k a b : Int} (hS : ∀ t ∈ S, t < 2^n) (h : AskK n (k, a, b)) : valP (winS S) n k a = valK S n (k, a, b) := by
  unfold valP valK
  simp only
  by_cases h2 : k = 2
  · subst h2
    obtain ⟨h0, h1⟩ := h.2.2.2 (Or.inl rfl)
    simp only at h0 h1
    rw [veto_eq (by omega) hS]
  · rw [if_neg h2, if_neg h2]
theorem valP_flat {p : Nat → Bool} {n : Nat} {k a a' : Int} (h : k = 1 ∨ 3 < k) : valP p n k a = valP p n k a' := by
  unfold valP
  rcases h with h | h
  · subst h; rfl
  · have h0 : ¬ k = 0 := by omega
    have h1 : ¬ k = 1 := by omega
    have h2 : ¬ k = 2 := by omega
    have h3 : ¬ k = 3 := by omega
    simp only [if_neg h0, if_neg h1, if_neg h2, if_neg h3]

set_option maxHeartbeats 400000 in
theorem pzOne_any (b : Bool) (w : World) :
    Calls Try.prog 202 #[.bool b] w fun e w' => e = .returned (.int .i64 (asN b : Nat)) ∧ w = w' := by
  cases b
  all_goals
    go_enter Try.func202, Try.ntmps202
    go_wp2
    go_ret
    exact ⟨rfl, rfl⟩

set_option maxRecDepth 20000 in
set_option maxHeartbeats 4000000 in
theorem pzValue0_any (p : Nat → Bool) (n g cap : Nat) (x : Nat) (w : World) (hn : n ≤ 4) (hw : Own w g 4 (2^n) (fun j => .bool (p j))) (hx : x < 2^n) :
    Calls Try.prog 181 #[.int .i64 0, .int .i64 x, .slice (some ⟨g, 0, none⟩) (2^n : Nat) cap] w fun e w' => e = .returned (.int .i64 (asN (p x) : Nat)) ∧ Below w.heap.size w w' := by
  have HONE := Lib.hid (fun (b : Bool) W => pzOne_any b W)
  have hN16 : 2^n ≤ 16 := Nat.pow_le_pow_right (n := 2) (by omega) hn
  have hpos := Nat.two_pow_pos n
  have hcell := hw.cell hx
  generalize p x = r at *
  clear hw
  obtain ⟨N, hN⟩ : ∃ N, N = 2^n := ⟨_, rfl⟩
  rw [← hN] at hx hN16 hpos ⊢
  clear hN
  go_enter Try.func181, Try.ntmps181
  go_wp2_with fail
  refine (HONE.out r _).mono ?_
  rintro e w1 ⟨rfl, rfl⟩
  go_wp2
  go_ret
  exact ⟨rfl, Below.refl _ _⟩

set_option maxRecDepth 20000 in
set_option maxHeartbeats 4000000 in
theorem pzValue1_any (p : Nat → Bool) (n g cap : Nat) (a : Int) (w : World) (hn : n ≤ 4) (hw : Own w g 4 (2^n) (fun j => .bool (p j))) :
    Calls Try.prog 181 #[.int .i64 1, .int .i64 a, .slice (some ⟨g, 0, none⟩) (2^n : Nat) cap] w fun e w' => e = .returned (.int .i64 (cnt p (2^n) : Nat)) ∧ Below w.heap.size w w' := by
  have HONE := Lib.hid (fun (b : Bool) W => pzOne_any b W)
  have hN16 : 2^n ≤ 16 := Nat.pow_le_pow_right (n := 2) (by omega) hn
  have hpos := Nat.two_pow_pos n
  obtain ⟨N, hN⟩ : ∃ N, N = 2^n := ⟨_, rfl⟩
  rw [← hN] at hw hN16 hpos ⊢
  clear hN
  have HO := Lib.hid hw
  clear hw
  go_enter Try.func181, Try.ntmps181
  go_wp2
  go_loopw [8, 10, 27] (fun c _ i wr => ∃ j : Nat, j ≤ N ∧ i = .int .i64 j ∧ c = .int .i64 (cnt p j : Nat) ∧ wr = w) (fun _ _ i _ => N - (intOf i).toNat)
  case atStart => exact ⟨0, Nat.zero_le _, rfl, rfl, rfl⟩
  case round =>
    obtain ⟨j, hj, rfl, rfl, rfl⟩ := hrel
    have hcl := cnt_le p j
    by_cases hlt : j < N
    · have hcell := HO.out.cell hlt
      have HS := Lib.hid (show cnt p (j+1) = cnt p j + asN (p j) from rfl)
      have hal := asN_le (p j)
      have HON := Lib.hid (fun W => HONE.out (p j) W)
      generalize cnt p j = t at *
      generalize asN (p j) = q at *
      generalize p j = r at *
      go_wp2_with fail
      refine (HON.out _).mono ?_
      rintro e w1 ⟨rfl, rfl⟩
      go_wp2
      go_roundw
      case rel => exact ⟨j + 1, by omega, by go_num, by rw [HS.out]; first | rfl | simp, trivial⟩
      case measure => simp [intOf]; omega
    · obtain rfl : j = N := by omega
      go_wp2
      go_ret
      exact ⟨rfl, Below.refl _ _⟩

set_option maxRecDepth 20000 in
set_option maxHeartbeats 4000000 in
theorem pzValue2_any (p : Nat → Bool) (n g cap : Nat) (x : Nat) (w : World) (hn : n ≤ 4) (hw : Own w g 4 (2^n) (fun j => .bool (p j))) (hx : x < n) :
    Calls Try.prog 181 #[.int .i64 2, .int .i64 x, .slice (some ⟨g, 0, none⟩) (2^n : Nat) cap] w fun e w' => e = .returned (.int .i64 (asN (!p (2^n - 1 - 2^x)) : Nat)) ∧ Below w.heap.size w w' := by
  have HONE := Lib.hid (fun (b : Bool) W => pzOne_any b W)
  have hN16 : 2^n ≤ 16 := Nat.pow_le_pow_right (n := 2) (by omega) hn
  have hpos := Nat.two_pow_pos n
  have hxp : 2^x < 2^n := Nat.pow_lt_pow_right (by omega) hx
  have hcell := hw.cell (i := 2^n - 1 - 2^x) (Nat.lt_of_le_of_lt (Nat.sub_le _ _) (Nat.sub_lt hpos (Nat.one_pos)))
  have hpc : (2 : Int)^x = ((2^x : Nat) : Int) := by simp
  obtain ⟨X, hX⟩ : ∃ X, X = 2^x := ⟨_, rfl⟩
  rw [← hX] at hxp hcell hpc ⊢
  clear hX
  obtain ⟨N, hN⟩ : ∃ N, N = 2^n := ⟨_, rfl⟩
  rw [← hN] at hw hN16 hpos ⊢
  rw [← hN] at hxp hcell
  clear hN hw
  have hwr : IntKind.i64.wrap (X : Int) = (X : Int) := IntWalk.i64_in _ (by omega)
  have hcoi : ((N : Int) - 1 - X).toNat = N - 1 - X := by omega
  have h0 : (0 : Int) ≤ (N : Int) - 1 - X := by omega
  have h1 : (N : Int) - 1 - X < N := by omega
  have HON := Lib.hid (fun W => HONE.out (!p (N - 1 - X)) W)
  generalize p (N - 1 - X) = r at *
  go_enter Try.func181, Try.ntmps181
  go_wp2_with fail
  refine (HON.out _).mono ?_
  rintro e w1 ⟨rfl, rfl⟩
  go_wp2
  go_ret
  exact ⟨rfl, Below.refl _ _⟩

set_option maxRecDepth 20000 in
set_option maxHeartbeats 4000000 in
theorem pzValue3_any (p : Nat → Bool) (n g cap : Nat) (x : Nat) (w : World) (hn : n ≤ 4) (hw : Own w g 4 (2^n) (fun j => .bool (p j))) (hx : x < n) :
    Calls Try.prog 181 #[.int .i64 3, .int .i64 x, .slice (some ⟨g, 0, none⟩) (2^n : Nat) cap] w fun e w' => e = .returned (.int .i64 (cnt (swP p x) (2^n) : Nat)) ∧ Below w.heap.size w w' := by
  have HP := Lib.hid (pwSwings_any p n x g cap w (by omega) hx hw)
  have HL := Lib.hid (show (natsL (swL p x (2^n))).length = cnt (swP p x) (2^n) from by rw [natsL_len, swL_len])
  obtain ⟨N, hN⟩ : ∃ N, N = 2^n := ⟨_, rfl⟩
  rw [← hN] at HP HL ⊢
  clear hN hw
  generalize natsL (swL p x N) = L at *
  generalize cnt (swP p x) N = r at *
  go_enter Try.func181, Try.ntmps181
  go_wp2_with fail
  refine HP.out.mono ?_
  rintro e w1 ⟨A, cp, rfl, _, hb1⟩
  rw [HL.out]
  go_wp2
  go_ret
  exact ⟨rfl, hb1⟩

set_option maxRecDepth 20000 in
set_option maxHeartbeats 4000000 in
theorem pzValue4_any (p : Nat → Bool) (n g cap : Nat) (a : Int) (w : World) (hn : n ≤ 4) (hw : Own w g 4 (2^n) (fun j => .bool (p j))) :
    Calls Try.prog 181 #[.int .i64 4, .int .i64 a, .slice (some ⟨g, 0, none⟩) (2^n : Nat) cap] w fun e w' => e = .returned (.int .i64 (asN (allK (properS p n) (2^n)) : Nat)) ∧ Below w.heap.size w w' := by
  have HONE := Lib.hid (fun (b : Bool) W => pzOne_any b W)
  have hN16 : 2^n ≤ 16 := Nat.pow_le_pow_right (n := 2) (by omega) hn
  have hpos := Nat.two_pow_pos n
  rw [show allK (properS p n) (2^n) = allK (fun s => !p s || !p (2^n - 1 - s)) (2^n) from rfl]
  obtain ⟨N, hN⟩ : ∃ N, N = 2^n := ⟨_, rfl⟩
  rw [← hN] at hw hN16 hpos ⊢
  clear hN
  have HO := Lib.hid hw
  clear hw
  go_enter Try.func181, Try.ntmps181
  go_wp2
  go_loopw [11, 56] (fun _ i wr => ∃ j : Nat, j ≤ N ∧ i = .int .i64 j ∧ allK (fun s => !p s || !p (N - 1 - s)) j = true ∧ wr = w) (fun _ i _ => N - (intOf i).toNat)
  case atStart => exact ⟨0, Nat.zero_le _, rfl, rfl, rfl⟩
  case round =>
    obtain ⟨k, hk, rfl, hall, rfl⟩ := hrel
    have HL := Lib.hid hall
    clear hall
    by_cases hlt : k < N
    · have hcell := HO.out.cell hlt
      have hcell2 := HO.out.cell (show N - 1 - k < N by omega)
      have HPK := Lib.hid (show allK (fun s => !p s || !p (N - 1 - s)) (k+1) = (allK (fun s => !p s || !p (N - 1 - s)) k && (!p k || !p (N - 1 - k))) from rfl)
      have HF := Lib.hid (show (!p k || !p (N - 1 - k)) = false → allK (fun s => !p s || !p (N - 1 - s)) N = false from fun h => allK_false k hlt h)
      have hcoi : ((N : Int) - 1 - k).toNat = N - 1 - k := by omega
      cases hwin : p k <;> cases hwin2 : p (N - 1 - k)
      all_goals
        rw [hwin] at hcell HPK HF
        rw [hwin2] at hcell2 HPK HF
        clear hwin hwin2
        have h0 : (0 : Int) ≤ (N : Int) - 1 - k := by omega
        have h1 : (N : Int) - 1 - k < N := by omega
        go_wp2
        first
          | (go_roundw
             case rel => exact ⟨k + 1, by omega, by go_num, by rw [HPK.out, HL.out]; rfl, trivial⟩
             case measure => simp [intOf]; omega)
          | (go_ret
             exact ⟨by rw [HF.out rfl]; rfl, Below.refl _ _⟩)
    · obtain rfl : k = N := by omega
      go_wp2
      go_ret
      exact ⟨by rw [HL.out]; rfl, Below.refl _ _⟩

set_option maxRecDepth 20000 in
set_option maxHeartbeats 4000000 in
theorem pzValue5_any (p : Nat → Bool) (n g cap : Nat) (a : Int) (w : World) (hn : n ≤ 4) (hw : Own w g 4 (2^n) (fun j => .bool (p j))) :
    Calls Try.prog 181 #[.int .i64 5, .int .i64 a, .slice (some ⟨g, 0, none⟩) (2^n : Nat) cap] w fun e w' => e = .returned (.int .i64 (asN (allK (strongS p n) (2^n)) : Nat)) ∧ Below w.heap.size w w' := by
  have HONE := Lib.hid (fun (b : Bool) W => pzOne_any b W)
  have hN16 : 2^n ≤ 16 := Nat.pow_le_pow_right (n := 2) (by omega) hn
  have hpos := Nat.two_pow_pos n
  rw [show allK (strongS p n) (2^n) = allK (fun s => p s || p (2^n - 1 - s)) (2^n) from rfl]
  obtain ⟨N, hN⟩ : ∃ N, N = 2^n := ⟨_, rfl⟩
  rw [← hN] at hw hN16 hpos ⊢
  clear hN
  have HO := Lib.hid hw
  clear hw
  go_enter Try.func181, Try.ntmps181
  go_wp2
  go_loopw [11, 56] (fun _ i wr => ∃ j : Nat, j ≤ N ∧ i = .int .i64 j ∧ allK (fun s => p s || p (N - 1 - s)) j = true ∧ wr = w) (fun _ i _ => N - (intOf i).toNat)
  case atStart => exact ⟨0, Nat.zero_le _, rfl, rfl, rfl⟩
  case round =>
    obtain ⟨k, hk, rfl, hall, rfl⟩ := hrel
    have HL := Lib.hid hall
    clear hall
    by_cases hlt : k < N
    · have hcell := HO.out.cell hlt
      have hcell2 := HO.out.cell (show N - 1 - k < N by omega)
      have HPK := Lib.hid (show allK (fun s => p s || p (N - 1 - s)) (k+1) = (allK (fun s => p s || p (N - 1 - s)) k && (p k || p (N - 1 - k))) from rfl)
      have HF := Lib.hid (show (p k || p (N - 1 - k)) = false → allK (fun s => p s || p (N - 1 - s)) N = false from fun h => allK_false k hlt h)
      have hcoi : ((N : Int) - 1 - k).toNat = N - 1 - k := by omega
      cases hwin : p k <;> cases hwin2 : p (N - 1 - k)
      all_goals
        rw [hwin] at hcell HPK HF
        rw [hwin2] at hcell2 HPK HF
        clear hwin hwin2
        have h0 : (0 : Int) ≤ (N : Int) - 1 - k := by omega
        have h1 : (N : Int) - 1 - k < N := by omega
        go_wp2
        first
          | (go_roundw
             case rel => exact ⟨k + 1, by omega, by go_num, by rw [HPK.out, HL.out]; rfl, trivial⟩
             case measure => simp [intOf]; omega)
          | (go_ret
             exact ⟨by rw [HF.out rfl]; rfl, Below.refl _ _⟩)
    · obtain rfl : k = N := by omega
      go_wp2
      go_ret
      exact ⟨by rw [HL.out]; rfl, Below.refl _ _⟩

theorem pzValue_any (p : Nat → Bool) (n g cap : Nat) (k a : Int) (w : World) (hn : n ≤ 4) (hw : Own w g 4 (2^n) (fun j => .bool (p j))) (h0 : 0 ≤ k) (h5 : k ≤ 5) (ha0 : k = 0 → 0 ≤ a ∧ a < (2^n : Nat)) (ha1 : k = 2 ∨ k = 3 → 0 ≤ a ∧ a < n) :
    Calls Try.prog 181 #[.int .i64 k, .int .i64 a, .slice (some ⟨g, 0, none⟩) (2^n : Nat) cap] w fun e w' => e = .returned (.int .i64 (valP p n k a : Nat)) ∧ Below w.heap.size w w' := by
  have h : k = 0 ∨ k = 1 ∨ k = 2 ∨ k = 3 ∨ k = 4 ∨ k = 5 := by omega
  rcases h with rfl | rfl | rfl | rfl | rfl | rfl
  · obtain ⟨x, rfl⟩ : ∃ x : Nat, a = (x : Int) := ⟨a.toNat, by have := ha0 rfl; omega⟩
    exact pzValue0_any p n g cap x w hn hw (by have := ha0 rfl; omega)
  · exact pzValue1_any p n g cap a w hn hw
  · obtain ⟨x, rfl⟩ : ∃ x : Nat, a = (x : Int) := ⟨a.toNat, by have := ha1 (Or.inl rfl); omega⟩
    exact pzValue2_any p n g cap x w hn hw (by have := ha1 (Or.inl rfl); omega)
  · obtain ⟨x, rfl⟩ : ∃ x : Nat, a = (x : Int) := ⟨a.toNat, by have := ha1 (Or.inr rfl); omega⟩
    exact pzValue3_any p n g cap x w hn hw (by have := ha1 (Or.inr rfl); omega)
  · exact pzValue4_any p n g cap a w hn hw
  · exact pzValue5_any p n g cap a w hn hw

/-- Do sets that win fit a clue? -/
def fitP (p : Nat → Bool) (n : Nat) (c : Clu) : Bool := if c.1 = 1 ∨ 3 < c.1 then decide ((valP p n c.1 0 : Int) = c.2.1) else decide ((valP p n c.1 c.2.1 : Int) = c.2.2)
theorem fitP_fitK {S : List Nat} {n : Nat} {c : Clu} (hS : ∀ t ∈ S, t < 2^n) (h : AskK n c) : fitP (winS S) n c = fitK S n c := by
  obtain ⟨k, a, b⟩ := c
  unfold fitP fitK
  simp only
  by_cases hk : k = 1 ∨ 3 < k
  · rw [if_pos hk, if_pos hk, valP_flat (a' := a) hk, valP_valK hS h]
  · rw [if_neg hk, if_neg hk, valP_valK hS h]
set_option maxRecDepth 20000 in
set_option maxHeartbeats 4000000 in
theorem pzFits_any (p : Nat → Bool) (n g cap : Nat) (k a b : Int) (w : World) (hn : n ≤ 4) (hw : Own w g 4 (2^n) (fun j => .bool (p j))) (hask : AskK n (k, a, b)) :
    Calls Try.prog 147 #[.agg #[.int .i64 k, .int .i64 a, .int .i64 b], .slice (some ⟨g, 0, none⟩) (2^n : Nat) cap] w fun e w' => e = .returned (.bool (fitP p n (k, a, b))) ∧ Below w.heap.size w w' := by
  have b0 := below1 w (.cells #[.int .i64 k, .int .i64 a, .int .i64 b] 130)
  have hx := Bx3.new 130 w (.int .i64 k) (.int .i64 a) (.int .i64 b)
  obtain ⟨w0, hw0⟩ : ∃ w0, w0 = w.alloc (.cells #[.int .i64 k, .int .i64 a, .int .i64 b] 130) := ⟨_, rfl⟩
  have HO := Lib.hid (show Own w0 g 4 (2^n) (fun j => .bool (p j)) from by rw [hw0]; exact hw.alloc _)
  have KX := Lib.hid (show ∀ W, Below w0.heap.size w0 W → W.cell? ⟨w.heap.size, 0, none⟩ = some (.int .i64 k) ∧ W.cell? ⟨w.heap.size, 1, none⟩ = some (.int .i64 a) ∧ W.cell? ⟨w.heap.size, 2, none⟩ = some (.int .i64 b) from fun W hb => by rw [hw0] at hb; exact (hx.now hb).cells)
  have HB0 := Lib.hid (show Below w.heap.size w w0 from by rw [hw0]; exact b0)
  obtain ⟨h0, h5, ha0, ha1⟩ := hask
  simp only at h0 h5 ha0 ha1
  obtain ⟨c0, c1, c2⟩ := KX.out w0 (Below.refl _ _)
  by_cases hk : k = 1 ∨ 3 < k
  · have HV := Lib.hid (fun W (h : Own W g 4 (2^n) (fun j => .bool (p j))) => pzValue_any p n g cap k 0 W hn h h0 h5 (fun e => by omega) (fun e => by omega))
    have HF := Lib.hid (show fitP p n (k, a, b) = decide (((valP p n k 0 : Nat) : Int) = a) from by unfold fitP; rw [if_pos hk])
    rw [HF.out]
    generalize valP p n k 0 = v at *
    obtain ⟨N, hN⟩ : ∃ N, N = 2^n := ⟨_, rfl⟩
    rw [← hN] at HV HO ⊢
    clear hN hw ha0 ha1 hx b0
    have hgo : k = 1 ∨ (¬ k = 1 ∧ 3 < k) := by omega
    clear hk
    rcases hgo with rfl | ⟨hk1, hk3⟩
    · go_enter Try.func147, Try.ntmps147
      go_wp2_with fail
      rw [← hw0]
      clear hw0
      go_region_held3 (fun w' => w'.cell? ⟨w.heap.size, 0, none⟩ = some (.int .i64 1) ∧ w'.cell? ⟨w.heap.size, 1, none⟩ = some (.int .i64 a) ∧ w'.cell? ⟨w.heap.size, 2, none⟩ = some (.int .i64 b))
        (first | exact ⟨c0, c1, c2⟩ | exact hk2 | go_keep)
        (first
          | (go_at_call 181; refine (HV.out _ HO.out.drew).mono ?_; rintro e w2 ⟨rfl, hb2⟩; have b2 := bfrom (Below.refl _ _).drew hb2; have hk2 := KX.out _ b2)
          | fail)
      go_wp2
      go_ret
      exact ⟨by first | rfl | simp, bfrom HB0.out b2⟩
    · go_enter Try.func147, Try.ntmps147
      go_wp2_with fail
      rw [← hw0]
      clear hw0
      go_region_held3 (fun w' => w'.cell? ⟨w.heap.size, 0, none⟩ = some (.int .i64 k) ∧ w'.cell? ⟨w.heap.size, 1, none⟩ = some (.int .i64 a) ∧ w'.cell? ⟨w.heap.size, 2, none⟩ = some (.int .i64 b))
        (first | exact ⟨c0, c1, c2⟩ | exact hk2 | go_keep)
        (first
          | (go_at_call 181; refine (HV.out _ HO.out.drew).mono ?_; rintro e w2 ⟨rfl, hb2⟩; have b2 := bfrom (Below.refl _ _).drew hb2; have hk2 := KX.out _ b2)
          | fail)
      go_wp2
      go_ret
      exact ⟨by first | rfl | simp, bfrom HB0.out b2⟩
  · have HV := Lib.hid (fun W (h : Own W g 4 (2^n) (fun j => .bool (p j))) => pzValue_any p n g cap k a W hn h h0 h5 ha0 ha1)
    have HF := Lib.hid (show fitP p n (k, a, b) = decide (((valP p n k a : Nat) : Int) = b) from by unfold fitP; rw [if_neg hk])
    rw [HF.out]
    generalize valP p n k a = v at *
    obtain ⟨N, hN⟩ : ∃ N, N = 2^n := ⟨_, rfl⟩
    rw [← hN] at HV HO ⊢
    clear hN hw ha0 ha1 hx b0
    have hk1 : ¬ k = 1 := by omega
    have hk3 : ¬ 3 < k := by omega
    clear hk
    go_enter Try.func147, Try.ntmps147
    go_wp2_with fail
    rw [← hw0]
    clear hw0
    go_region_held3 (fun w' => w'.cell? ⟨w.heap.size, 0, none⟩ = some (.int .i64 k) ∧ w'.cell? ⟨w.heap.size, 1, none⟩ = some (.int .i64 a) ∧ w'.cell? ⟨w.heap.size, 2, none⟩ = some (.int .i64 b))
      (first | exact ⟨c0, c1, c2⟩ | exact hk2 | go_keep)
      (first
        | (go_at_call 181; refine (HV.out _ HO.out.drew).mono ?_; rintro e w2 ⟨rfl, hb2⟩; have b2 := bfrom (Below.refl _ _).drew hb2; have hk2 := KX.out _ b2)
        | fail)
    go_wp2
    go_ret
    exact ⟨by first | rfl | simp, bfrom HB0.out b2⟩
end Go.Proofs.Ytnldodnpakpeeaa

namespace Go.Proofs.Ytnldodnpakpeeaa
open Go.RowKit Vo

/-- Whether a game comes before another one, by their least sets. -/
def gmB : List (List Int) → List (List Int) → Bool
  | [], [] => false
  | [], _ :: _ => true
  | _ :: _, [] => false
  | a :: L, b :: K => if before a b then true else if before b a then false else gmB L K
theorem gmB_out {L K : List (List Int)} {j : Nat} (h : j < L.length) (hk : K.length ≤ j) : gmB (L.drop j) (K.drop j) = false := by
  rw [List.drop_eq_getElem_cons h, List.drop_eq_nil_of_le hk]; rfl
theorem gmB_in {L K : List (List Int)} {j : Nat} (h : j < L.length) (hk : j < K.length) : gmB (L.drop j) (K.drop j) = if before (L.getD j []) (K.getD j []) then true else if before (K.getD j []) (L.getD j []) then false else gmB (L.drop (j+1)) (K.drop (j+1)) := by
  rw [List.drop_eq_getElem_cons h, List.drop_eq_getElem_cons hk, List.getD_eq_getElem?_getD, List.getElem?_eq_getElem h, List.getD_eq_getElem?_getD, List.getElem?_eq_getElem hk]; rfl
theorem gmB_end {L K : List (List Int)} {j : Nat} (h : j = L.length) (hk : j ≤ K.length) : gmB (L.drop j) (K.drop j) = decide (L.length < K.length) := by
  rw [List.drop_eq_nil_of_le (by omega)]
  rcases Nat.lt_or_ge j K.length with h1 | h1
  · rw [List.drop_eq_getElem_cons h1, decide_eq_true (by omega)]; rfl
  · rw [List.drop_eq_nil_of_le h1, decide_eq_false (by omega)]; rfl

set_option maxRecDepth 20000 in
set_option maxHeartbeats 4000000 in
theorem gmBefore_any (m1 m2 : Int) (A B : Option Addr) (n c k d : Nat) (L K : List (List Int)) (w : World) (hl : n ≤ 1048576) (_hl2 : k ≤ 1048576) (hL : ListsR w A n L) (hK : ListsR w B k K) :
    Calls Try.prog 71 #[.agg #[.int .i64 m1, .slice A n c], .agg #[.int .i64 m2, .slice B k d]] w fun e w' => e = .returned (.bool (gmB L K)) ∧ Below w.heap.size w w' := by
  have b0 : Below w.heap.size w ((w.alloc (.cells #[.int .i64 m1, .slice A n c] 55)).alloc (.cells #[.int .i64 m2, .slice B k d] 55)) := (below1 w _).alloc (by simp) _
  have hx := (BoxT.new 55 w (.int .i64 m1) (.slice A n c)).alloc (.cells #[.int .i64 m2, .slice B k d] 55)
  have hy := BoxT.new 55 (w.alloc (.cells #[.int .i64 m1, .slice A n c] 55)) (.int .i64 m2) (.slice B k d)
  simp only [World.size_alloc] at hy
  obtain ⟨w0, hw0⟩ : ∃ w0, w0 = (w.alloc (.cells #[.int .i64 m1, .slice A n c] 55)).alloc (.cells #[.int .i64 m2, .slice B k d] 55) := ⟨_, rfl⟩
  have HL := Lib.hid (show ListsR w0 A n L from by rw [hw0]; exact hL.now b0)
  have HK := Lib.hid (show ListsR w0 B k K from by rw [hw0]; exact hK.now b0)
  have HLN := Lib.hid hL.1
  have HKN := Lib.hid hK.1
  have HX := Lib.hid (show BoxT 55 w0 w.heap.size (.int .i64 m1) (.slice A n c) from by rw [hw0]; exact hx)
  have HY := Lib.hid (show BoxT 55 w0 (w.heap.size + 1) (.int .i64 m2) (.slice B k d) from by rw [hw0]; exact hy)
  have HB0 := Lib.hid (show Below w.heap.size w w0 from by rw [hw0]; exact b0)
  obtain ⟨c0, c1⟩ := hx.cells
  obtain ⟨R, hR⟩ : ∃ R, R = gmB L K := ⟨_, rfl⟩
  have HR := Lib.hid hR
  rw [← hR]
  clear hL hK hx hy b0 hR
  go_enter Try.func71, Try.ntmps71
  go_wp2_with fail
  rw [← hw0]
  rw [← hw0] at c0 c1
  clear hw0
  go_loopw [10] (fun i wr => ∃ j : Nat, j ≤ n ∧ j ≤ k ∧ i = .int .i64 j ∧ gmB (L.drop j) (K.drop j) = R ∧ Below w0.heap.size w0 wr) (fun i _ => n - (intOf i).toNat)
  case atStart => exact ⟨0, Nat.zero_le _, Nat.zero_le _, rfl, by rw [HR.out]; rfl, Below.refl _ _⟩
  case round =>
    obtain ⟨j, hj, hjk, rfl, hq, hbr⟩ := hrel
    have HQ := Lib.hid hq
    have HBR := Lib.hid hbr
    obtain ⟨x0, x1⟩ := (HX.out.now hbr).cells
    obtain ⟨y0, y1⟩ := (HY.out.now hbr).cells
    clear hq hbr c0 c1
    by_cases hlt : j < n
    · obtain ⟨g, v, rfl, hg, hc, hm, hv⟩ := (HL.out.now HBR.out).2 j hlt
      by_cases hlk : j < k
      · obtain ⟨g2, v2, rfl, hg2, hc2, hm2, hv2⟩ := (HK.out.now HBR.out).2 j hlk
        have HST := Lib.hid (gmB_in (L := L) (K := K) (j := j) (by rw [HLN.out]; exact hlt) (by rw [HKN.out]; exact hlk))
        have HV := Lib.hid (fun W (h : Below wr.heap.size wr W) => voBefore_any v v2 (L.getD j []) (K.getD j []) W hm hm2 (hv.up h) (hv2.up h))
        have HV2 := Lib.hid (fun W (h : Below wr.heap.size wr W) => voBefore_any v2 v (K.getD j []) (L.getD j []) W hm2 hm (hv2.up h) (hv.up h))
        generalize before (L.getD j []) (K.getD j []) = r1 at *
        generalize before (K.getD j []) (L.getD j []) = r2 at *
        clear hm hm2 hv hv2
        cases r1 with
        | true =>
          go_wp2_with fail
          refine (HV.out _ (Below.refl _ _)).mono ?_
          rintro e w1 ⟨rfl, hb1⟩
          go_wp2
          go_ret
          exact ⟨by rw [← HQ.out, HST.out]; rfl, HB0.out.trans ((HBR.out.trans (hb1.mono HBR.out.size)).mono HB0.out.size)⟩
        | false =>
          go_wp2_with fail
          refine (HV.out _ (Below.refl _ _)).mono ?_
          rintro e w1 ⟨rfl, hb1⟩
          obtain ⟨x10, x11⟩ := ((HX.out.now HBR.out).now hb1).cells
          obtain ⟨y10, y11⟩ := ((HY.out.now HBR.out).now hb1).cells
          have hc2' := (hb1.cell (p := ⟨g2, j, none⟩) hg2).trans hc2
          cases r2 with
          | true =>
            go_wp2_with fail
            refine (HV2.out _ hb1).mono ?_
            rintro e w2 ⟨rfl, hb2⟩
            have hb12 := bfrom hb1 hb2
            go_wp2
            go_ret
            exact ⟨by rw [← HQ.out, HST.out]; rfl, HB0.out.trans ((HBR.out.trans (hb12.mono HBR.out.size)).mono HB0.out.size)⟩
          | false =>
            go_wp2_with fail
            refine (HV2.out _ hb1).mono ?_
            rintro e w2 ⟨rfl, hb2⟩
            have hb12 := bfrom hb1 hb2
            go_wp2
            go_roundw
            case rel => exact ⟨j + 1, by omega, by omega, by go_num, by rw [← HQ.out, HST.out]; rfl, HBR.out.trans (hb12.mono HBR.out.size)⟩
            case measure => simp [intOf]; omega
      · have HST := Lib.hid (gmB_out (L := L) (K := K) (j := j) (by rw [HLN.out]; exact hlt) (by rw [HKN.out]; omega))
        have hge : (k : Int) ≤ (j : Int) := by omega
        go_wp2
        go_ret
        exact ⟨by rw [← HQ.out, HST.out]; rfl, HB0.out.trans (HBR.out.mono HB0.out.size)⟩
    · obtain rfl : j = n := by omega
      have HST := Lib.hid (gmB_end (L := L) (K := K) (j := j) HLN.out.symm (by rw [HKN.out]; exact hjk))
      rw [HLN.out, HKN.out] at HST
      go_wp2
      go_ret
      exact ⟨by rw [← HQ.out, HST.out]; first | rfl | simp, HB0.out.trans (HBR.out.mono HB0.out.size)⟩
end Go.Proofs.Ytnldodnpakpeeaa
