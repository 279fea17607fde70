/- What a clue asks of a game: the program's answers. -/
import Derived.Test.YtpcijgdpinmcmaaGreatGe
import Derived.Test.YtpcijgdpinmcmaaGreatJ5
import Derived.Test.YtpcijgdpinmcmaaGreatJ7
import Derived.Test.YtpcijgdpinmcmaaGreatN4
import Derived.Outline
namespace Go.Proofs.YtpcijgdpinmcmaaGreat
open Go.RowKit Vo

theorem isSome_put {w : World} {p a : Addr} {u : Value} (h : (w.cell? a).isSome = true) : ((w.setCell p u).cell? a).isSome = true := by
  by_cases e : p = a
  · subst e; rw [World.cell?_setCell_same' w p u h]; rfl
  · rw [World.cell?_setCell_other w p a u e]; exact h
theorem cell_off {w : World} {p a : Addr} {u x : Value} (h : w.cell? a = some x) (hne : a.block ≠ p.block) : (w.setCell p u).cell? a = some x := by
  rw [World.cell?_of_block (Below.heap_setCell w p u a.block hne)]; exact h
def asN (b : Bool) : Nat := if b then 1 else 0
theorem asN_le (b : Bool) : asN b ≤ 1 := by cases b <;> simp [asN]
def vetoB (S : List Nat) (n a : Nat) : Bool := (andK (2^n-1) S S.length).testBit a
/-- What is told of a game to a clue. -/
def valK (S : List Nat) (n : Nat) (c : Clu) : Nat :=
  if c.1 = 0 then asN (winS S c.2.1.toNat)
  else if c.1 = 1 then cnt (winS S) (2^n)
  else if c.1 = 2 then asN (vetoB S n c.2.1.toNat)
  else if c.1 = 3 then cnt (swP (winS S) c.2.1.toNat) (2^n)
  else if c.1 = 4 then asN (allK (properS (winS S) n) (2^n))
  else asN (allK (strongS (winS S) n) (2^n))
/-- The clue with the answer that is true of a game. -/
def ansK (S : List Nat) (n : Nat) (c : Clu) : Clu := if c.1 = 1 ∨ 3 < c.1 then (c.1, (valK S n c : Int), c.2.2) else (c.1, c.2.1, (valK S n c : Int))
def fitK (S : List Nat) (n : Nat) (c : Clu) : Bool := if c.1 = 1 ∨ 3 < c.1 then decide ((valK S n c : Int) = c.2.1) else decide ((valK S n c : Int) = c.2.2)
/-- What may be asked of a game of n members. -/
def AskK (n : Nat) (c : Clu) : Prop := 0 ≤ c.1 ∧ c.1 ≤ 5 ∧ (c.1 = 0 → 0 ≤ c.2.1 ∧ c.2.1 < (2^n : Nat)) ∧ (c.1 = 2 ∨ c.1 = 3 → 0 ≤ c.2.1 ∧ c.2.1 < n)
theorem inB_parts {x lo hi : Int} (h : inB x lo hi = true) : lo ≤ x ∧ x ≤ hi := by simpa [inB] using h
theorem clueB_ask {n : Nat} {c : Clu} (h : clueB n c = true) : AskK n c := by
  obtain ⟨k, a, b⟩ := c
  by_cases hk : 0 ≤ k ∧ k ≤ 5
  · refine ⟨hk.1, hk.2, fun e => ?_, fun e => ?_⟩
    · unfold clueB at h
      simp only at e h
      rw [if_pos e, Bool.and_eq_true] at h
      have := inB_parts h.1
      have := Nat.two_pow_pos n
      simp only
      omega
    · unfold clueB at h
      simp only at e h
      rw [if_neg (by omega), if_neg (by omega)] at h
      rcases e with e | e
      · rw [if_pos e, Bool.and_eq_true] at h
        have := inB_parts h.1
        simp only
        omega
      · rw [if_neg (by omega), if_pos e, Bool.and_eq_true] at h
        have := inB_parts h.1
        simp only
        omega
  · rw [clueB_no hk] at h; cases h

set_option maxHeartbeats 400000 in
theorem asAnswer_any (b : Bool) (w : World) :
    Calls Tryz.prog 59 #[.bool b] w fun e w' => e = .returned (.int .i64 (asN b : Nat)) ∧ w = w' := by
  cases b
  all_goals
    go_enter Tryz.func59, Tryz.ntmps59
    go_wp2
    go_ret
    exact ⟨rfl, rfl⟩

set_option maxRecDepth 20000 in
set_option maxHeartbeats 4000000 in
theorem answered0_any (S : List Nat) (n base k cap : Nat) (A : Option Addr) (a b : Int) (w : World) (hn : n ≤ 4) (hk : k = S.length) (hs : k ≤ 1048576) (hS : ∀ t ∈ S, t < 2^n) (h1 : w.ownsRow base 77 1 (.slice A k cap) k (setsV S)) (hask : AskK n (0, a, b)) :
    Calls Tryz.prog 45 #[.agg #[.int .i64 n, .slice A k cap], .agg #[.int .i64 0, .int .i64 a, .int .i64 b]] w fun e w' => e = .returned (cluV (ansK S n (0, a, b))) ∧ Below w.heap.size w w' := by
  have hS5 : ∀ t ∈ S, t < 512 := fun t ht => by have := hS t ht; have : 2^n ≤ 2^9 := Nat.pow_le_pow_right (by omega) (by omega); omega
  have hSG : ∀ i, i < S.length → S.getD i 0 < 2^n := fun i hi => by
    rw [List.getD_eq_getElem?_getD, List.getElem?_eq_getElem hi]
    exact hS _ (List.getElem_mem hi)
  have b3 : Below w.heap.size w (((w.alloc (.cells #[.int .i64 n, .slice A k cap] 54)).alloc (.cells #[.int .i64 0, .int .i64 a, .int .i64 b] 30)).alloc (.cells #[.int .i64 0, .int .i64 0, .int .i64 0] 30)) := ((below1 w _).alloc (by simp) _).alloc (by simp; omega) _
  have hx := ((BoxT.new 54 w (.int .i64 n) (.slice A k cap)).alloc (.cells #[.int .i64 0, .int .i64 a, .int .i64 b] 30)).alloc (.cells #[.int .i64 0, .int .i64 0, .int .i64 0] 30)
  have hy := (Bx3.new 30 (w.alloc (.cells #[.int .i64 n, .slice A k cap] 54)) (.int .i64 0) (.int .i64 a) (.int .i64 b)).alloc (.cells #[.int .i64 0, .int .i64 0, .int .i64 0] 30)
  have hr := Bx3.new 30 ((w.alloc (.cells #[.int .i64 n, .slice A k cap] 54)).alloc (.cells #[.int .i64 0, .int .i64 a, .int .i64 b] 30)) (.int .i64 0) (.int .i64 0) (.int .i64 0)
  simp only [World.size_alloc] at hy hr
  have HO := Lib.hid (fun W (hb : Below w.heap.size w W) => owns_now h1 hb)
  have HQ := Lib.hid (fun W => question0_any a b W)
  have t0 := fun v W => run_assert_yes Tryz.underlying79 v 74 W
  obtain ⟨ha0, ha1⟩ := hask.2.2.1 rfl
  simp only at ha0 ha1
  obtain ⟨x, rfl⟩ : ∃ x : Nat, a = (x : Int) := ⟨a.toNat, by omega⟩
  have hx2 : x < 2^n := by omega
  have hx5 : x < 512 := by have : 2^n ≤ 2^9 := Nat.pow_le_pow_right (by omega) (by omega); omega
  have hwr : IntKind.u64.wrap (x : Int) = (x : Int) := IntWalk.u64_in _ (by omega)
  have HV := Lib.hid (show ansK S n (0, (x : Int), b) = (0, (x : Int), ((asN (winS S x) : Nat) : Int)) from rfl)
  have HKK := Lib.hid hk
  clear h1 hask hk
  obtain ⟨y0, y1, y2⟩ := hy.cells
  go_enter Tryz.func45, Tryz.ntmps45
  go_wp2_with fail
  refine (HQ.out _).mono ?_
  rintro e w1 ⟨rfl, hb1⟩
  have g1 := bfrom b3 hb1
  have hz1 := hb1.size
  simp only [World.size_alloc] at hz1
  have hx1 := hx.now hb1
  have hy1 := hy.now hb1
  have hr1 := hr.now hb1
  clear hx hy hr b3 hb1 y0 y1 y2
  have b2 := below1 w1 (.cells #[.int .u64 (x : Int)] 79)
  have g2 := bfrom g1 b2
  have hx2' := hx1.now b2
  have hy2 := hy1.now b2
  have hr2 := hr1.now b2
  obtain ⟨c0, c1⟩ := hx2'.cells
  go_wp2_with fail
  refine (gWins_any S n x base k cap A _ HKK.out hs hS5 hx5 (HO.out _ g2)).mono ?_
  rintro e w3 ⟨rfl, hb3⟩
  have g3 := bfrom g2 hb3
  have hyf := hy2.now hb3
  have hrf := hr2.now hb3
  have hz3 := g3.size
  have HA := Lib.hid (fun W => asAnswer_any (winS S x) W)
  generalize winS S x = r at *
  go_wp2_with fail
  refine (HA.out _).mono ?_
  rintro e w4 ⟨rfl, rfl⟩
  generalize asN r = rr at *
  have gf := g3
  obtain ⟨z0, z1, z2⟩ := hyf.cells
  obtain ⟨v0, v1, v2⟩ := hyf.soft
  obtain ⟨r0, r1, r2⟩ := hrf.cells
  obtain ⟨s0, s1, s2⟩ := hrf.soft
  go_wp2
  refine bodyPost_ret (v := cluV (ansK S n (0, (x : Int), b))) (by rw [HV.out]; simp [results, Tryz.results45, go_sem, r0, r1, r2, cluV]) rfl ⟨rfl, ?_⟩
  exact (((gf.setCell (by simp) _).setCell (by simp; omega) _).setCell (by simp; omega) _).setCell (by simp; omega) _

set_option maxRecDepth 20000 in
set_option maxHeartbeats 4000000 in
theorem answered1_any (S : List Nat) (n base k cap : Nat) (A : Option Addr) (a b : Int) (w : World) (hn : n ≤ 4) (hk : k = S.length) (hs : k ≤ 1048576) (hS : ∀ t ∈ S, t < 2^n) (h1 : w.ownsRow base 77 1 (.slice A k cap) k (setsV S)) (_hask : AskK n (1, a, b)) :
    Calls Tryz.prog 45 #[.agg #[.int .i64 n, .slice A k cap], .agg #[.int .i64 1, .int .i64 a, .int .i64 b]] w fun e w' => e = .returned (cluV (ansK S n (1, a, b))) ∧ Below w.heap.size w w' := by
  have hS5 : ∀ t ∈ S, t < 512 := fun t ht => by have := hS t ht; have : 2^n ≤ 2^9 := Nat.pow_le_pow_right (by omega) (by omega); omega
  have hSG : ∀ i, i < S.length → S.getD i 0 < 2^n := fun i hi => by
    rw [List.getD_eq_getElem?_getD, List.getElem?_eq_getElem hi]
    exact hS _ (List.getElem_mem hi)
  have b3 : Below w.heap.size w (((w.alloc (.cells #[.int .i64 n, .slice A k cap] 54)).alloc (.cells #[.int .i64 1, .int .i64 a, .int .i64 b] 30)).alloc (.cells #[.int .i64 0, .int .i64 0, .int .i64 0] 30)) := ((below1 w _).alloc (by simp) _).alloc (by simp; omega) _
  have hx := ((BoxT.new 54 w (.int .i64 n) (.slice A k cap)).alloc (.cells #[.int .i64 1, .int .i64 a, .int .i64 b] 30)).alloc (.cells #[.int .i64 0, .int .i64 0, .int .i64 0] 30)
  have hy := (Bx3.new 30 (w.alloc (.cells #[.int .i64 n, .slice A k cap] 54)) (.int .i64 1) (.int .i64 a) (.int .i64 b)).alloc (.cells #[.int .i64 0, .int .i64 0, .int .i64 0] 30)
  have hr := Bx3.new 30 ((w.alloc (.cells #[.int .i64 n, .slice A k cap] 54)).alloc (.cells #[.int .i64 1, .int .i64 a, .int .i64 b] 30)) (.int .i64 0) (.int .i64 0) (.int .i64 0)
  simp only [World.size_alloc] at hy hr
  have HO := Lib.hid (fun W (hb : Below w.heap.size w W) => owns_now h1 hb)
  have HQ := Lib.hid (fun W => question1_any a b W)
  have t0 := fun v W => run_assert_no (t := 81) Tryz.underlying79 (by decide) zeroSQ v 74 W
  have t1 := fun v W => run_assert_yes Tryz.underlying81 v 74 W
  have HV := Lib.hid (show ansK S n (1, a, b) = (1, ((cnt (winS S) (2^n) : Nat) : Int), b) from rfl)
  have HKK := Lib.hid hk
  clear h1 _hask hk
  obtain ⟨y0, y1, y2⟩ := hy.cells
  go_enter Tryz.func45, Tryz.ntmps45
  go_wp2_with fail
  refine (HQ.out _).mono ?_
  rintro e w1 ⟨rfl, hb1⟩
  have g1 := bfrom b3 hb1
  have hz1 := hb1.size
  simp only [World.size_alloc] at hz1
  have hx1 := hx.now hb1
  have hy1 := hy.now hb1
  have hr1 := hr.now hb1
  clear hx hy hr b3 hb1 y0 y1 y2
  have b2 := below1 w1 (.cells #[] 81)
  have g2 := bfrom g1 b2
  have hx2' := hx1.now b2
  have hy2 := hy1.now b2
  have hr2 := hr1.now b2
  obtain ⟨c0, c1⟩ := hx2'.cells
  go_wp2_with fail
  refine (countSets_any (winS S) _ _ _ n _ (by omega) (gWins_asks S n base k cap n A _ (by omega) HKK.out hs hS5 (HO.out _ g2))).mono ?_
  rintro e w3 ⟨rfl, hb3⟩
  have g3 := bfrom g2 hb3
  have hyf := hy2.now hb3
  have hrf := hr2.now hb3
  have hz3 := g3.size
  generalize cnt (winS S) (2^n) = rr at *
  have gf := g3
  obtain ⟨z0, z1, z2⟩ := hyf.cells
  obtain ⟨v0, v1, v2⟩ := hyf.soft
  obtain ⟨r0, r1, r2⟩ := hrf.cells
  obtain ⟨s0, s1, s2⟩ := hrf.soft
  go_wp2
  refine bodyPost_ret (v := cluV (ansK S n (1, a, b))) (by rw [HV.out]; simp [results, Tryz.results45, go_sem, r0, r1, r2, cluV]) rfl ⟨rfl, ?_⟩
  exact (((gf.setCell (by simp) _).setCell (by simp; omega) _).setCell (by simp; omega) _).setCell (by simp; omega) _

set_option maxRecDepth 20000 in
set_option maxHeartbeats 4000000 in
theorem answered2_any (S : List Nat) (n base k cap : Nat) (A : Option Addr) (a b : Int) (w : World) (hn : n ≤ 4) (hk : k = S.length) (hs : k ≤ 1048576) (hS : ∀ t ∈ S, t < 2^n) (h1 : w.ownsRow base 77 1 (.slice A k cap) k (setsV S)) (hask : AskK n (2, a, b)) :
    Calls Tryz.prog 45 #[.agg #[.int .i64 n, .slice A k cap], .agg #[.int .i64 2, .int .i64 a, .int .i64 b]] w fun e w' => e = .returned (cluV (ansK S n (2, a, b))) ∧ Below w.heap.size w w' := by
  have hS5 : ∀ t ∈ S, t < 512 := fun t ht => by have := hS t ht; have : 2^n ≤ 2^9 := Nat.pow_le_pow_right (by omega) (by omega); omega
  have hSG : ∀ i, i < S.length → S.getD i 0 < 2^n := fun i hi => by
    rw [List.getD_eq_getElem?_getD, List.getElem?_eq_getElem hi]
    exact hS _ (List.getElem_mem hi)
  have b3 : Below w.heap.size w (((w.alloc (.cells #[.int .i64 n, .slice A k cap] 54)).alloc (.cells #[.int .i64 2, .int .i64 a, .int .i64 b] 30)).alloc (.cells #[.int .i64 0, .int .i64 0, .int .i64 0] 30)) := ((below1 w _).alloc (by simp) _).alloc (by simp; omega) _
  have hx := ((BoxT.new 54 w (.int .i64 n) (.slice A k cap)).alloc (.cells #[.int .i64 2, .int .i64 a, .int .i64 b] 30)).alloc (.cells #[.int .i64 0, .int .i64 0, .int .i64 0] 30)
  have hy := (Bx3.new 30 (w.alloc (.cells #[.int .i64 n, .slice A k cap] 54)) (.int .i64 2) (.int .i64 a) (.int .i64 b)).alloc (.cells #[.int .i64 0, .int .i64 0, .int .i64 0] 30)
  have hr := Bx3.new 30 ((w.alloc (.cells #[.int .i64 n, .slice A k cap] 54)).alloc (.cells #[.int .i64 2, .int .i64 a, .int .i64 b] 30)) (.int .i64 0) (.int .i64 0) (.int .i64 0)
  simp only [World.size_alloc] at hy hr
  have HO := Lib.hid (fun W (hb : Below w.heap.size w W) => owns_now h1 hb)
  have HQ := Lib.hid (fun W => question2_any a b W)
  have t0 := fun v W => run_assert_no (t := 83) Tryz.underlying79 (by decide) zeroSQ v 74 W
  have t1 := fun v W => run_assert_no (t := 83) Tryz.underlying81 (by decide) zeroCQ v 74 W
  have t2 := fun v W => run_assert_yes Tryz.underlying83 v 74 W
  obtain ⟨ha0, ha1⟩ := hask.2.2.2 (by simp)
  simp only at ha0 ha1
  obtain ⟨x, rfl⟩ : ∃ x : Nat, a = (x : Int) := ⟨a.toNat, by omega⟩
  have hx2 : x < n := by omega
  have HV := Lib.hid (show ansK S n (2, (x : Int), b) = (2, (x : Int), ((asN (vetoB S n x) : Nat) : Int)) from rfl)
  have HM := Lib.hid (fun W (hb : Below w.heap.size w W) => membersOfEach_any S n base k cap A W (by omega) hk hs hSG (owns_now h1 hb))
  have hle : andK (2^n-1) S k < 512 := by
    have h1 := andK_le (2^n-1) S k
    have h2 : 2^n ≤ 2^9 := Nat.pow_le_pow_right (by omega) (by omega)
    omega
  have HH := Lib.hid (fun W => has_any (andK (2^n-1) S k) x W (by omega) hle)
  have HVB := Lib.hid (show (andK (2^n-1) S k).testBit x = vetoB S n x from by unfold vetoB; rw [hk])
  generalize andK (2^n-1) S k = sm at *
  rw [HVB.out] at HH
  have HA := Lib.hid (fun W => asAnswer_any (vetoB S n x) W)
  have HKK := Lib.hid hk
  clear h1 hask hk
  obtain ⟨y0, y1, y2⟩ := hy.cells
  go_enter Tryz.func45, Tryz.ntmps45
  go_wp2_with fail
  refine (HQ.out _).mono ?_
  rintro e w1 ⟨rfl, hb1⟩
  have g1 := bfrom b3 hb1
  have hz1 := hb1.size
  simp only [World.size_alloc] at hz1
  have hx1 := hx.now hb1
  have hy1 := hy.now hb1
  have hr1 := hr.now hb1
  clear hx hy hr b3 hb1 y0 y1 y2
  have b2 := below1 w1 (.cells #[.int .i64 (x : Int)] 83)
  have g2 := bfrom g1 b2
  have hx2' := hx1.now b2
  have hy2 := hy1.now b2
  have hr2 := hr1.now b2
  have c2 : (w1.alloc (.cells #[.int .i64 (x : Int)] 83)).cell? ⟨w1.heap.size, 0, none⟩ = some (.int .i64 (x : Int)) := by
    have h := heap_alloc_new w1 (.cells #[.int .i64 (x : Int)] 83)
    generalize w1.alloc (.cells #[.int .i64 (x : Int)] 83) = W at *
    simp [World.cell?, h]
  obtain ⟨c0, c1⟩ := hx2'.cells
  obtain ⟨_, _, c3⟩ := hy2.cells
  obtain ⟨_, _, c4⟩ := hy2.soft
  go_wp2_with fail
  obtain ⟨w2, hw2⟩ : ∃ w2, w2 = w1.alloc (.cells #[.int .i64 (x : Int)] 83) := ⟨_, rfl⟩
  rw [← hw2] at b2 g2 hx2' hy2 hr2 c0 c1 c2 c3 c4 ⊢
  have HG2 := Lib.hid g2
  clear hw2 b2 g2 hx1 hy1 hr1
  go_region_held3 (fun w' => w'.cell? ⟨w.heap.size, 0, none⟩ = some (.int .i64 n) ∧ w'.cell? ⟨w.heap.size, 1, none⟩ = some (.slice A k cap) ∧ w'.cell? ⟨w1.heap.size, 0, none⟩ = some (.int .i64 x) ∧ (w'.cell? ⟨w.heap.size + 1, 2, none⟩).isSome = true ∧ w'.frozen? ⟨w.heap.size + 1, 2, none⟩ = false)
    (first | exact ⟨c0, c1, c2, by rw [c3]; rfl, c4⟩ | ((try dsimp only); (repeat' apply And.intro); all_goals (first | exact isSome_put (Option.isSome_iff_exists.2 ⟨_, c3⟩) | exact cell_off c2 (by simp; omega) | exact c4 | go_keep)) | go_keep)
    (first
      | (go_at_call 62; refine (HM.out _ HG2.out.drew).mono ?_; rintro e wA ⟨rfl, rfl⟩)
      | (go_at_call 63; refine (HH.out _).mono ?_; rintro e wA ⟨rfl, rfl⟩)
      | (go_at_call 59; refine (HA.out _).mono ?_; rintro e wA ⟨rfl, rfl⟩)
      | fail)
  have hyf := hy2
  have hrf := hr2
  have hz3 := HG2.out.size
  have gf := HG2.out
  generalize asN (vetoB S n x) = rr at *
  obtain ⟨z0, z1, z2⟩ := hyf.cells
  obtain ⟨v0, v1, v2⟩ := hyf.soft
  obtain ⟨r0, r1, r2⟩ := hrf.cells
  obtain ⟨s0, s1, s2⟩ := hrf.soft
  go_wp2
  refine bodyPost_ret (v := cluV (ansK S n (2, (x : Int), b))) (by rw [HV.out]; simp [results, Tryz.results45, go_sem, r0, r1, r2, cluV]) rfl ⟨rfl, ?_⟩
  exact (((gf.setCell (by simp) _).drew.setCell (by simp; omega) _).setCell (by simp; omega) _).setCell (by simp; omega) _


set_option maxRecDepth 20000 in
set_option maxHeartbeats 4000000 in
theorem answered3_any (S : List Nat) (n base k cap : Nat) (A : Option Addr) (a b : Int) (w : World) (hn : n ≤ 4) (hk : k = S.length) (hs : k ≤ 1048576) (hS : ∀ t ∈ S, t < 2^n) (h1 : w.ownsRow base 77 1 (.slice A k cap) k (setsV S)) (hask : AskK n (3, a, b)) :
    Calls Tryz.prog 45 #[.agg #[.int .i64 n, .slice A k cap], .agg #[.int .i64 3, .int .i64 a, .int .i64 b]] w fun e w' => e = .returned (cluV (ansK S n (3, a, b))) ∧ Below w.heap.size w w' := by
  have hS5 : ∀ t ∈ S, t < 512 := fun t ht => by have := hS t ht; have : 2^n ≤ 2^9 := Nat.pow_le_pow_right (by omega) (by omega); omega
  have hSG : ∀ i, i < S.length → S.getD i 0 < 2^n := fun i hi => by
    rw [List.getD_eq_getElem?_getD, List.getElem?_eq_getElem hi]
    exact hS _ (List.getElem_mem hi)
  have b3 : Below w.heap.size w (((w.alloc (.cells #[.int .i64 n, .slice A k cap] 54)).alloc (.cells #[.int .i64 3, .int .i64 a, .int .i64 b] 30)).alloc (.cells #[.int .i64 0, .int .i64 0, .int .i64 0] 30)) := ((below1 w _).alloc (by simp) _).alloc (by simp; omega) _
  have hx := ((BoxT.new 54 w (.int .i64 n) (.slice A k cap)).alloc (.cells #[.int .i64 3, .int .i64 a, .int .i64 b] 30)).alloc (.cells #[.int .i64 0, .int .i64 0, .int .i64 0] 30)
  have hy := (Bx3.new 30 (w.alloc (.cells #[.int .i64 n, .slice A k cap] 54)) (.int .i64 3) (.int .i64 a) (.int .i64 b)).alloc (.cells #[.int .i64 0, .int .i64 0, .int .i64 0] 30)
  have hr := Bx3.new 30 ((w.alloc (.cells #[.int .i64 n, .slice A k cap] 54)).alloc (.cells #[.int .i64 3, .int .i64 a, .int .i64 b] 30)) (.int .i64 0) (.int .i64 0) (.int .i64 0)
  simp only [World.size_alloc] at hy hr
  have HO := Lib.hid (fun W (hb : Below w.heap.size w W) => owns_now h1 hb)
  have HQ := Lib.hid (fun W => question3_any a b W)
  have t0 := fun v W => run_assert_no (t := 85) Tryz.underlying79 (by decide) zeroSQ v 74 W
  have t1 := fun v W => run_assert_no (t := 85) Tryz.underlying81 (by decide) zeroCQ v 74 W
  have t2 := fun v W => run_assert_no (t := 85) Tryz.underlying83 (by decide) zeroVQ v 74 W
  have t3 := fun v W => run_assert_yes Tryz.underlying85 v 74 W
  obtain ⟨ha0, ha1⟩ := hask.2.2.2 (by simp)
  simp only at ha0 ha1
  obtain ⟨x, rfl⟩ : ∃ x : Nat, a = (x : Int) := ⟨a.toNat, by omega⟩
  have hx2 : x < n := by omega
  have HV := Lib.hid (show ansK S n (3, (x : Int), b) = (3, (x : Int), ((cnt (swP (winS S) x) (2^n) : Nat) : Int)) from rfl)
  have HKK := Lib.hid hk
  clear h1 hask hk
  obtain ⟨y0, y1, y2⟩ := hy.cells
  go_enter Tryz.func45, Tryz.ntmps45
  go_wp2_with fail
  refine (HQ.out _).mono ?_
  rintro e w1 ⟨rfl, hb1⟩
  have g1 := bfrom b3 hb1
  have hz1 := hb1.size
  simp only [World.size_alloc] at hz1
  have hx1 := hx.now hb1
  have hy1 := hy.now hb1
  have hr1 := hr.now hb1
  clear hx hy hr b3 hb1 y0 y1 y2
  have b2 := below1 w1 (.cells #[.int .i64 (x : Int)] 85)
  have g2 := bfrom g1 b2
  have hx2' := hx1.now b2
  have hy2 := hy1.now b2
  have hr2 := hr1.now b2
  obtain ⟨c0, c1⟩ := hx2'.cells
  have cq : (w1.alloc (.cells #[.int .i64 (x : Int)] 85)).cell? ⟨w1.heap.size, 0, none⟩ = some (.int .i64 (x : Int)) := by
    have h := heap_alloc_new w1 (.cells #[.int .i64 (x : Int)] 85)
    generalize w1.alloc (.cells #[.int .i64 (x : Int)] 85) = W at *
    simp [World.cell?, h]
  go_wp2_with fail
  refine (countSwingsP_any (winS S) _ _ _ n x _ (by omega) hx2 (gWins_asks S n base k cap n A _ (by omega) HKK.out hs hS5 (HO.out _ g2))).mono ?_
  rintro e w3 ⟨rfl, hb3⟩
  have g3 := bfrom g2 hb3
  have hyf := hy2.now hb3
  have hrf := hr2.now hb3
  have hz3 := g3.size
  generalize cnt (swP (winS S) x) (2^n) = rr at *
  have gf := g3
  obtain ⟨z0, z1, z2⟩ := hyf.cells
  obtain ⟨v0, v1, v2⟩ := hyf.soft
  obtain ⟨r0, r1, r2⟩ := hrf.cells
  obtain ⟨s0, s1, s2⟩ := hrf.soft
  go_wp2
  refine bodyPost_ret (v := cluV (ansK S n (3, (x : Int), b))) (by rw [HV.out]; simp [results, Tryz.results45, go_sem, r0, r1, r2, cluV]) rfl ⟨rfl, ?_⟩
  exact (((gf.setCell (by simp) _).setCell (by simp; omega) _).setCell (by simp; omega) _).setCell (by simp; omega) _

set_option maxRecDepth 20000 in
set_option maxHeartbeats 4000000 in
theorem answered4_any (S : List Nat) (n base k cap : Nat) (A : Option Addr) (a b : Int) (w : World) (hn : n ≤ 4) (hk : k = S.length) (hs : k ≤ 1048576) (hS : ∀ t ∈ S, t < 2^n) (h1 : w.ownsRow base 77 1 (.slice A k cap) k (setsV S)) (_hask : AskK n (4, a, b)) :
    Calls Tryz.prog 45 #[.agg #[.int .i64 n, .slice A k cap], .agg #[.int .i64 4, .int .i64 a, .int .i64 b]] w fun e w' => e = .returned (cluV (ansK S n (4, a, b))) ∧ Below w.heap.size w w' := by
  have hS5 : ∀ t ∈ S, t < 512 := fun t ht => by have := hS t ht; have : 2^n ≤ 2^9 := Nat.pow_le_pow_right (by omega) (by omega); omega
  have hSG : ∀ i, i < S.length → S.getD i 0 < 2^n := fun i hi => by
    rw [List.getD_eq_getElem?_getD, List.getElem?_eq_getElem hi]
    exact hS _ (List.getElem_mem hi)
  have b3 : Below w.heap.size w (((w.alloc (.cells #[.int .i64 n, .slice A k cap] 54)).alloc (.cells #[.int .i64 4, .int .i64 a, .int .i64 b] 30)).alloc (.cells #[.int .i64 0, .int .i64 0, .int .i64 0] 30)) := ((below1 w _).alloc (by simp) _).alloc (by simp; omega) _
  have hx := ((BoxT.new 54 w (.int .i64 n) (.slice A k cap)).alloc (.cells #[.int .i64 4, .int .i64 a, .int .i64 b] 30)).alloc (.cells #[.int .i64 0, .int .i64 0, .int .i64 0] 30)
  have hy := (Bx3.new 30 (w.alloc (.cells #[.int .i64 n, .slice A k cap] 54)) (.int .i64 4) (.int .i64 a) (.int .i64 b)).alloc (.cells #[.int .i64 0, .int .i64 0, .int .i64 0] 30)
  have hr := Bx3.new 30 ((w.alloc (.cells #[.int .i64 n, .slice A k cap] 54)).alloc (.cells #[.int .i64 4, .int .i64 a, .int .i64 b] 30)) (.int .i64 0) (.int .i64 0) (.int .i64 0)
  simp only [World.size_alloc] at hy hr
  have HO := Lib.hid (fun W (hb : Below w.heap.size w W) => owns_now h1 hb)
  have HQ := Lib.hid (fun W => question4_any a b W)
  have t0 := fun v W => run_assert_no (t := 86) Tryz.underlying79 (by decide) zeroSQ v 74 W
  have t1 := fun v W => run_assert_no (t := 86) Tryz.underlying81 (by decide) zeroCQ v 74 W
  have t2 := fun v W => run_assert_no (t := 86) Tryz.underlying83 (by decide) zeroVQ v 74 W
  have t3 := fun v W => run_assert_no (t := 86) Tryz.underlying85 (by decide) zeroWQ v 74 W
  have t4 := fun v W => run_assert_yes Tryz.underlying86 v 74 W
  have HV := Lib.hid (show ansK S n (4, a, b) = (4, ((asN (allK (properS (winS S) n) (2^n)) : Nat) : Int), b) from rfl)
  have HKK := Lib.hid hk
  clear h1 _hask hk
  obtain ⟨y0, y1, y2⟩ := hy.cells
  go_enter Tryz.func45, Tryz.ntmps45
  go_wp2_with fail
  refine (HQ.out _).mono ?_
  rintro e w1 ⟨rfl, hb1⟩
  have g1 := bfrom b3 hb1
  have hz1 := hb1.size
  simp only [World.size_alloc] at hz1
  have hx1 := hx.now hb1
  have hy1 := hy.now hb1
  have hr1 := hr.now hb1
  clear hx hy hr b3 hb1 y0 y1 y2
  have b2 := below1 w1 (.cells #[] 86)
  have g2 := bfrom g1 b2
  have hx2' := hx1.now b2
  have hy2 := hy1.now b2
  have hr2 := hr1.now b2
  obtain ⟨c0, c1⟩ := hx2'.cells
  go_wp2_with fail
  refine (gProper_any S n base k cap A _ (by omega) HKK.out hs hS5 (HO.out _ g2)).mono ?_
  rintro e w3 ⟨rfl, hb3⟩
  have g3 := bfrom g2 hb3
  have hyf := hy2.now hb3
  have hrf := hr2.now hb3
  have hz3 := g3.size
  have HA := Lib.hid (fun W => asAnswer_any (allK (properS (winS S) n) (2^n)) W)
  generalize allK (properS (winS S) n) (2^n) = r at *
  go_wp2_with fail
  refine (HA.out _).mono ?_
  rintro e w4 ⟨rfl, rfl⟩
  generalize asN r = rr at *
  have gf := g3
  obtain ⟨z0, z1, z2⟩ := hyf.cells
  obtain ⟨v0, v1, v2⟩ := hyf.soft
  obtain ⟨r0, r1, r2⟩ := hrf.cells
  obtain ⟨s0, s1, s2⟩ := hrf.soft
  go_wp2
  refine bodyPost_ret (v := cluV (ansK S n (4, a, b))) (by rw [HV.out]; simp [results, Tryz.results45, go_sem, r0, r1, r2, cluV]) rfl ⟨rfl, ?_⟩
  exact (((gf.setCell (by simp) _).setCell (by simp; omega) _).setCell (by simp; omega) _).setCell (by simp; omega) _

set_option maxRecDepth 20000 in
set_option maxHeartbeats 4000000 in
theorem answered5_any (S : List Nat) (n base k cap : Nat) (A : Option Addr) (a b : Int) (w : World) (hn : n ≤ 4) (hk : k = S.length) (hs : k ≤ 1048576) (hS : ∀ t ∈ S, t < 2^n) (h1 : w.ownsRow base 77 1 (.slice A k cap) k (setsV S)) (_hask : AskK n (5, a, b)) :
    Calls Tryz.prog 45 #[.agg #[.int .i64 n, .slice A k cap], .agg #[.int .i64 5, .int .i64 a, .int .i64 b]] w fun e w' => e = .returned (cluV (ansK S n (5, a, b))) ∧ Below w.heap.size w w' := by
  have hS5 : ∀ t ∈ S, t < 512 := fun t ht => by have := hS t ht; have : 2^n ≤ 2^9 := Nat.pow_le_pow_right (by omega) (by omega); omega
  have hSG : ∀ i, i < S.length → S.getD i 0 < 2^n := fun i hi => by
    rw [List.getD_eq_getElem?_getD, List.getElem?_eq_getElem hi]
    exact hS _ (List.getElem_mem hi)
  have b3 : Below w.heap.size w (((w.alloc (.cells #[.int .i64 n, .slice A k cap] 54)).alloc (.cells #[.int .i64 5, .int .i64 a, .int .i64 b] 30)).alloc (.cells #[.int .i64 0, .int .i64 0, .int .i64 0] 30)) := ((below1 w _).alloc (by simp) _).alloc (by simp; omega) _
  have hx := ((BoxT.new 54 w (.int .i64 n) (.slice A k cap)).alloc (.cells #[.int .i64 5, .int .i64 a, .int .i64 b] 30)).alloc (.cells #[.int .i64 0, .int .i64 0, .int .i64 0] 30)
  have hy := (Bx3.new 30 (w.alloc (.cells #[.int .i64 n, .slice A k cap] 54)) (.int .i64 5) (.int .i64 a) (.int .i64 b)).alloc (.cells #[.int .i64 0, .int .i64 0, .int .i64 0] 30)
  have hr := Bx3.new 30 ((w.alloc (.cells #[.int .i64 n, .slice A k cap] 54)).alloc (.cells #[.int .i64 5, .int .i64 a, .int .i64 b] 30)) (.int .i64 0) (.int .i64 0) (.int .i64 0)
  simp only [World.size_alloc] at hy hr
  have HO := Lib.hid (fun W (hb : Below w.heap.size w W) => owns_now h1 hb)
  have HQ := Lib.hid (fun W => question5_any a b W)
  have t0 := fun v W => run_assert_no (t := 87) Tryz.underlying79 (by decide) zeroSQ v 74 W
  have t1 := fun v W => run_assert_no (t := 87) Tryz.underlying81 (by decide) zeroCQ v 74 W
  have t2 := fun v W => run_assert_no (t := 87) Tryz.underlying83 (by decide) zeroVQ v 74 W
  have t3 := fun v W => run_assert_no (t := 87) Tryz.underlying85 (by decide) zeroWQ v 74 W
  have t4 := fun v W => run_assert_no (t := 87) Tryz.underlying86 (by decide) zeroPQ v 74 W
  have t5 := fun v W => run_assert_yes Tryz.underlying87 v 74 W
  have HV := Lib.hid (show ansK S n (5, a, b) = (5, ((asN (allK (strongS (winS S) n) (2^n)) : Nat) : Int), b) from rfl)
  have HKK := Lib.hid hk
  clear h1 _hask hk
  obtain ⟨y0, y1, y2⟩ := hy.cells
  go_enter Tryz.func45, Tryz.ntmps45
  go_wp2_with fail
  refine (HQ.out _).mono ?_
  rintro e w1 ⟨rfl, hb1⟩
  have g1 := bfrom b3 hb1
  have hz1 := hb1.size
  simp only [World.size_alloc] at hz1
  have hx1 := hx.now hb1
  have hy1 := hy.now hb1
  have hr1 := hr.now hb1
  clear hx hy hr b3 hb1 y0 y1 y2
  have b2 := below1 w1 (.cells #[] 87)
  have g2 := bfrom g1 b2
  have hx2' := hx1.now b2
  have hy2 := hy1.now b2
  have hr2 := hr1.now b2
  obtain ⟨c0, c1⟩ := hx2'.cells
  go_wp2_with fail
  refine (gStrong_any S n base k cap A _ (by omega) HKK.out hs hS5 (HO.out _ g2)).mono ?_
  rintro e w3 ⟨rfl, hb3⟩
  have g3 := bfrom g2 hb3
  have hyf := hy2.now hb3
  have hrf := hr2.now hb3
  have hz3 := g3.size
  have HA := Lib.hid (fun W => asAnswer_any (allK (strongS (winS S) n) (2^n)) W)
  generalize allK (strongS (winS S) n) (2^n) = r at *
  go_wp2_with fail
  refine (HA.out _).mono ?_
  rintro e w4 ⟨rfl, rfl⟩
  generalize asN r = rr at *
  have gf := g3
  obtain ⟨z0, z1, z2⟩ := hyf.cells
  obtain ⟨v0, v1, v2⟩ := hyf.soft
  obtain ⟨r0, r1, r2⟩ := hrf.cells
  obtain ⟨s0, s1, s2⟩ := hrf.soft
  go_wp2
  refine bodyPost_ret (v := cluV (ansK S n (5, a, b))) (by rw [HV.out]; simp [results, Tryz.results45, go_sem, r0, r1, r2, cluV]) rfl ⟨rfl, ?_⟩
  exact (((gf.setCell (by simp) _).setCell (by simp; omega) _).setCell (by simp; omega) _).setCell (by simp; omega) _

theorem answered_any (S : List Nat) (n base k cap : Nat) (A : Option Addr) (kk a b : Int) (w : World) (hn : n ≤ 4) (hk : k = S.length) (hs : k ≤ 1048576) (hS : ∀ t ∈ S, t < 2^n) (h1 : w.ownsRow base 77 1 (.slice A k cap) k (setsV S)) (hask : AskK n (kk, a, b)) :
    Calls Tryz.prog 45 #[.agg #[.int .i64 n, .slice A k cap], .agg #[.int .i64 kk, .int .i64 a, .int .i64 b]] w fun e w' => e = .returned (cluV (ansK S n (kk, a, b))) ∧ Below w.heap.size w w' := by
  have h : kk = 0 ∨ kk = 1 ∨ kk = 2 ∨ kk = 3 ∨ kk = 4 ∨ kk = 5 := by have := hask.1; have := hask.2.1; simp only at *; omega
  rcases h with rfl | rfl | rfl | rfl | rfl | rfl
  · exact answered0_any S n base k cap A a b w hn hk hs hS h1 hask
  · exact answered1_any S n base k cap A a b w hn hk hs hS h1 hask
  · exact answered2_any S n base k cap A a b w hn hk hs hS h1 hask
  · exact answered3_any S n base k cap A a b w hn hk hs hS h1 hask
  · exact answered4_any S n base k cap A a b w hn hk hs hS h1 hask
  · exact answered5_any S n base k cap A a b w hn hk hs hS h1 hask

theorem ansK_fit (S : List Nat) (n : Nat) (c : Clu) : (ansK S n c = c) ↔ fitK S n c = true := by
  obtain ⟨k, a, b⟩ := c
  unfold ansK fitK
  by_cases h : k = 1 ∨ 3 < k
  · rw [if_pos h, if_pos h]; simp
  · rw [if_neg h, if_neg h]; simp

theorem eq_clue (x y z k a b : Int) (W : World) : (binOp .eql 30 (.agg #[.int .i64 x, .int .i64 y, .int .i64 z]) (.agg #[.int .i64 k, .int .i64 a, .int .i64 b])).run Tryz.prog W = .ok (.bool (decide ((x, y, z) = (k, a, b)))) W := by
  have hi : ∀ W, (isAgg 3).run Tryz.prog W = .ok false W := fun W => by simp [isAgg, run_underlying Tryz.underlying3]
  have he : ∀ (p q : Int) W, (Op.equalIn 9999 3 (.int .i64 p) (.int .i64 q)).run Tryz.prog W = .ok (p == q) W := fun p q W => run_equalIn_int W 9998 3 .i64 .i64 p q Tryz.underlying3
  rw [run_eql_struct, run_equalIn_struct W 9999 30 _ _ (by unfold Program.fieldsOf; rw [Tryz.underlying30]) (by kernel_rfl)]
  unfold Program.fieldsOf
  rw [Tryz.underlying30]
  by_cases h1 : x = k <;> by_cases h2 : y = a <;> by_cases h3 : z = b <;> simp [Op.eqFields, part, hi, he, Result.andThen, h1, h2, h3]

set_option maxRecDepth 20000 in
set_option maxHeartbeats 4000000 in
theorem fits_any (S : List Nat) (n base k cap : Nat) (A : Option Addr) (kk a b : Int) (w : World) (hn : n ≤ 4) (hk : k = S.length) (hs : k ≤ 1048576) (hS : ∀ t ∈ S, t < 2^n) (h1 : w.ownsRow base 77 1 (.slice A k cap) k (setsV S)) (hask : AskK n (kk, a, b)) :
    Calls Tryz.prog 25 #[.agg #[.int .i64 n, .slice A k cap], .agg #[.int .i64 kk, .int .i64 a, .int .i64 b]] w fun e w' => e = .returned (.bool (fitK S n (kk, a, b))) ∧ Below w.heap.size w w' := by
  have b0 : Below w.heap.size w ((w.alloc (.cells #[.int .i64 n, .slice A k cap] 54)).alloc (.cells #[.int .i64 kk, .int .i64 a, .int .i64 b] 30)) := (below1 w _).alloc (by simp) _
  have hx := (BoxT.new 54 w (.int .i64 n) (.slice A k cap)).alloc (.cells #[.int .i64 kk, .int .i64 a, .int .i64 b] 30)
  have hy := Bx3.new 30 (w.alloc (.cells #[.int .i64 n, .slice A k cap] 54)) (.int .i64 kk) (.int .i64 a) (.int .i64 b)
  simp only [World.size_alloc] at hy
  obtain ⟨c0, c1⟩ := hx.cells
  obtain ⟨d0, d1, d2⟩ := hy.cells
  obtain ⟨w0, hw0⟩ : ∃ w0, w0 = (w.alloc (.cells #[.int .i64 n, .slice A k cap] 54)).alloc (.cells #[.int .i64 kk, .int .i64 a, .int .i64 b] 30) := ⟨_, rfl⟩
  have HO := Lib.hid (show w0.ownsRow base 77 1 (.slice A k cap) k (setsV S) from by rw [hw0]; exact owns_now h1 b0)
  have HA := Lib.hid (fun W h => answered_any S n base k cap A kk a b W hn hk hs hS h hask)
  have K := Lib.hid (show ∀ W, Below w0.heap.size w0 W → (W.cell? ⟨w.heap.size, 0, none⟩ = some (.int .i64 n) ∧ W.cell? ⟨w.heap.size, 1, none⟩ = some (.slice A k cap) ∧ W.cell? ⟨w.heap.size + 1, 0, none⟩ = some (.int .i64 kk) ∧ W.cell? ⟨w.heap.size + 1, 1, none⟩ = some (.int .i64 a) ∧ W.cell? ⟨w.heap.size + 1, 2, none⟩ = some (.int .i64 b)) from fun W hb => by
    rw [hw0] at hb
    exact ⟨(hx.now hb).cells.1, (hx.now hb).cells.2, (hy.now hb).cells.1, (hy.now hb).cells.2.1, (hy.now hb).cells.2.2⟩)
  have HF := Lib.hid (ansK_fit S n (kk, a, b))
  have HB0 := Lib.hid (show Below w.heap.size w w0 from by rw [hw0]; exact b0)
  have HEQ := Lib.hid (show ∀ (x y z : Int) W, (binOp .eql 30 (.agg #[.int .i64 x, .int .i64 y, .int .i64 z]) (.agg #[.int .i64 kk, .int .i64 a, .int .i64 b])).run Tryz.prog W = .ok (.bool (decide ((x, y, z) = (kk, a, b)))) W from fun x y z W => eq_clue x y z kk a b W)
  obtain ⟨⟨x, y, z⟩, hc⟩ : ∃ c, c = ansK S n (kk, a, b) := ⟨_, rfl⟩
  rw [← hc] at HA HF
  have HA2 := Lib.hid (show ∀ W, W.ownsRow base 77 1 (.slice A k cap) k (setsV S) → Calls Tryz.prog 45 #[.agg #[.int .i64 n, .slice A k cap], .agg #[.int .i64 kk, .int .i64 a, .int .i64 b]] W fun e w' => e = .returned (.agg #[.int .i64 x, .int .i64 y, .int .i64 z]) ∧ Below W.heap.size W w' from fun W h => HA.out W h)
  clear HA
  have hd := HEQ.out x y z
  have HFF := Lib.hid (show decide ((x, y, z) = (kk, a, b)) = fitK S n (kk, a, b) from by
    cases hf : fitK S n (kk, a, b) with
    | true => exact decide_eq_true (HF.out.2 hf)
    | false => exact decide_eq_false (fun e => by have := HF.out.1 e; rw [hf] at this; cases this))
  rw [HFF.out] at hd
  generalize fitK S n (kk, a, b) = r at *
  clear hc hx hy hk hS h1 hask b0
  go_enter Tryz.func25, Tryz.ntmps25
  go_wp2_with fail
  rw [← hw0]
  rw [← hw0] at c0 c1 d0 d1 d2
  clear hw0
  go_region_held3 (fun w' => w'.cell? ⟨w.heap.size, 0, none⟩ = some (.int .i64 n) ∧ w'.cell? ⟨w.heap.size, 1, none⟩ = some (.slice A k cap) ∧ w'.cell? ⟨w.heap.size + 1, 0, none⟩ = some (.int .i64 kk) ∧ w'.cell? ⟨w.heap.size + 1, 1, none⟩ = some (.int .i64 a) ∧ w'.cell? ⟨w.heap.size + 1, 2, none⟩ = some (.int .i64 b))
    (first | exact ⟨c0, c1, d0, d1, d2⟩ | exact hk2 | go_keep)
    (first
      | (go_at_call 45; refine (HA2.out _ HO.out.drew).mono ?_; rintro e w2 ⟨rfl, hb2⟩; have b2 := bfrom (Below.refl _ _).drew hb2; have hk2 := K.out _ b2)
      | fail)
  go_wp2
  go_ret
  exact ⟨rfl, bfrom HB0.out b2⟩
end Go.Proofs.YtpcijgdpinmcmaaGreat
