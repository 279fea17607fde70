/- Texts of Gg, Gh. -/
import Derived.Test.YtnldodnpakpeeaaGreatPkQ14
import Derived.Test.YtnldodnpakpeeaaGreatPkQ22
import Derived.Test.YtnldodnpakpeeaaGreatPkQ23
import Derived.Test.YtnldodnpakpeeaaGreatPkQ24
import Derived.Outline
namespace Go.Proofs.YtnldodnpakpeeaaGreat
open Go.RowKit Vo

theorem isSome_put {w : World} {p a : Addr} {u : Value} (h : (w.cell? a).isSome = true) : ((w.setCell p u).cell? a).isSome = true := by
  by_cases e : p = a
  · subst e; rw [World.cell?_setCell_same' w p u h]; rfl
  · rw [World.cell?_setCell_other w p a u e]; exact h
theorem cell_off {w : World} {p a : Addr} {u x : Value} (h : w.cell? a = some x) (hne : a.block ≠ p.block) : (w.setCell p u).cell? a = some x := by
  rw [World.cell?_of_block (Below.heap_setCell w p u a.block hne)]; exact h
def asN (b : Bool) : Nat := if b then 1 else 0
theorem asN_le (b : Bool) : asN b ≤ 1 := by cases b <;> simp [asN]
def vetoB (S : List Nat) (n a : Nat) : Bool := (andK (2^n-1) S S.length).testBit a
/-- What is told of a game to a clue. -/
def valK (S : List Nat) (n : Nat) (c : Clu) : Nat :=
  if c.1 = 0 then asN (winS S c.2.1.toNat)
  else if c.1 = 1 then cnt (winS S) (2^n)
  else if c.1 = 2 then asN (vetoB S n c.2.1.toNat)
  else if c.1 = 3 then cnt (swP (winS S) c.2.1.toNat) (2^n)
  else if c.1 = 4 then asN (allK (properS (winS S) n) (2^n))
  else asN (allK (strongS (winS S) n) (2^n))
/-- The clue with the answer that is true of a game. -/
def ansK (S : List Nat) (n : Nat) (c : Clu) : Clu := if c.1 = 1 ∨ 3 < c.1 then (c.1, (valK S n c : Int), c.2.2) else (c.1, c.2.1, (valK S n c : Int))
def fitK (S : List Nat) (n : Nat) (c : Clu) : Bool := if c.1 = 1 ∨ 3 < c.1 then decide ((valK S n c : Int) = c.2.1) else decide ((valK S n c : Int) = c.2.2)
/-- What may be asked of a game of n members. -/
def AskK (n : Nat) (c : Clu) : Prop := 0 ≤ c.1 ∧ c.1 ≤ 5 ∧ (c.1 = 0 → 0 ≤ c.2.1 ∧ c.2.1 < (2^n : Nat)) ∧ (c.1 = 2 ∨ c.1 = 3 → 0 ≤ c.2.1 ∧ c.2.1 < n)
theorem inB_parts {x lo hi : Int} (h : inB x lo hi = true) : lo ≤ x ∧ x ≤ hi := by simpa [inB] using h
theorem clueB_ask {n : Nat} {c : Clu} (h : clueB n c = true) : AskK n c := by
  obtain ⟨k, a, b⟩ := c
  by_cases hk : 0 ≤ k ∧ k ≤ 5
  · refine ⟨hk.1, hk.2, fun e => ?_, fun e => ?_⟩
    · unfold clueB at h
      simp only at e h
      rw [if_pos e, Bool.and_eq_true] at h
      have := inB_parts h.1
      have := Nat.two_pow_pos n
      simp only
      omega
    · unfold clueB at h
      simp only at e h
      rw [if_neg (by omega), if_neg (by omega)] at h
      rcases e with e | e
      · rw [if_pos e, Bool.and_eq_true] at h
        have := inB_parts h.1
        simp only
        omega
      · rw [if_neg (by omega), if_pos e, Bool.and_eq_true] at h
        have := inB_parts h.1
        simp only
        omega
  · rw [clueB_no hk] at h; cases h

set_option maxHeartbeats 400000 in
theorem asAnswer_any (b : Bool) (w : World) :
    Calls Tryz.prog 87 #[.bool b] w fun e w' => e = .returned (.int .i64 (asN b : Nat)) ∧ w = w' := by
  cases b
  all_goals
    go_enter Tryz.func87, Tryz.ntmps87
    go_wp2
    go_ret
    exact ⟨rfl, rfl⟩

set_option maxRecDepth 20000 in
set_option maxHeartbeats 4000000 in
theorem answered0_any (S : List Nat) (n base k cap : Nat) (A : Option Addr) (a b : Int) (w : World) (hn : n ≤ 4) (hk : k = S.length) (hs : k ≤ 1048576) (hS : ∀ t ∈ S, t < 2^n) (h1 : w.ownsRow base 69 1 (.slice A k cap) k (setsV S)) (hask : AskK n (0, a, b)) :
    Calls Tryz.prog 86 #[.agg #[.int .i64 n, .slice A k cap], .agg #[.int .i64 0, .int .i64 a, .int .i64 b]] w fun e w' => e = .returned (cluV (ansK S n (0, a, b))) ∧ Below w.heap.size w w' := by
  have hS5 : ∀ t ∈ S, t < 512 := fun t ht => by have := hS t ht; have : 2^n ≤ 2^9 := Nat.pow_le_pow_right (by omega) (by omega); omega
  have hSG : ∀ i, i < S.length → S.getD i 0 < 2^n := fun i hi => by
    rw [List.getD_eq_getElem?_getD, List.getElem?_eq_getElem hi]
    exact hS _ (List.getElem_mem hi)
  have b3 : Below w.heap.size w (((w.alloc (.cells #[.int .i64 n, .slice A k cap] 46)).alloc (.cells #[.int .i64 0, .int .i64 a, .int .i64 b] 62)).alloc (.cells #[.int .i64 0, .int .i64 0, .int .i64 0] 62)) := ((below1 w _).alloc (by simp) _).alloc (by simp; omega) _
  have hx := ((BoxT.new 46 w (.int .i64 n) (.slice A k cap)).alloc (.cells #[.int .i64 0, .int .i64 a, .int .i64 b] 62)).alloc (.cells #[.int .i64 0, .int .i64 0, .int .i64 0] 62)
  have hy := (Bx3.new 62 (w.alloc (.cells #[.int .i64 n, .slice A k cap] 46)) (.int .i64 0) (.int .i64 a) (.int .i64 b)).alloc (.cells #[.int .i64 0, .int .i64 0, .int .i64 0] 62)
  have hr := Bx3.new 62 ((w.alloc (.cells #[.int .i64 n, .slice A k cap] 46)).alloc (.cells #[.int .i64 0, .int .i64 a, .int .i64 b] 62)) (.int .i64 0) (.int .i64 0) (.int .i64 0)
  simp only [World.size_alloc] at hy hr
  have HO := Lib.hid (fun W (hb : Below w.heap.size w W) => owns_now h1 hb)
  have HQ := Lib.hid (fun W => question0_any a b W)
  have t0 := fun v W => run_assert_yes Tryz.underlying122 v 119 W
  obtain ⟨ha0, ha1⟩ := hask.2.2.1 rfl
  simp only at ha0 ha1
  obtain ⟨x, rfl⟩ : ∃ x : Nat, a = (x : Int) := ⟨a.toNat, by omega⟩
  have hx2 : x < 2^n := by omega
  have hx5 : x < 512 := by have : 2^n ≤ 2^9 := Nat.pow_le_pow_right (by omega) (by omega); omega
  have hwr : IntKind.u64.wrap (x : Int) = (x : Int) := IntWalk.u64_in _ (by omega)
  have HV := Lib.hid (show ansK S n (0, (x : Int), b) = (0, (x : Int), ((asN (winS S x) : Nat) : Int)) from rfl)
  have HKK := Lib.hid hk
  clear h1 hask hk
  obtain ⟨y0, y1, y2⟩ := hy.cells
  go_enter Tryz.func86, Tryz.ntmps86
  go_wp2_with fail
  refine (HQ.out _).mono ?_
  rintro e w1 ⟨rfl, hb1⟩
  have g1 := bfrom b3 hb1
  have hz1 := hb1.size
  simp only [World.size_alloc] at hz1
  have hx1 := hx.now hb1
  have hy1 := hy.now hb1
  have hr1 := hr.now hb1
  clear hx hy hr b3 hb1 y0 y1 y2
  have b2 := below1 w1 (.cells #[.int .u64 (x : Int)] 122)
  have g2 := bfrom g1 b2
  have hx2' := hx1.now b2
  have hy2 := hy1.now b2
  have hr2 := hr1.now b2
  obtain ⟨c0, c1⟩ := hx2'.cells
  go_wp2_with fail
  refine (gWins_any S n x base k cap A _ HKK.out hs hS5 hx5 (HO.out _ g2)).mono ?_
  rintro e w3 ⟨rfl, hb3⟩
  have g3 := bfrom g2 hb3
  have hyf := hy2.now hb3
  have hrf := hr2.now hb3
  have hz3 := g3.size
  have HA := Lib.hid (fun W => asAnswer_any (winS S x) W)
  generalize winS S x = r at *
  go_wp2_with fail
  refine (HA.out _).mono ?_
  rintro e w4 ⟨rfl, rfl⟩
  generalize asN r = rr at *
  have gf := g3
  obtain ⟨z0, z1, z2⟩ := hyf.cells
  obtain ⟨v0, v1, v2⟩ := hyf.soft
  obtain ⟨r0, r1, r2⟩ := hrf.cells
  obtain ⟨s0, s1, s2⟩ := hrf.soft
  go_wp2
  refine bodyPost_ret (v := cluV (ansK S n (0, (x : Int), b))) (by rw [HV.out]; simp [results, Tryz.results86, go_sem, r0, r1, r2, cluV]) rfl ⟨rfl, ?_⟩
  exact (((gf.setCell (by simp) _).setCell (by simp; omega) _).setCell (by simp; omega) _).setCell (by simp; omega) _

set_option maxRecDepth 20000 in
set_option maxHeartbeats 4000000 in
theorem answered1_any (S : List Nat) (n base k cap : Nat) (A : Option Addr) (a b : Int) (w : World) (hn : n ≤ 4) (hk : k = S.length) (hs : k ≤ 1048576) (hS : ∀ t ∈ S, t < 2^n) (h1 : w.ownsRow base 69 1 (.slice A k cap) k (setsV S)) (_hask : AskK n (1, a, b)) :
    Calls Tryz.prog 86 #[.agg #[.int .i64 n, .slice A k cap], .agg #[.int .i64 1, .int .i64 a, .int .i64 b]] w fun e w' => e = .returned (cluV (ansK S n (1, a, b))) ∧ Below w.heap.size w w' := by
  have hS5 : ∀ t ∈ S, t < 512 := fun t ht => by have := hS t ht; have : 2^n ≤ 2^9 := Nat.pow_le_pow_right (by omega) (by omega); omega
  have hSG : ∀ i, i < S.length → S.getD i 0 < 2^n := fun i hi => by
    rw [List.getD_eq_getElem?_getD, List.getElem?_eq_getElem hi]
    exact hS _ (List.getElem_mem hi)
  have b3 : Below w.heap.size w (((w.alloc (.cells #[.int .i64 n, .slice A k cap] 46)).alloc (.cells #[.int .i64 1, .int .i64 a, .int .i64 b] 62)).alloc (.cells #[.int .i64 0, .int .i64 0, .int .i64 0] 62)) := ((below1 w _).alloc (by simp) _).alloc (by simp; omega) _
  have hx := ((BoxT.new 46 w (.int .i64 n) (.slice A k cap)).alloc (.cells #[.int .i64 1, .int .i64 a, .int .i64 b] 62)).alloc (.cells #[.int .i64 0, .int .i64 0, .int .i64 0] 62)
  have hy := (Bx3.new 62 (w.alloc (.cells #[.int .i64 n, .slice A k cap] 46)) (.int .i64 1) (.int .i64 a) (.int .i64 b)).alloc (.cells #[.int .i64 0, .int .i64 0, .int .i64 0] 62)
  have hr := Bx3.new 62 ((w.alloc (.cells #[.int .i64 n, .slice A k cap] 46)).alloc (.cells #[.int .i64 1, .int .i64 a, .int .i64 b] 62)) (.int .i64 0) (.int .i64 0) (.int .i64 0)
  simp only [World.size_alloc] at hy hr
  have HO := Lib.hid (fun W (hb : Below w.heap.size w W) => owns_now h1 hb)
  have HQ := Lib.hid (fun W => question1_any a b W)
  have t0 := fun v W => run_assert_no (t := 124) Tryz.underlying122 (by decide) zeroSQ v 119 W
  have t1 := fun v W => run_assert_yes Tryz.underlying124 v 119 W
  have HV := Lib.hid (show ansK S n (1, a, b) = (1, ((cnt (winS S) (2^n) : Nat) : Int), b) from rfl)
  have HKK := Lib.hid hk
  clear h1 _hask hk
  obtain ⟨y0, y1, y2⟩ := hy.cells
  go_enter Tryz.func86, Tryz.ntmps86
  go_wp2_with fail
  refine (HQ.out _).mono ?_
  rintro e w1 ⟨rfl, hb1⟩
  have g1 := bfrom b3 hb1
  have hz1 := hb1.size
  simp only [World.size_alloc] at hz1
  have hx1 := hx.now hb1
  have hy1 := hy.now hb1
  have hr1 := hr.now hb1
  clear hx hy hr b3 hb1 y0 y1 y2
  have b2 := below1 w1 (.cells #[] 124)
  have g2 := bfrom g1 b2
  have hx2' := hx1.now b2
  have hy2 := hy1.now b2
  have hr2 := hr1.now b2
  obtain ⟨c0, c1⟩ := hx2'.cells
  go_wp2_with fail
  refine (countSets_any (winS S) _ _ _ n _ (by omega) (gWins_asks S n base k cap n A _ (by omega) HKK.out hs hS5 (HO.out _ g2))).mono ?_
  rintro e w3 ⟨rfl, hb3⟩
  have g3 := bfrom g2 hb3
  have hyf := hy2.now hb3
  have hrf := hr2.now hb3
  have hz3 := g3.size
  generalize cnt (winS S) (2^n) = rr at *
  have gf := g3
  obtain ⟨z0, z1, z2⟩ := hyf.cells
  obtain ⟨v0, v1, v2⟩ := hyf.soft
  obtain ⟨r0, r1, r2⟩ := hrf.cells
  obtain ⟨s0, s1, s2⟩ := hrf.soft
  go_wp2
  refine bodyPost_ret (v := cluV (ansK S n (1, a, b))) (by rw [HV.out]; simp [results, Tryz.results86, go_sem, r0, r1, r2, cluV]) rfl ⟨rfl, ?_⟩
  exact (((gf.setCell (by simp) _).setCell (by simp; omega) _).setCell (by simp; omega) _).setCell (by simp; omega) _

set_option maxRecDepth 20000 in
set_option maxHeartbeats 4000000 in
theorem answered2_any (S : List Nat) (n base k cap : Nat) (A : Option Addr) (a b : Int) (w : World) (hn : n ≤ 4) (hk : k = S.length) (hs : k ≤ 1048576) (hS : ∀ t ∈ S, t < 2^n) (h1 : w.ownsRow base 69 1 (.slice A k cap) k (setsV S)) (hask : AskK n (2, a, b)) :
    Calls Tryz.prog 86 #[.agg #[.int .i64 n, .slice A k cap], .agg #[.int .i64 2, .int .i64 a, .int .i64 b]] w fun e w' => e = .returned (cluV (ansK S n (2, a, b))) ∧ Below w.heap.size w w' := by
  have hS5 : ∀ t ∈ S, t < 512 := fun t ht => by have := hS t ht; have : 2^n ≤ 2^9 := Nat.pow_le_pow_right (by omega) (by omega); omega
  have hSG : ∀ i, i < S.length → S.getD i 0 < 2^n := fun i hi => by
    rw [List.getD_eq_getElem?_getD, List.getElem?_eq_getElem hi]
    exact hS _ (List.getElem_mem hi)
  have b3 : Below w.heap.size w (((w.alloc (.cells #[.int .i64 n, .slice A k cap] 46)).alloc (.cells #[.int .i64 2, .int .i64 a, .int .i64 b] 62)).alloc (.cells #[.int .i64 0, .int .i64 0, .int .i64 0] 62)) := ((below1 w _).alloc (by simp) _).alloc (by simp; omega) _
  have hx := ((BoxT.new 46 w (.int .i64 n) (.slice A k cap)).alloc (.cells #[.int .i64 2, .int .i64 a, .int .i64 b] 62)).alloc (.cells #[.int .i64 0, .int .i64 0, .int .i64 0] 62)
  have hy := (Bx3.new 62 (w.alloc (.cells #[.int .i64 n, .slice A k cap] 46)) (.int .i64 2) (.int .i64 a) (.int .i64 b)).alloc (.cells #[.int .i64 0, .int .i64 0, .int .i64 0] 62)
  have hr := Bx3.new 62 ((w.alloc (.cells #[.int .i64 n, .slice A k cap] 46)).alloc (.cells #[.int .i64 2, .int .i64 a, .int .i64 b] 62)) (.int .i64 0) (.int .i64 0) (.int .i64 0)
  simp only [World.size_alloc] at hy hr
  have HO := Lib.hid (fun W (hb : Below w.heap.size w W) => owns_now h1 hb)
  have HQ := Lib.hid (fun W => question2_any a b W)
  have t0 := fun v W => run_assert_no (t := 126) Tryz.underlying122 (by decide) zeroSQ v 119 W
  have t1 := fun v W => run_assert_no (t := 126) Tryz.underlying124 (by decide) zeroCQ v 119 W
  have t2 := fun v W => run_assert_yes Tryz.underlying126 v 119 W
  obtain ⟨ha0, ha1⟩ := hask.2.2.2 (by simp)
  simp only at ha0 ha1
  obtain ⟨x, rfl⟩ : ∃ x : Nat, a = (x : Int) := ⟨a.toNat, by omega⟩
  have hx2 : x < n := by omega
  have HV := Lib.hid (show ansK S n (2, (x : Int), b) = (2, (x : Int), ((asN (vetoB S n x) : Nat) : Int)) from rfl)
  have HM := Lib.hid (fun W (hb : Below w.heap.size w W) => membersOfEach_any S n base k cap A W (by omega) hk hs hSG (owns_now h1 hb))
  have hle : andK (2^n-1) S k < 512 := by
    have h1 := andK_le (2^n-1) S k
    have h2 : 2^n ≤ 2^9 := Nat.pow_le_pow_right (by omega) (by omega)
    omega
  have HH := Lib.hid (fun W => has_any (andK (2^n-1) S k) x W (by omega) hle)
  have HVB := Lib.hid (show (andK (2^n-1) S k).testBit x = vetoB S n x from by unfold vetoB; rw [hk])
  generalize andK (2^n-1) S k = sm at *
  rw [HVB.out] at HH
  have HA := Lib.hid (fun W => asAnswer_any (vetoB S n x) W)
  have HKK := Lib.hid hk
  clear h1 hask hk
  obtain ⟨y0, y1, y2⟩ := hy.cells
  go_enter Tryz.func86, Tryz.ntmps86
  go_wp2_with fail
  refine (HQ.out _).mono ?_
  rintro e w1 ⟨rfl, hb1⟩
  have g1 := bfrom b3 hb1
  have hz1 := hb1.size
  simp only [World.size_alloc] at hz1
  have hx1 := hx.now hb1
  have hy1 := hy.now hb1
  have hr1 := hr.now hb1
  clear hx hy hr b3 hb1 y0 y1 y2
  have b2 := below1 w1 (.cells #[.int .i64 (x : Int)] 126)
  have g2 := bfrom g1 b2
  have hx2' := hx1.now b2
  have hy2 := hy1.now b2
  have hr2 := hr1.now b2
  have c2 : (w1.alloc (.cells #[.int .i64 (x : Int)] 126)).cell? ⟨w1.heap.size, 0, none⟩ = some (.int .i64 (x : Int)) := by
    have h := heap_alloc_new w1 (.cells #[.int .i64 (x : Int)] 126)
    generalize w1.alloc (.cells #[.int .i64 (x : Int)] 126) = W at *
    simp [World.cell?, h]
  obtain ⟨c0, c1⟩ := hx2'.cells
  obtain ⟨_, _, c3⟩ := hy2.cells
  obtain ⟨_, _, c4⟩ := hy2.soft
  go_wp2_with fail
  obtain ⟨w2, hw2⟩ : ∃ w2, w2 = w1.alloc (.cells #[.int .i64 (x : Int)] 126) := ⟨_, rfl⟩
  rw [← hw2] at b2 g2 hx2' hy2 hr2 c0 c1 c2 c3 c4 ⊢
  have HG2 := Lib.hid g2
  clear hw2 b2 g2 hx1 hy1 hr1
  go_region_held3 (fun w' => w'.cell? ⟨w.heap.size, 0, none⟩ = some (.int .i64 n) ∧ w'.cell? ⟨w.heap.size, 1, none⟩ = some (.slice A k cap) ∧ w'.cell? ⟨w1.heap.size, 0, none⟩ = some (.int .i64 x) ∧ (w'.cell? ⟨w.heap.size + 1, 2, none⟩).isSome = true ∧ w'.frozen? ⟨w.heap.size + 1, 2, none⟩ = false)
    (first | exact ⟨c0, c1, c2, by rw [c3]; rfl, c4⟩ | ((try dsimp only); (repeat' apply And.intro); all_goals (first | exact isSome_put (Option.isSome_iff_exists.2 ⟨_, c3⟩) | exact cell_off c2 (by simp; omega) | exact c4 | go_keep)) | go_keep)
    (first
      | (go_at_call 89; refine (HM.out _ HG2.out.drew).mono ?_; rintro e wA ⟨rfl, rfl⟩)
      | (go_at_call 61; refine (HH.out _).mono ?_; rintro e wA ⟨rfl, rfl⟩)
      | (go_at_call 87; refine (HA.out _).mono ?_; rintro e wA ⟨rfl, rfl⟩)
      | fail)
  have hyf := hy2
  have hrf := hr2
  have hz3 := HG2.out.size
  have gf := HG2.out
  generalize asN (vetoB S n x) = rr at *
  obtain ⟨z0, z1, z2⟩ := hyf.cells
  obtain ⟨v0, v1, v2⟩ := hyf.soft
  obtain ⟨r0, r1, r2⟩ := hrf.cells
  obtain ⟨s0, s1, s2⟩ := hrf.soft
  go_wp2
  refine bodyPost_ret (v := cluV (ansK S n (2, (x : Int), b))) (by rw [HV.out]; simp [results, Tryz.results86, go_sem, r0, r1, r2, cluV]) rfl ⟨rfl, ?_⟩
  exact (((gf.setCell (by simp) _).drew.setCell (by simp; omega) _).setCell (by simp; omega) _).setCell (by simp; omega) _


set_option maxRecDepth 20000 in
set_option maxHeartbeats 4000000 in
theorem answered3_any (S : List Nat) (n base k cap : Nat) (A : Option Addr) (a b : Int) (w : World) (hn : n ≤ 4) (hk : k = S.length) (hs : k ≤ 1048576) (hS : ∀ t ∈ S, t < 2^n) (h1 : w.ownsRow base 69 1 (.slice A k cap) k (setsV S)) (hask : AskK n (3, a, b)) :
    Calls Tryz.prog 86 #[.agg #[.int .i64 n, .slice A k cap], .agg #[.int .i64 3, .int .i64 a, .int .i64 b]] w fun e w' => e = .returned (cluV (ansK S n (3, a, b))) ∧ Below w.heap.size w w' := by
  have hS5 : ∀ t ∈ S, t < 512 := fun t ht => by have := hS t ht; have : 2^n ≤ 2^9 := Nat.pow_le_pow_right (by omega) (by omega); omega
  have hSG : ∀ i, i < S.length → S.getD i 0 < 2^n := fun i hi => by
    rw [List.getD_eq_getElem?_getD, List.getElem?_eq_getElem hi]
    exact hS _ (List.getElem_mem hi)
  have b3 : Below w.heap.size w (((w.alloc (.cells #[.int .i64 n, .slice A k cap] 46)).alloc (.cells #[.int .i64 3, .int .i64 a, .int .i64 b] 62)).alloc (.cells #[.int .i64 0, .int .i64 0, .int .i64 0] 62)) := ((below1 w _).alloc (by simp) _).alloc (by simp; omega) _
  have hx := ((BoxT.new 46 w (.int .i64 n) (.slice A k cap)).alloc (.cells #[.int .i64 3, .int .i64 a, .int .i64 b] 62)).alloc (.cells #[.int .i64 0, .int .i64 0, .int .i64 0] 62)
  have hy := (Bx3.new 62 (w.alloc (.cells #[.int .i64 n, .slice A k cap] 46)) (.int .i64 3) (.int .i64 a) (.int .i64 b)).alloc (.cells #[.int .i64 0, .int .i64 0, .int .i64 0] 62)
  have hr := Bx3.new 62 ((w.alloc (.cells #[.int .i64 n, .slice A k cap] 46)).alloc (.cells #[.int .i64 3, .int .i64 a, .int .i64 b] 62)) (.int .i64 0) (.int .i64 0) (.int .i64 0)
  simp only [World.size_alloc] at hy hr
  have HO := Lib.hid (fun W (hb : Below w.heap.size w W) => owns_now h1 hb)
  have HQ := Lib.hid (fun W => question3_any a b W)
  have t0 := fun v W => run_assert_no (t := 128) Tryz.underlying122 (by decide) zeroSQ v 119 W
  have t1 := fun v W => run_assert_no (t := 128) Tryz.underlying124 (by decide) zeroCQ v 119 W
  have t2 := fun v W => run_assert_no (t := 128) Tryz.underlying126 (by decide) zeroVQ v 119 W
  have t3 := fun v W => run_assert_yes Tryz.underlying128 v 119 W
  obtain ⟨ha0, ha1⟩ := hask.2.2.2 (by simp)
  simp only at ha0 ha1
  obtain ⟨x, rfl⟩ : ∃ x : Nat, a = (x : Int) := ⟨a.toNat, by omega⟩
  have hx2 : x < n := by omega
  have HV := Lib.hid (show ansK S n (3, (x : Int), b) = (3, (x : Int), ((cnt (swP (winS S) x) (2^n) : Nat) : Int)) from rfl)
  have HKK := Lib.hid hk
  clear h1 hask hk
  obtain ⟨y0, y1, y2⟩ := hy.cells
  go_enter Tryz.func86, Tryz.ntmps86
  go_wp2_with fail
  refine (HQ.out _).mono ?_
  rintro e w1 ⟨rfl, hb1⟩
  have g1 := bfrom b3 hb1
  have hz1 := hb1.size
  simp only [World.size_alloc] at hz1
  have hx1 := hx.now hb1
  have hy1 := hy.now hb1
  have hr1 := hr.now hb1
  clear hx hy hr b3 hb1 y0 y1 y2
  have b2 := below1 w1 (.cells #[.int .i64 (x : Int)] 128)
  have g2 := bfrom g1 b2
  have hx2' := hx1.now b2
  have hy2 := hy1.now b2
  have hr2 := hr1.now b2
  obtain ⟨c0, c1⟩ := hx2'.cells
  have cq : (w1.alloc (.cells #[.int .i64 (x : Int)] 128)).cell? ⟨w1.heap.size, 0, none⟩ = some (.int .i64 (x : Int)) := by
    have h := heap_alloc_new w1 (.cells #[.int .i64 (x : Int)] 128)
    generalize w1.alloc (.cells #[.int .i64 (x : Int)] 128) = W at *
    simp [World.cell?, h]
  go_wp2_with fail
  refine (countSwingsP_any (winS S) _ _ _ n x _ (by omega) hx2 (gWins_asks S n base k cap n A _ (by omega) HKK.out hs hS5 (HO.out _ g2))).mono ?_
  rintro e w3 ⟨rfl, hb3⟩
  have g3 := bfrom g2 hb3
  have hyf := hy2.now hb3
  have hrf := hr2.now hb3
  have hz3 := g3.size
  generalize cnt (swP (winS S) x) (2^n) = rr at *
  have gf := g3
  obtain ⟨z0, z1, z2⟩ := hyf.cells
  obtain ⟨v0, v1, v2⟩ := hyf.soft
  obtain ⟨r0, r1, r2⟩ := hrf.cells
  obtain ⟨s0, s1, s2⟩ := hrf.soft
  go_wp2
  refine bodyPost_ret (v := cluV (ansK S n (3, (x : Int), b))) (by rw [HV.out]; simp [results, Tryz.results86, go_sem, r0, r1, r2, cluV]) rfl ⟨rfl, ?_⟩
  exact (((gf.setCell (by simp) _).setCell (by simp; omega) _).setCell (by simp; omega) _).setCell (by simp; omega) _

set_option maxRecDepth 20000 in
set_option maxHeartbeats 4000000 in
theorem answered4_any (S : List Nat) (n base k cap : Nat) (A : Option Addr) (a b : Int) (w : World) (hn : n ≤ 4) (hk : k = S.length) (hs : k ≤ 1048576) (hS : ∀ t ∈ S, t < 2^n) (h1 : w.ownsRow base 69 1 (.slice A k cap) k (setsV S)) (_hask : AskK n (4, a, b)) :
    Calls Tryz.prog 86 #[.agg #[.int .i64 n, .slice A k cap], .agg #[.int .i64 4, .int .i64 a, .int .i64 b]] w fun e w' => e = .returned (cluV (ansK S n (4, a, b))) ∧ Below w.heap.size w w' := by
  have hS5 : ∀ t ∈ S, t < 512 := fun t ht => by have := hS t ht; have : 2^n ≤ 2^9 := Nat.pow_le_pow_right (by omega) (by omega); omega
  have hSG : ∀ i, i < S.length → S.getD i 0 < 2^n := fun i hi => by
    rw [List.getD_eq_getElem?_getD, List.getElem?_eq_getElem hi]
    exact hS _ (List.getElem_mem hi)
  have b3 : Below w.heap.size w (((w.alloc (.cells #[.int .i64 n, .slice A k cap] 46)).alloc (.cells #[.int .i64 4, .int .i64 a, .int .i64 b] 62)).alloc (.cells #[.int .i64 0, .int .i64 0, .int .i64 0] 62)) := ((below1 w _).alloc (by simp) _).alloc (by simp; omega) _
  have hx := ((BoxT.new 46 w (.int .i64 n) (.slice A k cap)).alloc (.cells #[.int .i64 4, .int .i64 a, .int .i64 b] 62)).alloc (.cells #[.int .i64 0, .int .i64 0, .int .i64 0] 62)
  have hy := (Bx3.new 62 (w.alloc (.cells #[.int .i64 n, .slice A k cap] 46)) (.int .i64 4) (.int .i64 a) (.int .i64 b)).alloc (.cells #[.int .i64 0, .int .i64 0, .int .i64 0] 62)
  have hr := Bx3.new 62 ((w.alloc (.cells #[.int .i64 n, .slice A k cap] 46)).alloc (.cells #[.int .i64 4, .int .i64 a, .int .i64 b] 62)) (.int .i64 0) (.int .i64 0) (.int .i64 0)
  simp only [World.size_alloc] at hy hr
  have HO := Lib.hid (fun W (hb : Below w.heap.size w W) => owns_now h1 hb)
  have HQ := Lib.hid (fun W => question4_any a b W)
  have t0 := fun v W => run_assert_no (t := 129) Tryz.underlying122 (by decide) zeroSQ v 119 W
  have t1 := fun v W => run_assert_no (t := 129) Tryz.underlying124 (by decide) zeroCQ v 119 W
  have t2 := fun v W => run_assert_no (t := 129) Tryz.underlying126 (by decide) zeroVQ v 119 W
  have t3 := fun v W => run_assert_no (t := 129) Tryz.underlying128 (by decide) zeroWQ v 119 W
  have t4 := fun v W => run_assert_yes Tryz.underlying129 v 119 W
  have HV := Lib.hid (show ansK S n (4, a, b) = (4, ((asN (allK (properS (winS S) n) (2^n)) : Nat) : Int), b) from rfl)
  have HKK := Lib.hid hk
  clear h1 _hask hk
  obtain ⟨y0, y1, y2⟩ := hy.cells
  go_enter Tryz.func86, Tryz.ntmps86
  go_wp2_with fail
  refine (HQ.out _).mono ?_
  rintro e w1 ⟨rfl, hb1⟩
  have g1 := bfrom b3 hb1
  have hz1 := hb1.size
  simp only [World.size_alloc] at hz1
  have hx1 := hx.now hb1
  have hy1 := hy.now hb1
  have hr1 := hr.now hb1
  clear hx hy hr b3 hb1 y0 y1 y2
  have b2 := below1 w1 (.cells #[] 129)
  have g2 := bfrom g1 b2
  have hx2' := hx1.now b2
  have hy2 := hy1.now b2
  have hr2 := hr1.now b2
  obtain ⟨c0, c1⟩ := hx2'.cells
  go_wp2_with fail
  refine (gProper_any S n base k cap A _ (by omega) HKK.out hs hS5 (HO.out _ g2)).mono ?_
  rintro e w3 ⟨rfl, hb3⟩
  have g3 := bfrom g2 hb3
  have hyf := hy2.now hb3
  have hrf := hr2.now hb3
  have hz3 := g3.size
  have HA := Lib.hid (fun W => asAnswer_any (allK (properS (winS S) n) (2^n)) W)
  generalize allK (properS (winS S) n) (2^n) = r at *
  go_wp2_with fail
  refine (HA.out _).mono ?_
  rintro e w4 ⟨rfl, rfl⟩
  generalize asN r = rr at *
  have gf := g3
  obtain ⟨z0, z1, z2⟩ := hyf.cells
  obtain ⟨v0, v1, v2⟩ := hyf.soft
  obtain ⟨r0, r1, r2⟩ := hrf.cells
  obtain ⟨s0, s1, s2⟩ := hrf.soft
  go_wp2
  refine bodyPost_ret (v := cluV (ansK S n (4, a, b))) (by rw [HV.out]; simp [results, Tryz.results86, go_sem, r0, r1, r2, cluV]) rfl ⟨rfl, ?_⟩
  exact (((gf.setCell (by simp) _).setCell (by simp; omega) _).setCell (by simp; omega) _).setCell (by simp; omega) _

set_option maxRecDepth 20000 in
set_option maxHeartbeats 4000000 in
theorem answered5_any (S : List Nat) (n base k cap : Nat) (A : Option Addr) (a b : Int) (w : World) (hn : n ≤ 4) (hk : k = S.length) (hs : k ≤ 1048576) (hS : ∀ t ∈ S, t < 2^n) (h1 : w.ownsRow base 69 1 (.slice A k cap) k (setsV S)) (_hask : AskK n (5, a, b)) :
    Calls Tryz.prog 86 #[.agg #[.int .i64 n, .slice A k cap], .agg #[.int .i64 5, .int .i64 a, .int .i64 b]] w fun e w' => e = .returned (cluV (ansK S n (5, a, b))) ∧ Below w.heap.size w w' := by
  have hS5 : ∀ t ∈ S, t < 512 := fun t ht => by have := hS t ht; have : 2^n ≤ 2^9 := Nat.pow_le_pow_right (by omega) (by omega); omega
  have hSG : ∀ i, i < S.length → S.getD i 0 < 2^n := fun i hi => by
    rw [List.getD_eq_getElem?_getD, List.getElem?_eq_getElem hi]
    exact hS _ (List.getElem_mem hi)
  have b3 : Below w.heap.size w (((w.alloc (.cells #[.int .i64 n, .slice A k cap] 46)).alloc (.cells #[.int .i64 5, .int .i64 a, .int .i64 b] 62)).alloc (.cells #[.int .i64 0, .int .i64 0, .int .i64 0] 62)) := ((below1 w _).alloc (by simp) _).alloc (by simp; omega) _
  have hx := ((BoxT.new 46 w (.int .i64 n) (.slice A k cap)).alloc (.cells #[.int .i64 5, .int .i64 a, .int .i64 b] 62)).alloc (.cells #[.int .i64 0, .int .i64 0, .int .i64 0] 62)
  have hy := (Bx3.new 62 (w.alloc (.cells #[.int .i64 n, .slice A k cap] 46)) (.int .i64 5) (.int .i64 a) (.int .i64 b)).alloc (.cells #[.int .i64 0, .int .i64 0, .int .i64 0] 62)
  have hr := Bx3.new 62 ((w.alloc (.cells #[.int .i64 n, .slice A k cap] 46)).alloc (.cells #[.int .i64 5, .int .i64 a, .int .i64 b] 62)) (.int .i64 0) (.int .i64 0) (.int .i64 0)
  simp only [World.size_alloc] at hy hr
  have HO := Lib.hid (fun W (hb : Below w.heap.size w W) => owns_now h1 hb)
  have HQ := Lib.hid (fun W => question5_any a b W)
  have t0 := fun v W => run_assert_no (t := 130) Tryz.underlying122 (by decide) zeroSQ v 119 W
  have t1 := fun v W => run_assert_no (t := 130) Tryz.underlying124 (by decide) zeroCQ v 119 W
  have t2 := fun v W => run_assert_no (t := 130) Tryz.underlying126 (by decide) zeroVQ v 119 W
  have t3 := fun v W => run_assert_no (t := 130) Tryz.underlying128 (by decide) zeroWQ v 119 W
  have t4 := fun v W => run_assert_no (t := 130) Tryz.underlying129 (by decide) zeroPQ v 119 W
  have t5 := fun v W => run_assert_yes Tryz.underlying130 v 119 W
  have HV := Lib.hid (show ansK S n (5, a, b) = (5, ((asN (allK (strongS (winS S) n) (2^n)) : Nat) : Int), b) from rfl)
  have HKK := Lib.hid hk
  clear h1 _hask hk
  obtain ⟨y0, y1, y2⟩ := hy.cells
  go_enter Tryz.func86, Tryz.ntmps86
  go_wp2_with fail
  refine (HQ.out _).mono ?_
  rintro e w1 ⟨rfl, hb1⟩
  have g1 := bfrom b3 hb1
  have hz1 := hb1.size
  simp only [World.size_alloc] at hz1
  have hx1 := hx.now hb1
  have hy1 := hy.now hb1
  have hr1 := hr.now hb1
  clear hx hy hr b3 hb1 y0 y1 y2
  have b2 := below1 w1 (.cells #[] 130)
  have g2 := bfrom g1 b2
  have hx2' := hx1.now b2
  have hy2 := hy1.now b2
  have hr2 := hr1.now b2
  obtain ⟨c0, c1⟩ := hx2'.cells
  go_wp2_with fail
  refine (gStrong_any S n base k cap A _ (by omega) HKK.out hs hS5 (HO.out _ g2)).mono ?_
  rintro e w3 ⟨rfl, hb3⟩
  have g3 := bfrom g2 hb3
  have hyf := hy2.now hb3
  have hrf := hr2.now hb3
  have hz3 := g3.size
  have HA := Lib.hid (fun W => asAnswer_any (allK (strongS (winS S) n) (2^n)) W)
  generalize allK (strongS (winS S) n) (2^n) = r at *
  go_wp2_with fail
  refine (HA.out _).mono ?_
  rintro e w4 ⟨rfl, rfl⟩
  generalize asN r = rr at *
  have gf := g3
  obtain ⟨z0, z1, z2⟩ := hyf.cells
  obtain ⟨v0, v1, v2⟩ := hyf.soft
  obtain ⟨r0, r1, r2⟩ := hrf.cells
  obtain ⟨s0, s1, s2⟩ := hrf.soft
  go_wp2
  refine bodyPost_ret (v := cluV (ansK S n (5, a, b))) (by rw [HV.out]; simp [results, Tryz.results86, go_sem, r0, r1, r2, cluV]) rfl ⟨rfl, ?_⟩
  exact (((gf.setCell (by simp) _).setCell (by simp; omega) _).setCell (by simp; omega) _).setCell (by simp; omega) _

theorem answered_any (S : List Nat) (n base k cap : Nat) (A : Option Addr) (kk a b : Int) (w : World) (hn : n ≤ 4) (hk : k = S.length) (hs : k ≤ 1048576) (hS : ∀ t ∈ S, t < 2^n) (h1 : w.ownsRow base 69 1 (.slice A k cap) k (setsV S)) (hask : AskK n (kk, a, b)) :
    Calls Tryz.prog 86 #[.agg #[.int .i64 n, .slice A k cap], .agg #[.int .i64 kk, .int .i64 a, .int .i64 b]] w fun e w' => e = .returned (cluV (ansK S n (kk, a, b))) ∧ Below w.heap.size w w' := by
  have h : kk = 0 ∨ kk = 1 ∨ kk = 2 ∨ kk = 3 ∨ kk = 4 ∨ kk = 5 := by have := hask.1; have := hask.2.1; simp only at *; omega
  rcases h with rfl | rfl | rfl | rfl | rfl | rfl
  · exact answered0_any S n base k cap A a b w hn hk hs hS h1 hask
  · exact answered1_any S n base k cap A a b w hn hk hs hS h1 hask
  · exact answered2_any S n base k cap A a b w hn hk hs hS h1 hask
  · exact answered3_any S n base k cap A a b w hn hk hs hS h1 hask
  · exact answered4_any S n base k cap A a b w hn hk hs hS h1 hask
  · exact answered5_any S n base k cap A a b w hn hk hs hS h1 hask

theorem ansK_fit (S : List Nat) (n : Nat) (c : Clu) : (ansK S n c = c) ↔ fitK S n c = true := by
  obtain ⟨k, a, b⟩ := c
  unfold ansK fitK
  by_cases h : k = 1 ∨ 3 < k
  · rw [if_pos h, if_pos h]; simp
  · rw [if_neg h, if_neg h]; simp

theorem eq_clue (x y z k a b : Int) (W : World) : (binOp .eql 62 (.agg #[.int .i64 x, .int .i64 y, .int .i64 z]) (.agg #[.int .i64 k, .int .i64 a, .int .i64 b])).run Tryz.prog W = .ok (.bool (decide ((x, y, z) = (k, a, b)))) W := by
  have hi : ∀ W, (isAgg 3).run Tryz.prog W = .ok false W := fun W => by simp [isAgg, run_underlying Tryz.underlying3]
  have he : ∀ (p q : Int) W, (Op.equalIn 9999 3 (.int .i64 p) (.int .i64 q)).run Tryz.prog W = .ok (p == q) W := fun p q W => run_equalIn_int W 9998 3 .i64 .i64 p q Tryz.underlying3
  rw [run_eql_struct, run_equalIn_struct W 9999 62 _ _ (by unfold Program.fieldsOf; rw [Tryz.underlying62]) (by kernel_rfl)]
  unfold Program.fieldsOf
  rw [Tryz.underlying62]
  by_cases h1 : x = k <;> by_cases h2 : y = a <;> by_cases h3 : z = b <;> simp [Op.eqFields, part, hi, he, Result.andThen, h1, h2, h3]

set_option maxRecDepth 20000 in
set_option maxHeartbeats 4000000 in
theorem fits_any (S : List Nat) (n base k cap : Nat) (A : Option Addr) (kk a b : Int) (w : World) (hn : n ≤ 4) (hk : k = S.length) (hs : k ≤ 1048576) (hS : ∀ t ∈ S, t < 2^n) (h1 : w.ownsRow base 69 1 (.slice A k cap) k (setsV S)) (hask : AskK n (kk, a, b)) :
    Calls Tryz.prog 80 #[.agg #[.int .i64 n, .slice A k cap], .agg #[.int .i64 kk, .int .i64 a, .int .i64 b]] w fun e w' => e = .returned (.bool (fitK S n (kk, a, b))) ∧ Below w.heap.size w w' := by
  have b0 : Below w.heap.size w ((w.alloc (.cells #[.int .i64 n, .slice A k cap] 46)).alloc (.cells #[.int .i64 kk, .int .i64 a, .int .i64 b] 62)) := (below1 w _).alloc (by simp) _
  have hx := (BoxT.new 46 w (.int .i64 n) (.slice A k cap)).alloc (.cells #[.int .i64 kk, .int .i64 a, .int .i64 b] 62)
  have hy := Bx3.new 62 (w.alloc (.cells #[.int .i64 n, .slice A k cap] 46)) (.int .i64 kk) (.int .i64 a) (.int .i64 b)
  simp only [World.size_alloc] at hy
  obtain ⟨c0, c1⟩ := hx.cells
  obtain ⟨d0, d1, d2⟩ := hy.cells
  obtain ⟨w0, hw0⟩ : ∃ w0, w0 = (w.alloc (.cells #[.int .i64 n, .slice A k cap] 46)).alloc (.cells #[.int .i64 kk, .int .i64 a, .int .i64 b] 62) := ⟨_, rfl⟩
  have HO := Lib.hid (show w0.ownsRow base 69 1 (.slice A k cap) k (setsV S) from by rw [hw0]; exact owns_now h1 b0)
  have HA := Lib.hid (fun W h => answered_any S n base k cap A kk a b W hn hk hs hS h hask)
  have K := Lib.hid (show ∀ W, Below w0.heap.size w0 W → (W.cell? ⟨w.heap.size, 0, none⟩ = some (.int .i64 n) ∧ W.cell? ⟨w.heap.size, 1, none⟩ = some (.slice A k cap) ∧ W.cell? ⟨w.heap.size + 1, 0, none⟩ = some (.int .i64 kk) ∧ W.cell? ⟨w.heap.size + 1, 1, none⟩ = some (.int .i64 a) ∧ W.cell? ⟨w.heap.size + 1, 2, none⟩ = some (.int .i64 b)) from fun W hb => by
    rw [hw0] at hb
    exact ⟨(hx.now hb).cells.1, (hx.now hb).cells.2, (hy.now hb).cells.1, (hy.now hb).cells.2.1, (hy.now hb).cells.2.2⟩)
  have HF := Lib.hid (ansK_fit S n (kk, a, b))
  have HB0 := Lib.hid (show Below w.heap.size w w0 from by rw [hw0]; exact b0)
  have HEQ := Lib.hid (show ∀ (x y z : Int) W, (binOp .eql 62 (.agg #[.int .i64 x, .int .i64 y, .int .i64 z]) (.agg #[.int .i64 kk, .int .i64 a, .int .i64 b])).run Tryz.prog W = .ok (.bool (decide ((x, y, z) = (kk, a, b)))) W from fun x y z W => eq_clue x y z kk a b W)
  obtain ⟨⟨x, y, z⟩, hc⟩ : ∃ c, c = ansK S n (kk, a, b) := ⟨_, rfl⟩
  rw [← hc] at HA HF
  have HA2 := Lib.hid (show ∀ W, W.ownsRow base 69 1 (.slice A k cap) k (setsV S) → Calls Tryz.prog 86 #[.agg #[.int .i64 n, .slice A k cap], .agg #[.int .i64 kk, .int .i64 a, .int .i64 b]] W fun e w' => e = .returned (.agg #[.int .i64 x, .int .i64 y, .int .i64 z]) ∧ Below W.heap.size W w' from fun W h => HA.out W h)
  clear HA
  have hd := HEQ.out x y z
  have HFF := Lib.hid (show decide ((x, y, z) = (kk, a, b)) = fitK S n (kk, a, b) from by
    cases hf : fitK S n (kk, a, b) with
    | true => exact decide_eq_true (HF.out.2 hf)
    | false => exact decide_eq_false (fun e => by have := HF.out.1 e; rw [hf] at this; cases this))
  rw [HFF.out] at hd
  generalize fitK S n (kk, a, b) = r at *
  clear hc hx hy hk hS h1 hask b0
  go_enter Tryz.func80, Tryz.ntmps80
  go_wp2_with fail
  rw [← hw0]
  rw [← hw0] at c0 c1 d0 d1 d2
  clear hw0
  go_region_held3 (fun w' => w'.cell? ⟨w.heap.size, 0, none⟩ = some (.int .i64 n) ∧ w'.cell? ⟨w.heap.size, 1, none⟩ = some (.slice A k cap) ∧ w'.cell? ⟨w.heap.size + 1, 0, none⟩ = some (.int .i64 kk) ∧ w'.cell? ⟨w.heap.size + 1, 1, none⟩ = some (.int .i64 a) ∧ w'.cell? ⟨w.heap.size + 1, 2, none⟩ = some (.int .i64 b))
    (first | exact ⟨c0, c1, d0, d1, d2⟩ | exact hk2 | go_keep)
    (first
      | (go_at_call 86; refine (HA2.out _ HO.out.drew).mono ?_; rintro e w2 ⟨rfl, hb2⟩; have b2 := bfrom (Below.refl _ _).drew hb2; have hk2 := K.out _ b2)
      | fail)
  go_wp2
  go_ret
  exact ⟨rfl, bfrom HB0.out b2⟩
end Go.Proofs.YtnldodnpakpeeaaGreat

namespace Go.Proofs.YtnldodnpakpeeaaGreat
open Go.RowKit Vo

theorem andK_bit (d : Nat) (S : List Nat) (x : Nat) : ∀ k, (andK d S k).testBit x = (d.testBit x && allK (fun i => (S.getD i 0).testBit x) k)
  | 0 => by simp [andK, allK]
  | k+1 => by simp only [andK, allK, Nat.testBit_and, andK_bit d S x k, Bool.and_assoc]
theorem partB_co {n x t : Nat} (hx : x < n) (ht : t < 2^n) : partB (2^n - 1 - 2^x) t = !t.testBit x := by
  have hp : 2^x < 2^n := Nat.pow_lt_pow_right (by omega) hx
  have hco : ∀ j, (2^n - 1 - 2^x).testBit j = (decide (j < n) && !(2^x).testBit j) := fun j => testBit_co hp
  cases hb : t.testBit x with
  | true =>
    refine decide_eq_false fun e => ?_
    have h := congrArg (fun z => z.testBit x) e
    simp only [Nat.testBit_and, hco, hb, Nat.testBit_two_pow_self] at h
    simp at h
  | false =>
    refine decide_eq_true ?_
    apply Nat.eq_of_testBit_eq
    intro j
    rw [Nat.testBit_and, hco]
    cases hj : t.testBit j with
    | false => simp
    | true =>
      have hjn : j < n := by
        rcases Nat.lt_or_ge j n with h | h
        · exact h
        · have : t < 2^j := Nat.lt_of_lt_of_le ht (Nat.pow_le_pow_right (by omega) h)
          rw [Nat.testBit_lt_two_pow this] at hj; cases hj
      have hne : x ≠ j := fun e => by rw [e, hj] at hb; cases hb
      rw [Nat.testBit_two_pow_of_ne hne]
      simp [hjn]
theorem any_not_all (S : List Nat) (x : Nat) : S.any (fun t => !t.testBit x) = !allK (fun i => (S.getD i 0).testBit x) S.length := by
  cases h : S.any (fun t => !t.testBit x) with
  | true =>
    obtain ⟨t, ht, hb⟩ := List.any_eq_true.1 h
    obtain ⟨i, hi, rfl⟩ := List.getElem_of_mem ht
    have : allK (fun i => (S.getD i 0).testBit x) S.length = false := allK_false i hi (by
      rw [List.getD_eq_getElem?_getD, List.getElem?_eq_getElem hi]
      simpa using hb)
    rw [this]; rfl
  | false =>
    have : allK (fun i => (S.getD i 0).testBit x) S.length = true := allK_iff.2 fun i hi => by
      have := List.any_eq_false.1 h _ (List.getElem_mem hi)
      rw [List.getD_eq_getElem?_getD, List.getElem?_eq_getElem hi]
      simpa using this
    rw [this]; rfl
theorem veto_eq {S : List Nat} {n x : Nat} (hx : x < n) (hS : ∀ t ∈ S, t < 2^n) : vetoB S n x = !winS S (2^n - 1 - 2^x) := by
  have h1 : winS S (2^n - 1 - 2^x) = S.any (fun t => !t.testBit x) := by
    unfold winS
    apply Bool.eq_iff_iff.2
    simp only [List.any_eq_true]
    constructor
    · rintro ⟨t, ht, h⟩; exact ⟨t, ht, by rw [← partB_co hx (hS t ht)]; exact h⟩
    · rintro ⟨t, ht, h⟩; exact ⟨t, ht, by rw [partB_co hx (hS t ht)]; exact h⟩
  have hp : (2^n - 1).testBit x = true := by rw [Nat.testBit_two_pow_sub_one]; simpa using hx
  unfold vetoB
  rw [andK_bit, hp, Bool.true_and, h1, any_not_all, Bool.not_not]

/-- What sets that win tell to a clue. -/
def valP (p : Nat → Bool) (n : Nat) (k a : Int) : Nat :=
  if k = 0 then asN (p a.toNat)
  else if k = 1 then cnt p (2^n)
  else if k = 2 then asN (!p (2^n - 1 - 2^a.toNat))
  else if k = 3 then cnt (swP p a.toNat) (2^n)
  else if k = 4 then asN (allK (properS p n) (2^n))
  else asN (allK (strongS p n) (2^n))
theorem valP_valK {S : List Nat} {n : Nat} {k a b : Int} (hS : ∀ t ∈ S, t < 2^n) (h : AskK n (k, a, b)) : valP (winS S) n k a = valK S n (k, a, b) := by
  unfold valP valK
  simp only
  by_cases h2 : k = 2
  · subst h2
    obtain ⟨h0, h1⟩ := h.2.2.2 (Or.inl rfl)
    simp only at h0 h1
    rw [veto_eq (by omega) hS]
  · rw [if_neg h2, if_neg h2]
theorem valP_flat {p : Nat → Bool} {n : Nat} {k a a' : Int} (h : k = 1 ∨ 3 < k) : valP p n k a = valP p n k a' := by
  unfold valP
  rcases h with h | h
  · subst h; rfl
  · have h0 : ¬ k = 0 := by omega
    have h1 : ¬ k = 1 := by omega
    have h2 : ¬ k = 2 := by omega
    have h3 : ¬ k = 3 := by omega
    simp only [if_neg h0, if_neg h1, if_neg h2, if_neg h3]

set_option maxHeartbeats 400000 in
theorem pzOne_any (b : Bool) (w : World) :
    Calls Tryz.prog 72 #[.bool b] w fun e w' => e = .returned (.int .i64 (asN b : Nat)) ∧ w = w' := by
  cases b
  all_goals
    go_enter Tryz.func72, Tryz.ntmps72
    go_wp2
    go_ret
    exact ⟨rfl, rfl⟩

set_option maxRecDepth 20000 in
set_option maxHeartbeats 4000000 in
theorem pzValue0_any (p : Nat → Bool) (n g cap : Nat) (x : Nat) (w : World) (hn : n ≤ 4) (hw : Own w g 4 (2^n) (fun j => .bool (p j))) (hx : x < 2^n) :
    Calls Tryz.prog 64 #[.int .i64 0, .int .i64 x, .slice (some ⟨g, 0, none⟩) (2^n : Nat) cap] w fun e w' => e = .returned (.int .i64 (asN (p x) : Nat)) ∧ Below w.heap.size w w' := by
  have HONE := Lib.hid (fun (b : Bool) W => pzOne_any b W)
  have hN16 : 2^n ≤ 16 := Nat.pow_le_pow_right (n := 2) (by omega) hn
  have hpos := Nat.two_pow_pos n
  have hcell := hw.cell hx
  generalize p x = r at *
  clear hw
  obtain ⟨N, hN⟩ : ∃ N, N = 2^n := ⟨_, rfl⟩
  rw [← hN] at hx hN16 hpos ⊢
  clear hN
  go_enter Tryz.func64, Tryz.ntmps64
  go_wp2_with fail
  refine (HONE.out r _).mono ?_
  rintro e w1 ⟨rfl, rfl⟩
  go_wp2
  go_ret
  exact ⟨rfl, Below.refl _ _⟩

set_option maxRecDepth 20000 in
set_option maxHeartbeats 4000000 in
theorem pzValue1_any (p : Nat → Bool) (n g cap : Nat) (a : Int) (w : World) (hn : n ≤ 4) (hw : Own w g 4 (2^n) (fun j => .bool (p j))) :
    Calls Tryz.prog 64 #[.int .i64 1, .int .i64 a, .slice (some ⟨g, 0, none⟩) (2^n : Nat) cap] w fun e w' => e = .returned (.int .i64 (cnt p (2^n) : Nat)) ∧ Below w.heap.size w w' := by
  have HONE := Lib.hid (fun (b : Bool) W => pzOne_any b W)
  have hN16 : 2^n ≤ 16 := Nat.pow_le_pow_right (n := 2) (by omega) hn
  have hpos := Nat.two_pow_pos n
  obtain ⟨N, hN⟩ : ∃ N, N = 2^n := ⟨_, rfl⟩
  rw [← hN] at hw hN16 hpos ⊢
  clear hN
  have HO := Lib.hid hw
  clear hw
  go_enter Tryz.func64, Tryz.ntmps64
  go_wp2
  go_loopw [8, 10, 27] (fun c _ i wr => ∃ j : Nat, j ≤ N ∧ i = .int .i64 j ∧ c = .int .i64 (cnt p j : Nat) ∧ wr = w) (fun _ _ i _ => N - (intOf i).toNat)
  case atStart => exact ⟨0, Nat.zero_le _, rfl, rfl, rfl⟩
  case round =>
    obtain ⟨j, hj, rfl, rfl, rfl⟩ := hrel
    have hcl := cnt_le p j
    by_cases hlt : j < N
    · have hcell := HO.out.cell hlt
      have HS := Lib.hid (show cnt p (j+1) = cnt p j + asN (p j) from rfl)
      have hal := asN_le (p j)
      have HON := Lib.hid (fun W => HONE.out (p j) W)
      generalize cnt p j = t at *
      generalize asN (p j) = q at *
      generalize p j = r at *
      go_wp2_with fail
      refine (HON.out _).mono ?_
      rintro e w1 ⟨rfl, rfl⟩
      go_wp2
      go_roundw
      case rel => exact ⟨j + 1, by omega, by go_num, by rw [HS.out]; first | rfl | simp, trivial⟩
      case measure => simp [intOf]; omega
    · obtain rfl : j = N := by omega
      go_wp2
      go_ret
      exact ⟨rfl, Below.refl _ _⟩

set_option maxRecDepth 20000 in
set_option maxHeartbeats 4000000 in
theorem pzValue2_any (p : Nat → Bool) (n g cap : Nat) (x : Nat) (w : World) (hn : n ≤ 4) (hw : Own w g 4 (2^n) (fun j => .bool (p j))) (hx : x < n) :
    Calls Tryz.prog 64 #[.int .i64 2, .int .i64 x, .slice (some ⟨g, 0, none⟩) (2^n : Nat) cap] w fun e w' => e = .returned (.int .i64 (asN (!p (2^n - 1 - 2^x)) : Nat)) ∧ Below w.heap.size w w' := by
  have HONE := Lib.hid (fun (b : Bool) W => pzOne_any b W)
  have hN16 : 2^n ≤ 16 := Nat.pow_le_pow_right (n := 2) (by omega) hn
  have hpos := Nat.two_pow_pos n
  have hxp : 2^x < 2^n := Nat.pow_lt_pow_right (by omega) hx
  have hcell := hw.cell (i := 2^n - 1 - 2^x) (Nat.lt_of_le_of_lt (Nat.sub_le _ _) (Nat.sub_lt hpos (Nat.one_pos)))
  have hpc : (2 : Int)^x = ((2^x : Nat) : Int) := by simp
  obtain ⟨X, hX⟩ : ∃ X, X = 2^x := ⟨_, rfl⟩
  rw [← hX] at hxp hcell hpc ⊢
  clear hX
  obtain ⟨N, hN⟩ : ∃ N, N = 2^n := ⟨_, rfl⟩
  rw [← hN] at hw hN16 hpos ⊢
  rw [← hN] at hxp hcell
  clear hN hw
  have hwr : IntKind.i64.wrap (X : Int) = (X : Int) := IntWalk.i64_in _ (by omega)
  have hcoi : ((N : Int) - 1 - X).toNat = N - 1 - X := by omega
  have h0 : (0 : Int) ≤ (N : Int) - 1 - X := by omega
  have h1 : (N : Int) - 1 - X < N := by omega
  have HON := Lib.hid (fun W => HONE.out (!p (N - 1 - X)) W)
  generalize p (N - 1 - X) = r at *
  go_enter Tryz.func64, Tryz.ntmps64
  go_wp2_with fail
  refine (HON.out _).mono ?_
  rintro e w1 ⟨rfl, rfl⟩
  go_wp2
  go_ret
  exact ⟨rfl, Below.refl _ _⟩

set_option maxRecDepth 20000 in
set_option maxHeartbeats 4000000 in
theorem pzValue3_any (p : Nat → Bool) (n g cap : Nat) (x : Nat) (w : World) (hn : n ≤ 4) (hw : Own w g 4 (2^n) (fun j => .bool (p j))) (hx : x < n) :
    Calls Tryz.prog 64 #[.int .i64 3, .int .i64 x, .slice (some ⟨g, 0, none⟩) (2^n : Nat) cap] w fun e w' => e = .returned (.int .i64 (cnt (swP p x) (2^n) : Nat)) ∧ Below w.heap.size w w' := by
  have HP := Lib.hid (pwSwings_any p n x g cap w (by omega) hx hw)
  have HL := Lib.hid (show (natsL (swL p x (2^n))).length = cnt (swP p x) (2^n) from by rw [natsL_len, swL_len])
  obtain ⟨N, hN⟩ : ∃ N, N = 2^n := ⟨_, rfl⟩
  rw [← hN] at HP HL ⊢
  clear hN hw
  generalize natsL (swL p x N) = L at *
  generalize cnt (swP p x) N = r at *
  go_enter Tryz.func64, Tryz.ntmps64
  go_wp2_with fail
  refine HP.out.mono ?_
  rintro e w1 ⟨A, cp, rfl, _, hb1⟩
  rw [HL.out]
  go_wp2
  go_ret
  exact ⟨rfl, hb1⟩

set_option maxRecDepth 20000 in
set_option maxHeartbeats 4000000 in
theorem pzValue4_any (p : Nat → Bool) (n g cap : Nat) (a : Int) (w : World) (hn : n ≤ 4) (hw : Own w g 4 (2^n) (fun j => .bool (p j))) :
    Calls Tryz.prog 64 #[.int .i64 4, .int .i64 a, .slice (some ⟨g, 0, none⟩) (2^n : Nat) cap] w fun e w' => e = .returned (.int .i64 (asN (allK (properS p n) (2^n)) : Nat)) ∧ Below w.heap.size w w' := by
  have HONE := Lib.hid (fun (b : Bool) W => pzOne_any b W)
  have hN16 : 2^n ≤ 16 := Nat.pow_le_pow_right (n := 2) (by omega) hn
  have hpos := Nat.two_pow_pos n
  rw [show allK (properS p n) (2^n) = allK (fun s => !p s || !p (2^n - 1 - s)) (2^n) from rfl]
  obtain ⟨N, hN⟩ : ∃ N, N = 2^n := ⟨_, rfl⟩
  rw [← hN] at hw hN16 hpos ⊢
  clear hN
  have HO := Lib.hid hw
  clear hw
  go_enter Tryz.func64, Tryz.ntmps64
  go_wp2
  go_loopw [11, 56] (fun _ i wr => ∃ j : Nat, j ≤ N ∧ i = .int .i64 j ∧ allK (fun s => !p s || !p (N - 1 - s)) j = true ∧ wr = w) (fun _ i _ => N - (intOf i).toNat)
  case atStart => exact ⟨0, Nat.zero_le _, rfl, rfl, rfl⟩
  case round =>
    obtain ⟨k, hk, rfl, hall, rfl⟩ := hrel
    have HL := Lib.hid hall
    clear hall
    by_cases hlt : k < N
    · have hcell := HO.out.cell hlt
      have hcell2 := HO.out.cell (show N - 1 - k < N by omega)
      have HPK := Lib.hid (show allK (fun s => !p s || !p (N - 1 - s)) (k+1) = (allK (fun s => !p s || !p (N - 1 - s)) k && (!p k || !p (N - 1 - k))) from rfl)
      have HF := Lib.hid (show (!p k || !p (N - 1 - k)) = false → allK (fun s => !p s || !p (N - 1 - s)) N = false from fun h => allK_false k hlt h)
      have hcoi : ((N : Int) - 1 - k).toNat = N - 1 - k := by omega
      cases hwin : p k <;> cases hwin2 : p (N - 1 - k)
      all_goals
        rw [hwin] at hcell HPK HF
        rw [hwin2] at hcell2 HPK HF
        clear hwin hwin2
        have h0 : (0 : Int) ≤ (N : Int) - 1 - k := by omega
        have h1 : (N : Int) - 1 - k < N := by omega
        go_wp2
        first
          | (go_roundw
             case rel => exact ⟨k + 1, by omega, by go_num, by rw [HPK.out, HL.out]; rfl, trivial⟩
             case measure => simp [intOf]; omega)
          | (go_ret
             exact ⟨by rw [HF.out rfl]; rfl, Below.refl _ _⟩)
    · obtain rfl : k = N := by omega
      go_wp2
      go_ret
      exact ⟨by rw [HL.out]; rfl, Below.refl _ _⟩

set_option maxRecDepth 20000 in
set_option maxHeartbeats 4000000 in
theorem pzValue5_any (p : Nat → Bool) (n g cap : Nat) (a : Int) (w : World) (hn : n ≤ 4) (hw : Own w g 4 (2^n) (fun j => .bool (p j))) :
    Calls Tryz.prog 64 #[.int .i64 5, .int .i64 a, .slice (some ⟨g, 0, none⟩) (2^n : Nat) cap] w fun e w' => e = .returned (.int .i64 (asN (allK (strongS p n) (2^n)) : Nat)) ∧ Below w.heap.size w w' := by
  have HONE := Lib.hid (fun (b : Bool) W => pzOne_any b W)
  have hN16 : 2^n ≤ 16 := Nat.pow_le_pow_right (n := 2) (by omega) hn
  have hpos := Nat.two_pow_pos n
  rw [show allK (strongS p n) (2^n) = allK (fun s => p s || p (2^n - 1 - s)) (2^n) from rfl]
  obtain ⟨N, hN⟩ : ∃ N, N = 2^n := ⟨_, rfl⟩
  rw [← hN] at hw hN16 hpos ⊢
  clear hN
  have HO := Lib.hid hw
  clear hw
  go_enter Tryz.func64, Tryz.ntmps64
  go_wp2
  go_loopw [11, 56] (fun _ i wr => ∃ j : Nat, j ≤ N ∧ i = .int .i64 j ∧ allK (fun s => p s || p (N - 1 - s)) j = true ∧ wr = w) (fun _ i _ => N - (intOf i).toNat)
  case atStart => exact ⟨0, Nat.zero_le _, rfl, rfl, rfl⟩
  case round =>
    obtain ⟨k, hk, rfl, hall, rfl⟩ := hrel
    have HL := Lib.hid hall
    clear hall
    by_cases hlt : k < N
    · have hcell := HO.out.cell hlt
      have hcell2 := HO.out.cell (show N - 1 - k < N by omega)
      have HPK := Lib.hid (show allK (fun s => p s || p (N - 1 - s)) (k+1) = (allK (fun s => p s || p (N - 1 - s)) k && (p k || p (N - 1 - k))) from rfl)
      have HF := Lib.hid (show (p k || p (N - 1 - k)) = false → allK (fun s => p s || p (N - 1 - s)) N = false from fun h => allK_false k hlt h)
      have hcoi : ((N : Int) - 1 - k).toNat = N - 1 - k := by omega
      cases hwin : p k <;> cases hwin2 : p (N - 1 - k)
      all_goals
        rw [hwin] at hcell HPK HF
        rw [hwin2] at hcell2 HPK HF
        clear hwin hwin2
        have h0 : (0 : Int) ≤ (N : Int) - 1 - k := by omega
        have h1 : (N : Int) - 1 - k < N := by omega
        go_wp2
        first
          | (go_roundw
             case rel => exact ⟨k + 1, by omega, by go_num, by rw [HPK.out, HL.out]; rfl, trivial⟩
             case measure => simp [intOf]; omega)
          | (go_ret
             exact ⟨by rw [HF.out rfl]; rfl, Below.refl _ _⟩)
    · obtain rfl : k = N := by omega
      go_wp2
      go_ret
      exact ⟨by rw [HL.out]; rfl, Below.refl _ _⟩

theorem pzValue_any (p : Nat → Bool) (n g cap : Nat) (k a : Int) (w : World) (hn : n ≤ 4) (hw : Own w g 4 (2^n) (fun j => .bool (p j))) (h0 : 0 ≤ k) (h5 : k ≤ 5) (ha0 : k = 0 → 0 ≤ a ∧ a < (2^n : Nat)) (ha1 : k = 2 ∨ k = 3 → 0 ≤ a ∧ a < n) :
    Calls Tryz.prog 64 #[.int .i64 k, .int .i64 a, .slice (some ⟨g, 0, none⟩) (2^n : Nat) cap] w fun e w' => e = .returned (.int .i64 (valP p n k a : Nat)) ∧ Below w.heap.size w w' := by
  have h : k = 0 ∨ k = 1 ∨ k = 2 ∨ k = 3 ∨ k = 4 ∨ k = 5 := by omega
  rcases h with rfl | rfl | rfl | rfl | rfl | rfl
  · obtain ⟨x, rfl⟩ : ∃ x : Nat, a = (x : Int) := ⟨a.toNat, by have := ha0 rfl; omega⟩
    exact pzValue0_any p n g cap x w hn hw (by have := ha0 rfl; omega)
  · exact pzValue1_any p n g cap a w hn hw
  · obtain ⟨x, rfl⟩ : ∃ x : Nat, a = (x : Int) := ⟨a.toNat, by have := ha1 (Or.inl rfl); omega⟩
    exact pzValue2_any p n g cap x w hn hw (by have := ha1 (Or.inl rfl); omega)
  · obtain ⟨x, rfl⟩ : ∃ x : Nat, a = (x : Int) := ⟨a.toNat, by have := ha1 (Or.inr rfl); omega⟩
    exact pzValue3_any p n g cap x w hn hw (by have := ha1 (Or.inr rfl); omega)
  · exact pzValue4_any p n g cap a w hn hw
  · exact pzValue5_any p n g cap a w hn hw

/-- Do sets that win fit a clue? -/
def fitP (p : Nat → Bool) (n : Nat) (c : Clu) : Bool := if c.1 = 1 ∨ 3 < c.1 then decide ((valP p n c.1 0 : Int) = c.2.1) else decide ((valP p n c.1 c.2.1 : Int) = c.2.2)
theorem fitP_fitK {S : List Nat} {n : Nat} {c : Clu} (hS : ∀ t ∈ S, t < 2^n) (h : AskK n c) : fitP (winS S) n c = fitK S n c := by
  obtain ⟨k, a, b⟩ := c
  unfold fitP fitK
  simp only
  by_cases hk : k = 1 ∨ 3 < k
  · rw [if_pos hk, if_pos hk, valP_flat (a' := a) hk, valP_valK hS h]
  · rw [if_neg hk, if_neg hk, valP_valK hS h]
set_option maxRecDepth 20000 in
set_option maxHeartbeats 4000000 in
theorem pzFits_any (p : Nat → Bool) (n g cap : Nat) (k a b : Int) (w : World) (hn : n ≤ 4) (hw : Own w g 4 (2^n) (fun j => .bool (p j))) (hask : AskK n (k, a, b)) :
    Calls Tryz.prog 54 #[.agg #[.int .i64 k, .int .i64 a, .int .i64 b], .slice (some ⟨g, 0, none⟩) (2^n : Nat) cap] w fun e w' => e = .returned (.bool (fitP p n (k, a, b))) ∧ Below w.heap.size w w' := by
  have b0 := below1 w (.cells #[.int .i64 k, .int .i64 a, .int .i64 b] 62)
  have hx := Bx3.new 62 w (.int .i64 k) (.int .i64 a) (.int .i64 b)
  obtain ⟨w0, hw0⟩ : ∃ w0, w0 = w.alloc (.cells #[.int .i64 k, .int .i64 a, .int .i64 b] 62) := ⟨_, rfl⟩
  have HO := Lib.hid (show Own w0 g 4 (2^n) (fun j => .bool (p j)) from by rw [hw0]; exact hw.alloc _)
  have KX := Lib.hid (show ∀ W, Below w0.heap.size w0 W → W.cell? ⟨w.heap.size, 0, none⟩ = some (.int .i64 k) ∧ W.cell? ⟨w.heap.size, 1, none⟩ = some (.int .i64 a) ∧ W.cell? ⟨w.heap.size, 2, none⟩ = some (.int .i64 b) from fun W hb => by rw [hw0] at hb; exact (hx.now hb).cells)
  have HB0 := Lib.hid (show Below w.heap.size w w0 from by rw [hw0]; exact b0)
  obtain ⟨h0, h5, ha0, ha1⟩ := hask
  simp only at h0 h5 ha0 ha1
  obtain ⟨c0, c1, c2⟩ := KX.out w0 (Below.refl _ _)
  by_cases hk : k = 1 ∨ 3 < k
  · have HV := Lib.hid (fun W (h : Own W g 4 (2^n) (fun j => .bool (p j))) => pzValue_any p n g cap k 0 W hn h h0 h5 (fun e => by omega) (fun e => by omega))
    have HF := Lib.hid (show fitP p n (k, a, b) = decide (((valP p n k 0 : Nat) : Int) = a) from by unfold fitP; rw [if_pos hk])
    rw [HF.out]
    generalize valP p n k 0 = v at *
    obtain ⟨N, hN⟩ : ∃ N, N = 2^n := ⟨_, rfl⟩
    rw [← hN] at HV HO ⊢
    clear hN hw ha0 ha1 hx b0
    have hgo : k = 1 ∨ (¬ k = 1 ∧ 3 < k) := by omega
    clear hk
    rcases hgo with rfl | ⟨hk1, hk3⟩
    · go_enter Tryz.func54, Tryz.ntmps54
      go_wp2_with fail
      rw [← hw0]
      clear hw0
      go_region_held3 (fun w' => w'.cell? ⟨w.heap.size, 0, none⟩ = some (.int .i64 1) ∧ w'.cell? ⟨w.heap.size, 1, none⟩ = some (.int .i64 a) ∧ w'.cell? ⟨w.heap.size, 2, none⟩ = some (.int .i64 b))
        (first | exact ⟨c0, c1, c2⟩ | exact hk2 | go_keep)
        (first
          | (go_at_call 64; refine (HV.out _ HO.out.drew).mono ?_; rintro e w2 ⟨rfl, hb2⟩; have b2 := bfrom (Below.refl _ _).drew hb2; have hk2 := KX.out _ b2)
          | fail)
      go_wp2
      go_ret
      exact ⟨by first | rfl | simp, bfrom HB0.out b2⟩
    · go_enter Tryz.func54, Tryz.ntmps54
      go_wp2_with fail
      rw [← hw0]
      clear hw0
      go_region_held3 (fun w' => w'.cell? ⟨w.heap.size, 0, none⟩ = some (.int .i64 k) ∧ w'.cell? ⟨w.heap.size, 1, none⟩ = some (.int .i64 a) ∧ w'.cell? ⟨w.heap.size, 2, none⟩ = some (.int .i64 b))
        (first | exact ⟨c0, c1, c2⟩ | exact hk2 | go_keep)
        (first
          | (go_at_call 64; refine (HV.out _ HO.out.drew).mono ?_; rintro e w2 ⟨rfl, hb2⟩; have b2 := bfrom (Below.refl _ _).drew hb2; have hk2 := KX.out _ b2)
          | fail)
      go_wp2
      go_ret
      exact ⟨by first | rfl | simp, bfrom HB0.out b2⟩
  · have HV := Lib.hid (fun W (h : Own W g 4 (2^n) (fun j => .bool (p j))) => pzValue_any p n g cap k a W hn h h0 h5 ha0 ha1)
    have HF := Lib.hid (show fitP p n (k, a, b) = decide (((valP p n k a : Nat) : Int) = b) from by unfold fitP; rw [if_neg hk])
    rw [HF.out]
    generalize valP p n k a = v at *
    obtain ⟨N, hN⟩ : ∃ N, N = 2^n := ⟨_, rfl⟩
    rw [← hN] at HV HO ⊢
    clear hN hw ha0 ha1 hx b0
    have hk1 : ¬ k = 1 := by omega
    have hk3 : ¬ 3 < k := by omega
    clear hk
    go_enter Tryz.func54, Tryz.ntmps54
    go_wp2_with fail
    rw [← hw0]
    clear hw0
    go_region_held3 (fun w' => w'.cell? ⟨w.heap.size, 0, none⟩ = some (.int .i64 k) ∧ w'.cell? ⟨w.heap.size, 1, none⟩ = some (.int .i64 a) ∧ w'.cell? ⟨w.heap.size, 2, none⟩ = some (.int .i64 b))
      (first | exact ⟨c0, c1, c2⟩ | exact hk2 | go_keep)
      (first
        | (go_at_call 64; refine (HV.out _ HO.out.drew).mono ?_; rintro e w2 ⟨rfl, hb2⟩; have b2 := bfrom (Below.refl _ _).drew hb2; have hk2 := KX.out _ b2)
        | fail)
    go_wp2
    go_ret
    exact ⟨by first | rfl | simp, bfrom HB0.out b2⟩
end Go.Proofs.YtnldodnpakpeeaaGreat
