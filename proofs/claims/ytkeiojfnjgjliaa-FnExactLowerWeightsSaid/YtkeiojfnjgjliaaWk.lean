/- Contract of the model's SpareOf. -/
import Derived.Test.YtkeiojfnjgjliaaWi
import Derived.Test.YtkeiojfnjgjliaaS3
namespace Go.Proofs.Ytkeiojfnjgjliaa
open Go.RowKit Vo

set_option maxHeartbeats 400000 in
theorem l1Least_int (a b : Int) (w : World) : Calls Try.prog 82 #[.int .i64 a, .int .i64 b] w fun e w' => e = .returned (.int .i64 (min a b)) ∧ w = w' := by
  by_cases h : a < b
  · have HE := Lib.hid (show min a b = a from by omega)
    go_enter Try.func82, Try.ntmps82
    go_wp2
    go_ret
    exact ⟨by rw [HE.out]; rfl, rfl⟩
  · have HE := Lib.hid (show min a b = b from by omega)
    go_enter Try.func82, Try.ntmps82
    go_wp2
    go_ret
    exact ⟨by rw [HE.out]; rfl, rfl⟩

/-- As the model goes. -/
def moreK (p : Nat → Bool) (q : Int) (ws : List Int) (n : Nat) : Nat → Int
  | 0 => sumK ws n - q
  | j+1 => if p j then min (moreK p q ws n j) (wtK ws j n - q) else moreK p q ws n j
def lessK (p : Nat → Bool) (q : Int) (ws : List Int) (n : Nat) : Nat → Int
  | 0 => q
  | j+1 => if p j then lessK p q ws n j else min (lessK p q ws n j) (q - wtK ws j n)
theorem moreK_spec (p : Nat → Bool) (q : Int) (ws : List Int) (n : Nat) : ∀ k, (∀ j, j < k → p j = true → moreK p q ws n k ≤ wtK ws j n - q) ∧ (moreK p q ws n k = sumK ws n - q ∨ ∃ j, j < k ∧ p j = true ∧ moreK p q ws n k = wtK ws j n - q) := by
  intro k
  induction k with
  | zero => exact ⟨fun j hj => by omega, Or.inl rfl⟩
  | succ k ih =>
    obtain ⟨h1, h2⟩ := ih
    simp only [moreK]
    cases hp : p k with
    | false =>
      rw [if_neg (by decide)]
      refine ⟨fun j hj hpj => ?_, ?_⟩
      · by_cases e : j = k
        · subst e; rw [hp] at hpj; cases hpj
        · exact h1 j (by omega) hpj
      · rcases h2 with h2 | ⟨j, hj, hpj, e⟩
        · exact Or.inl h2
        · exact Or.inr ⟨j, by omega, hpj, e⟩
    | true =>
      rw [if_pos rfl]
      refine ⟨fun j hj hpj => ?_, ?_⟩
      · by_cases e : j = k
        · subst e; omega
        · have := h1 j (by omega) hpj; omega
      · rcases Int.le_total (moreK p q ws n k) (wtK ws k n - q) with h | h
        · rcases h2 with h2 | ⟨j, hj, hpj, e⟩
          · exact Or.inl (by omega)
          · exact Or.inr ⟨j, by omega, hpj, by omega⟩
        · exact Or.inr ⟨k, by omega, hp, by omega⟩
theorem lessK_spec (p : Nat → Bool) (q : Int) (ws : List Int) (n : Nat) : ∀ k, (∀ j, j < k → p j = false → lessK p q ws n k ≤ q - wtK ws j n) ∧ (lessK p q ws n k = q ∨ ∃ j, j < k ∧ p j = false ∧ lessK p q ws n k = q - wtK ws j n) := by
  intro k
  induction k with
  | zero => exact ⟨fun j hj => by omega, Or.inl rfl⟩
  | succ k ih =>
    obtain ⟨h1, h2⟩ := ih
    simp only [lessK]
    cases hp : p k with
    | true =>
      rw [if_pos rfl]
      refine ⟨fun j hj hpj => ?_, ?_⟩
      · by_cases e : j = k
        · subst e; rw [hp] at hpj; cases hpj
        · exact h1 j (by omega) hpj
      · rcases h2 with h2 | ⟨j, hj, hpj, e⟩
        · exact Or.inl h2
        · exact Or.inr ⟨j, by omega, hpj, e⟩
    | false =>
      rw [if_neg (by decide)]
      refine ⟨fun j hj hpj => ?_, ?_⟩
      · by_cases e : j = k
        · subst e; omega
        · have := h1 j (by omega) hpj; omega
      · rcases Int.le_total (lessK p q ws n k) (q - wtK ws k n) with h | h
        · rcases h2 with h2 | ⟨j, hj, hpj, e⟩
          · exact Or.inl (by omega)
          · exact Or.inr ⟨j, by omega, hpj, by omega⟩
        · exact Or.inr ⟨k, by omega, hp, by omega⟩
theorem more_is {q : Int} {ws : List Int} {n : Nat} (hg : Vo.Good q ws n) : moreK (winB q ws n) q ws n (2^n) = lowS (winB q ws n) ws n - q := by
  have hpos := Nat.two_pow_pos n
  obtain ⟨h1, h2⟩ := moreK_spec (winB q ws n) q ws n (2^n)
  obtain ⟨t, ht, hpt, e⟩ := low_met (p := winB q ws n) (ws := ws) hg.hi (s := 2^n - 1) (by omega) (win_full hg)
  have h3 := h1 t ht hpt
  have h4 := low_le (p := winB q ws n) hg.hi hg.ok (s := 2^n - 1) (by omega) (win_full hg)
  rw [hg.all] at h4
  rcases h2 with h2 | ⟨j, hj, hpj, e2⟩
  · omega
  · have := low_le (p := winB q ws n) hg.hi hg.ok hj hpj; omega
theorem less_is {q : Int} {ws : List Int} {n : Nat} (hg : Vo.Good q ws n) : lessK (winB q ws n) q ws n (2^n) = q - highS (winB q ws n) ws n := by
  have hpos := Nat.two_pow_pos n
  obtain ⟨h1, h2⟩ := lessK_spec (winB q ws n) q ws n (2^n)
  obtain ⟨t, ht, hpt, e⟩ := high_met (p := winB q ws n) (ws := ws) (n := n) (win_nil hg)
  have h3 := h1 t ht hpt
  have h4 := high_ge (p := winB q ws n) hg.ok (s := 0) hpos (win_nil hg)
  rw [wtK_nil] at h4
  rcases h2 with h2 | ⟨j, hj, hpj, e2⟩
  · omega
  · have := high_ge (p := winB q ws n) hg.ok hj hpj; omega
theorem moreK_bd {q : Int} {ws : List Int} {n : Nat} (hg : Vo.Good q ws n) (k : Nat) : -9000 ≤ moreK (winB q ws n) q ws n k ∧ moreK (winB q ws n) q ws n k ≤ 9000 := by
  have h0 := hg.tot; have h1 := hg.q1; have h2 := hg.q2
  rcases (moreK_spec (winB q ws n) q ws n k).2 with h | ⟨j, _, _, e⟩
  · omega
  · have := hg.wt (s := j); omega
theorem lessK_bd {q : Int} {ws : List Int} {n : Nat} (hg : Vo.Good q ws n) (k : Nat) : -9000 ≤ lessK (winB q ws n) q ws n k ∧ lessK (winB q ws n) q ws n k ≤ 9000 := by
  have h0 := hg.tot; have h1 := hg.q1; have h2 := hg.q2
  rcases (lessK_spec (winB q ws n) q ws n k).2 with h | ⟨j, _, _, e⟩
  · omega
  · have := hg.wt (s := j); omega

set_option maxRecDepth 20000 in
set_option maxHeartbeats 4000000 in
theorem sSpareOf_any (q : Int) (A : Option Addr) (n cap : Nat) (ws : List Int) (w : World) (hm : n ≤ 9223372036854775807) (hk : Known w A n ws) :
    Calls Try.prog 43 #[.agg #[.int .i64 q, .slice A n cap]] w fun e w' => e = .returned (.tuple #[.int .i64 (spareX q ws n), .int .i64 (spareY q ws n), .bool (goodB q ws n)]) ∧ Below w.heap.size w w' := by
  have HK := Lib.hid hk
  clear hk
  have hb0 := below1 w (.cells #[.int .i64 q, .slice A n cap] 32)
  have hx := Box.new w (.int .i64 q) (.slice A n cap)
  by_cases hg : Vo.Good q ws n
  · obtain ⟨b, off, rfl, hsl⟩ := HK.out.get hg.lo
    have HSL := Lib.hid hsl
    have HG := Lib.hid hg
    have HGB := Lib.hid (goodB_true hg)
    have HOK := Lib.hid hg.ok
    have hn9 := hg.hi
    have hn1 := hg.lo
    have hq1 := hg.q1
    have hq2 := hg.q2
    have htot := hg.tot
    have hn10 : n < 10 := by omega
    rw [spareX_yes HGB.out, spareY_yes HGB.out, HGB.out, ← more_is hg, ← less_is hg]
    have HW0 := Lib.hid (show IntKind.i64.wrap (sumK ws n - q) = moreK (winB q ws n) q ws n 0 from IntWalk.i64_in _ (by omega))
    have HL0 := Lib.hid (show lessK (winB q ws n) q ws n 0 = q from rfl)
    have h512 := pow_lt hn9
    have hpos := Nat.two_pow_pos n
    obtain ⟨N, hN⟩ : ∃ N, N = 2^n := ⟨_, rfl⟩
    have HN := Lib.hid hN
    rw [← hN] at h512 hpos ⊢
    clear hg hsl hq1 hq2 htot hN
    go_enter Try.func43, Try.ntmps43
    go_wp2_with fail
    refine (voGood_any q _ n cap ws _ hm (HK.out.now hb0)).mono ?_
    rintro e w1 ⟨rfl, hb1⟩
    rw [HGB.out]
    have g1 := bfrom hb0 hb1
    have hx1 := hx.now hb1
    obtain ⟨c0, c1⟩ := hx1.cells
    have hs1 := Lib.hid (HSL.out.now g1)
    clear hx hb0 hb1
    go_wp2_with fail
    go_region_held3 (fun w' => w'.cell? ⟨w.heap.size, 0, none⟩ = some (.int .i64 q) ∧ w'.cell? ⟨w.heap.size, 1, none⟩ = some (.slice (some ⟨b, off, none⟩) n cap))
      (first | exact ⟨c0, c1⟩ | go_keep)
      (first | (go_at_call 62; refine (voSum_any b off n cap ws _ hn10 HOK.out ?_).mono ?_; (first | exact hs1.out.drew | exact hs1.out); rintro e w4 ⟨rfl, rfl⟩))
    rw [HW0.out]
    go_wp2_with fail
    refine (voWins_any q b off n cap ws _ hn10 HOK.out hs1.out.drew).mono ?_
    rintro e w2 ⟨g, cp, rfl, hge, ho, hb2⟩
    rw [← HN.out] at ho ⊢
    have g2 : Below w.heap.size w w2 := bfrom g1.drew hb2
    have hx2 := hx1.drew.now hb2
    have hs2 := Lib.hid (hs1.out.drew.now hb2)
    have HO := Lib.hid ho
    have HX := Lib.hid hx2
    clear c0 c1 hx1 ho hx2 hb2
    go_wp2_with fail
    go_loopw [5, 6, 24] (fun m l i wr => ∃ k : Nat, k ≤ N ∧ i = .int .i64 k ∧ m = .int .i64 (moreK (winB q ws n) q ws n k) ∧ l = .int .i64 (lessK (winB q ws n) q ws n k) ∧ Below w2.heap.size w2 wr) (fun _ _ i _ => N - (intOf i).toNat)
    case atStart => exact ⟨0, Nat.zero_le _, rfl, rfl, by rw [HL0.out], Below.refl _ _⟩
    case round =>
      obtain ⟨k, hk, rfl, rfl, rfl, hb⟩ := hrel
      by_cases hlt : k < N
      · have hcell := (HO.out.below hb HO.out.lt).cell hlt
        obtain ⟨c0, c1⟩ := (HX.out.now hb).cells
        have hs3 := Lib.hid (hs2.out.now hb)
        have HM := Lib.hid (show moreK (winB q ws n) q ws n (k+1) = if winB q ws n k then min (moreK (winB q ws n) q ws n k) (wtK ws k n - q) else moreK (winB q ws n) q ws n k from rfl)
        have HL := Lib.hid (show lessK (winB q ws n) q ws n (k+1) = if winB q ws n k then lessK (winB q ws n) q ws n k else min (lessK (winB q ws n) q ws n k) (q - wtK ws k n) from rfl)
        have hwt := HG.out.wt (s := k)
        have hq1 := HG.out.q1
        have hq2 := HG.out.q2
        have htot := HG.out.tot
        have HW1 := Lib.hid (show wrap64 (wtK ws k n - q) = wtK ws k n - q from IntWalk.wrap64_in _ (by omega))
        have HW2 := Lib.hid (show wrap64 (q - wtK ws k n) = q - wtK ws k n from IntWalk.wrap64_in _ (by omega))
        obtain ⟨x, hx⟩ : ∃ x, x = wtK ws k n := ⟨_, rfl⟩
        have HX3 := Lib.hid hx
        rw [← hx] at HM HL HW1 HW2
        obtain ⟨mo, hmo⟩ : ∃ mo, mo = moreK (winB q ws n) q ws n k := ⟨_, rfl⟩
        obtain ⟨le, hle⟩ : ∃ le, le = lessK (winB q ws n) q ws n k := ⟨_, rfl⟩
        rw [← hmo] at HM ⊢
        rw [← hle] at HL ⊢
        clear hwt hq1 hq2 htot hx hmo hle
        cases hp : winB q ws n k
        all_goals
          rw [hp] at hcell HM HL
          have HP := Lib.hid hp
          clear hp
          go_wp2_with (first
            | (go_at_call 83; refine (voWeight_any _ b off n cap ws k _ hn10 (by omega) HOK.out hs3.out).mono ?_; rw [← HX3.out]; rintro e w4 ⟨rfl, hb4⟩; clear c0 c1; obtain ⟨c0, c1⟩ := ((HX.out.now hb).now hb4).cells)
            | (go_at_call 82; refine (l1Least_int _ _ _).mono ?_; rintro e w' ⟨rfl, rfl⟩; first | rw [HW1.out] | rw [HW2.out]))
          go_roundw
          case rel => exact ⟨k + 1, by omega, by go_num, by rw [HM.out]; simp, by rw [HL.out]; simp, bfrom hb hb4⟩
          case measure => simp [intOf]; omega
      · obtain rfl : k = N := by omega
        go_wp2
        go_ret3
        exact ⟨rfl, bfrom g2 hb⟩
  · have HGB := Lib.hid (goodB_false hg)
    clear hg
    go_enter Try.func43, Try.ntmps43
    go_wp2_with fail
    refine (voGood_any q A n cap ws _ hm (HK.out.now hb0)).mono ?_
    rintro e w1 ⟨rfl, hb1⟩
    rw [HGB.out]
    go_wp2
    go_ret3
    exact ⟨by rw [spareX_no HGB.out, spareY_no HGB.out, HGB.out]; rfl, bfrom hb0 hb1⟩
end Go.Proofs.Ytkeiojfnjgjliaa
