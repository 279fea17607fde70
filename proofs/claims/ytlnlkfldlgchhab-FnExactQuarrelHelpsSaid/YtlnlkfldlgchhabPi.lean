/- Contracts of the program's CountQuarrelWins, QuarrelSwings, QuarrelHelps. -/
import Derived.Test.YtlnlkfldlgchhabPh
namespace Go.Proofs.Ytlnlkfldlgchhab
open Go.RowKit Vo

/-- How many sets win if two members quarrel. -/
def qcV (q : Int) (ws : List Int) (n : Nat) (x y : Int) : Int := if pairOk q ws n x y then (cnt (quaP (winB q ws n) x.toNat y.toNat) (2^n) : Nat) else 0
theorem qcV_yes {q ws n x y} (h : pairOk q ws n x y = true) : qcV q ws n x y = (cnt (quaP (winB q ws n) x.toNat y.toNat) (2^n) : Nat) := if_pos h
theorem qcV_no {q ws n x y} (h : pairOk q ws n x y = false) : qcV q ws n x y = 0 := if_neg (by rw [h]; simp)
/-- How many swings each member has then. -/
def quaN (q : Int) (ws : List Int) (n i j k : Nat) : Nat := cnt (swP (quaP (winB q ws n) i j) k) (2^n)
def quaL (q : Int) (ws : List Int) (n : Nat) (x y : Int) : List Int := okL (pairOk q ws n x y) (perL (quaN q ws n x.toNat y.toNat) n)
theorem quaL_len (q : Int) (ws : List Int) (n : Nat) (x y : Int) : (quaL q ws n x y).length ≤ 1048576 := by
  cases h : pairOk q ws n x y with
  | true => exact okL_len (by rw [perL_len]; have := (pairOk_parts h).1.hi; omega)
  | false => unfold quaL; rw [okL_no h]; simp
theorem cnt_sub {p p' : Nat → Bool} (h : ∀ s, p s = true → p' s = true) (N : Nat) : cnt p N ≤ cnt p' N := by
  induction N with
  | zero => exact Nat.le_refl _
  | succ N ih =>
    simp only [cnt]
    cases hp : p N with
    | true => rw [h N hp]; simp only [if_true]; omega
    | false => simp only [Bool.false_eq_true, if_false]; split <;> omega
/-- What swings in spite of the quarrel does so without it, too. -/
theorem quaN_le (q : Int) (ws : List Int) (n i j k : Nat) : quaN q ws n i j k ≤ swingN q ws n k := by
  apply cnt_sub
  intro s h
  unfold swP quaP at *
  simp only [Bool.and_eq_true, Bool.not_eq_true', Bool.and_eq_false_iff, Bool.not_eq_false'] at h ⊢
  obtain ⟨h1, h2, h3, h4⟩ := h
  refine ⟨h1, ?_, h3⟩
  rcases h2 with h2 | h2
  · exact h2
  · exfalso
    obtain ⟨a, b⟩ := h2
    rw [Nat.testBit_or, Nat.testBit_or, a, b] at h4
    simp at h4

set_option maxRecDepth 20000 in
set_option maxHeartbeats 2000000 in
theorem quarrelSwings_any (q : Int) (A : Option Addr) (n cap : Nat) (ws : List Int) (x y : Int) (w : World) (hm : n ≤ 9223372036854775807) (hk : Known w A n ws) (_hx : (Lit.int .i64 x).wf = true) (_hy : (Lit.int .i64 y).wf = true) :
    Calls Try.prog 41 #[.agg #[.int .i64 q, .slice A n cap], .int .i64 x, .int .i64 y] w fun e w' => PairAt (quaL q ws n x y) (pairOk q ws n x y) w w' e := by
  have HK := Lib.hid hk
  clear hk
  have hb0 := below1 w (.cells #[.int .i64 q, .slice A n cap] 29)
  cases hok : pairOk q ws n x y with
  | false =>
    have HV := Lib.hid (show quaL q ws n x y = [] from okL_no hok)
    have HO := Lib.hid hok
    clear hok
    go_enter Try.func41, Try.ntmps41
    go_wp2_with fail
    refine (readQuarrel_no q A n cap ws x y _ hm (HK.out.now hb0) HO.out).mono ?_
    rintro e w1 ⟨rfl, hb1⟩
    have g1 := bfrom hb0 hb1
    have g2 := bfrom g1 (below1 w1 (.cells #[.int .i64 0, .slice none 0 0, .int .u64 0] 79))
    go_wp2
    go_ret2
    rw [HV.out]
    exact PairAt.none_ g2
  | true =>
    obtain ⟨hg, hxb, hyb, _⟩ := pairOk_parts hok
    obtain ⟨i, rfl⟩ : ∃ i : Nat, x = i := ⟨x.toNat, by omega⟩
    obtain ⟨j, rfl⟩ : ∃ j : Nat, y = j := ⟨y.toNat, by omega⟩
    have HV := Lib.hid (show quaL q ws n i j = perL (quaN q ws n i j) n from by unfold quaL; rw [okL_yes hok, Int.toNat_natCast, Int.toNat_natCast])
    have HO := Lib.hid hok
    obtain ⟨b, off, rfl, hsl⟩ := HK.out.get hg.lo
    have HSL := Lib.hid hsl
    have HG := Lib.hid hg
    have hn9 := hg.hi
    have hn10 : n < 10 := by omega
    have HQ := Lib.hid (fun W (h : Sl W b off n ws) => quaSwings_any q b off n cap ws i j W hn10 (by omega) (by omega) HG.out.ok h)
    have HR := Lib.hid (fun W (h : Known W (some ⟨b, off, none⟩) n ws) => readQuarrel_yes q (some ⟨b, off, none⟩) n cap ws i j W hm h HO.out)
    clear hok hg hsl
    generalize 2^i ||| 2^j = t at *
    go_enter Try.func41, Try.ntmps41
    go_wp2_with fail
    refine (HR.out _ (HK.out.now hb0)).mono ?_
    rintro e w1 ⟨rfl, hb1⟩
    have g1 := bfrom hb0 hb1
    have hq2 := Box3.new 79 w1 (.int .i64 q) (.slice (some ⟨b, off, none⟩) n cap) (.int .u64 t)
    have g2 := g1.alloc g1.size (.cells #[.int .i64 q, .slice (some ⟨b, off, none⟩) n cap, .int .u64 t] 79)
    obtain ⟨d0, d1, d2⟩ := hq2.cells
    have hz2 := g2.size
    go_wp2_with fail
    refine (HQ.out _ (HSL.out.now g2)).mono ?_
    rintro e w3 ⟨A3, cap3, rfl, hown, hb3⟩
    have HO3 := Lib.hid hown
    clear hown
    go_wp2
    go_ret2
    exact ⟨A3, cap3, by rw [HV.out]; rfl, by rw [HV.out]; exact owns_less HO3.out hz2, bfrom g2 hb3⟩
end Go.Proofs.Ytlnlkfldlgchhab
