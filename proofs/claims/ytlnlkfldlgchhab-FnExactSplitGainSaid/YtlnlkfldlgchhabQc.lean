/- Contract of the program's SplitGain. -/
import Derived.Test.YtlnlkfldlgchhabPz
import Derived.Test.YtlnlkfldlgchhabPw
import Derived.Outline
namespace Go.Proofs.Ytlnlkfldlgchhab
open Go.RowKit Vo

/-- Whether both parts gain. -/
def sgG (q : Int) (ws : List Int) (n : Nat) (x y : Int) : Int := if splitOk q ws n x y then gainV q ws n (2^x.toNat) q (splitL ws n x.toNat y) (n + 1) (twoS x) else 0
theorem sgG_yes {q ws n x y} (h : splitOk q ws n x y = true) : sgG q ws n x y = gainV q ws n (2^x.toNat) q (splitL ws n x.toNat y) (n + 1) (twoS x) := if_pos h
theorem sgG_no {q ws n x y} (h : splitOk q ws n x y = false) : sgG q ws n x y = 0 := if_neg (by rw [h]; simp)
theorem splitOk_good {q ws n x y} (h : splitOk q ws n x y = true) : Vo.Good q ws n ∧ (0 ≤ x ∧ x < n) ∧ n < 9 ∧ Vo.Good q (splitL ws n x.toNat y) (n + 1) := by
  obtain ⟨hask, h9⟩ := splitOk_parts h
  obtain ⟨hg, hxb, hy0, hy1⟩ := partAsk_parts hask
  refine ⟨hg, hxb, h9, ?_⟩
  have e := split_good (x := y) hg (show x.toNat < n by omega) hy0 hy1
  rw [decide_eq_true h9] at e
  exact of_decide_eq_true e

set_option maxRecDepth 20000 in
set_option maxHeartbeats 2000000 in
theorem splitGain_core (q : Int) (A : Option Addr) (n : Nat) (ws : List Int) (x y : Int) (w : World) (hm : n ≤ 9223372036854775807) (hk : Known w A n ws) :
    Calls Try.prog 49 #[.agg #[.int .i64 q, .slice A n n], .int .i64 x, .int .i64 y] w fun e w' => e = .returned (.tuple #[.int .i64 (sgG q ws n x y), .bool (splitOk q ws n x y)]) ∧ Below w.heap.size w w' := by
  have HK := Lib.hid hk
  clear hk
  have hb0 := below1 w (.cells #[.int .i64 q, .slice A n n] 29)
  have hx := Box.new w (.int .i64 q) (.slice A n n)
  have HS := Lib.hid (fun W (h : Known W A n ws) => split_all q A n ws x y W hm h)
  unfold PartyAt at HS
  cases hok : splitOk q ws n x y with
  | false =>
    have HV := Lib.hid (sgG_no hok)
    rw [hok] at HS
    clear hok
    go_enter Try.func49, Try.ntmps49
    go_wp2_with fail
    refine (HS.out _ (HK.out.now hb0)).mono ?_
    rintro e w1 ⟨A1, cap1, rfl, _, hb1⟩
    have g1 := bfrom hb0 hb1
    have g2 := bfrom g1 (below1 w1 (.cells #[.int .i64 (qIf false q), .slice A1 (nIf false (n + 1)) cap1, .int .u64 (nIf false (twoS x) : Nat)] 89))
    go_wp2
    go_ret2
    exact ⟨by rw [HV.out]; rfl, g2⟩
  | true =>
    obtain ⟨hg, hxb, h9, hg'⟩ := splitOk_good hok
    have HV := Lib.hid (sgG_yes hok)
    rw [hok] at HS
    obtain ⟨i, rfl⟩ : ∃ i : Nat, x = i := ⟨x.toNat, by omega⟩
    rw [Int.toNat_natCast] at HV HS hg'
    have hi9 : i < 9 := by omega
    have hi5 : 2^i < 512 := Nat.pow_lt_pow_right (n := 9) (by omega) hi9
    have hi6 : twoS i < 512 := Nat.or_lt_two_pow (n := 9) (Nat.pow_lt_pow_right (by omega) (by omega)) (Nat.pow_lt_pow_right (by omega) (by omega))
    have HGN := Lib.hid (fun A' cap' W (h : Known W A n ws) (h' : Known W A' (n + 1) (splitL ws n i y)) => gainSwings_any q q A A' n n (n + 1) cap' (2^i) (twoS i) ws (splitL ws n i y) W hg hg' hi5 hi6 h h')
    have HM := Lib.hid (fun W => member_any q A n n i W hi9)
    obtain ⟨L, hL⟩ : ∃ L, L = splitL ws n i y := ⟨_, rfl⟩
    rw [← hL] at HS HGN HV
    obtain ⟨s, hs⟩ : ∃ s, s = 2^i := ⟨_, rfl⟩
    rw [← hs] at HGN HV HM
    obtain ⟨T, hT⟩ : ∃ T, T = twoS i := ⟨_, rfl⟩
    rw [← hT] at HGN HV HS
    clear hok hg hg' hL hs hT hi5 hi6
    go_enter Try.func49, Try.ntmps49
    go_wp2_with fail
    refine (HS.out _ (HK.out.now hb0)).mono ?_
    rintro e w1 ⟨A1, cap1, rfl, hh1, hb1⟩
    rw [show nIf true (n + 1) = n + 1 from rfl] at hh1
    rw [show nIf true (n + 1) = n + 1 from rfl, show qIf true q = q from rfl, show nIf true T = T from rfl]
    have g1 := bfrom hb0 hb1
    have hx1 := hx.now hb1
    have hg2 := Box3.new 89 w1 (.int .i64 q) (.slice A1 (n + 1) cap1) (.int .u64 T)
    have hx2 := hx1.alloc (.cells #[.int .i64 q, .slice A1 (n + 1) cap1, .int .u64 T] 89)
    have g2 := bfrom g1 (below1 w1 (.cells #[.int .i64 q, .slice A1 (n + 1) cap1, .int .u64 T] 89))
    have HK1 := Lib.hid (hh1.known.now (below1 w1 (.cells #[.int .i64 q, .slice A1 (n + 1) cap1, .int .u64 T] 89)))
    clear hh1 hx hb0 hb1 hx1
    go_wp2_with fail
    obtain ⟨W2, hW2⟩ : ∃ W2, W2 = w1.alloc (.cells #[.int .i64 q, .slice A1 (n + 1) cap1, .int .u64 T] 89) := ⟨_, rfl⟩
    rw [← hW2] at hg2 hx2 g2 HK1 ⊢
    clear hW2
    obtain ⟨c0, c1⟩ := hx2.cells
    obtain ⟨d0, d1, d2⟩ := hg2.cells
    have HK2 := Lib.hid (HK.out.now g2)
    go_region_held3 (fun w' => w'.cell? ⟨w.heap.size, 0, none⟩ = some (.int .i64 q) ∧ w'.cell? ⟨w.heap.size, 1, none⟩ = some (.slice A n n) ∧ w'.cell? ⟨w1.heap.size, 0, none⟩ = some (.int .i64 q) ∧ w'.cell? ⟨w1.heap.size, 1, none⟩ = some (.slice A1 (n + 1) cap1) ∧ w'.cell? ⟨w1.heap.size, 2, none⟩ = some (.int .u64 T))
      (first | with_reducible exact ⟨c0, c1, d0, d1, d2⟩ | with_reducible exact ⟨e0, e1, e2, e3, e4⟩ | with_reducible exact ⟨k0, k1, k2, k3, k4⟩ | go_keep)
      (first
        | (go_at_call 86; refine (HGN.out A1 cap1 _ (HK2.out.now (bfrom (Below.refl _ _).drew hb3)) (HK1.out.now (bfrom (Below.refl _ _).drew hb3))).mono ?_; rintro e w5 ⟨rfl, hb5⟩; obtain ⟨k0, k1⟩ := ((hx2.drew.now hb3).now hb5).cells; obtain ⟨k2, k3, k4⟩ := ((hg2.drew.now hb3).now hb5).cells)
        | (go_at_call 87; (with_reducible refine (HM.out W2.drew).mono ?_); rintro e w3 ⟨rfl, hb3⟩; obtain ⟨e0, e1⟩ := (hx2.drew.now hb3).cells; obtain ⟨e2, e3, e4⟩ := (hg2.drew.now hb3).cells)
        | fail)
    all_goals
      go_wp2
      go_ret2
      exact ⟨by rw [HV.out]; rfl, bfrom g2.drew (bfrom hb3 hb5)⟩
theorem splitGain_any (q : Int) (A : Option Addr) (n cap : Nat) (ws : List Int) (x y : Int) (w : World) (hm : n ≤ 9223372036854775807) (hk : Known w A n ws) (_hxw : (Lit.int .i64 x).wf = true) (_hyw : (Lit.int .i64 y).wf = true) (hcap : n = cap := by exact rfl) :
    Calls Try.prog 49 #[.agg #[.int .i64 q, .slice A n cap], .int .i64 x, .int .i64 y] w fun e w' => e = .returned (.tuple #[.int .i64 (sgG q ws n x y), .bool (splitOk q ws n x y)]) ∧ Below w.heap.size w w' := by
  subst hcap
  exact splitGain_core q A n ws x y w hm hk
end Go.Proofs.Ytlnlkfldlgchhab
