/- Contracts of the program's GiverGains. -/
import Derived.Test.YtlnlkfldlgchhabPv
import Derived.Test.YtlnlkfldlgchhabPn
import Derived.Outline
namespace Go.Proofs.Ytlnlkfldlgchhab
open Go.RowKit Vo

/-- Whether the giver gains. -/
def gvG (q : Int) (ws : List Int) (n : Nat) (x y z : Int) : Int := if giveOk q ws n x y z then gainV q ws n (2^x.toNat) q (giveL ws n x.toNat y.toNat z) n (2^x.toNat) else 0
theorem gvG_yes {q ws n x y z} (h : giveOk q ws n x y z = true) : gvG q ws n x y z = gainV q ws n (2^x.toNat) q (giveL ws n x.toNat y.toNat z) n (2^x.toNat) := if_pos h
theorem gvG_no {q ws n x y z} (h : giveOk q ws n x y z = false) : gvG q ws n x y z = 0 := if_neg (by rw [h]; simp)
theorem giveOk_parts {q ws n x y z} (h : giveOk q ws n x y z = true) : giveAsk q ws n x y z = true ∧ Vo.Good q (giveL ws n x.toNat y.toNat z) n := by
  unfold giveOk at h
  simp at h
  exact ⟨h.1, of_decide_eq_true h.2⟩
theorem Held.known {base : Nat} {w : World} {A : Option Addr} {m : Nat} {L : List Int} (h : Held base w A m L) : Known w A m L := by
  rcases h with ⟨h1, h2⟩ | ⟨g, hA, _, hi⟩
  · subst h1; subst h2
    exact ⟨0, 0, fun h => absurd h (by omega), fun h => absurd h (by omega)⟩
  · subst hA; exact Known.of (Ints.sl hi)

set_option maxRecDepth 20000 in
set_option maxHeartbeats 2000000 in
theorem giverGains_any (q : Int) (A : Option Addr) (n cap : Nat) (ws : List Int) (x y z : Int) (w : World) (hm : n ≤ 9223372036854775807) (hk : Known w A n ws) (hxw : (Lit.int .i64 x).wf = true) (hyw : (Lit.int .i64 y).wf = true) (hzw : (Lit.int .i64 z).wf = true) :
    Calls Try.prog 45 #[.agg #[.int .i64 q, .slice A n cap], .int .i64 x, .int .i64 y, .int .i64 z] w fun e w' => e = .returned (.tuple #[.int .i64 (gvG q ws n x y z), .bool (giveOk q ws n x y z)]) ∧ Below w.heap.size w w' := by
  have HK := Lib.hid hk
  clear hk
  have hb0 := below1 w (.cells #[.int .i64 q, .slice A n cap] 29)
  have hx := Box.new w (.int .i64 q) (.slice A n cap)
  have HGV := Lib.hid (fun W (h : Known W A n ws) => giveWeight_any q A n cap ws x y z W hm h hxw hyw hzw)
  clear hxw hyw hzw
  cases hok : giveOk q ws n x y z with
  | false =>
    have HV := Lib.hid (gvG_no hok)
    have HO := Lib.hid hok
    rw [hok] at HGV
    clear hok
    go_enter Try.func45, Try.ntmps45
    go_wp2_with fail
    refine (HGV.out _ (HK.out.now hb0)).mono ?_
    rintro e w1 ⟨A1, cap1, rfl, _, hb1⟩
    have g1 := bfrom hb0 hb1
    have g2 := bfrom g1 (below1 w1 (.cells #[.int .i64 (qIf false q), .slice A1 (nIf false n) cap1] 29))
    go_wp2
    go_ret2
    exact ⟨by rw [HV.out]; rfl, g2⟩
  | true =>
    obtain ⟨hask, hg'⟩ := giveOk_parts hok
    obtain ⟨hg, hxb, _⟩ := giveAsk_parts hask
    obtain ⟨i, rfl⟩ : ∃ i : Nat, x = i := ⟨x.toNat, by omega⟩
    rw [Int.toNat_natCast] at hg'
    have HV := Lib.hid (gvG_yes hok)
    rw [Int.toNat_natCast] at HV
    rw [hok, Int.toNat_natCast] at HGV
    have HG := Lib.hid hg
    have HG' := Lib.hid hg'
    have hn9 := hg.hi
    have hi9 : i < 9 := by omega
    have hi5 : 2^i < 512 := Nat.pow_lt_pow_right (n := 9) (by omega) hi9
    have HGN := Lib.hid (fun A' cap' W (h : Known W A n ws) (h' : Known W A' n (giveL ws n i y.toNat z)) => gainSwings_any q q A A' n cap n cap' (2^i) (2^i) ws (giveL ws n i y.toNat z) W hg hg' hi5 hi5 h h')
    have HM := Lib.hid (fun (A : Option Addr) (cap : Nat) W => member_any q A n cap i W hi9)
    obtain ⟨L, hL⟩ : ∃ L, L = giveL ws n i y.toNat z := ⟨_, rfl⟩
    rw [← hL] at HGV HGN HV
    obtain ⟨s, hs⟩ : ∃ s, s = 2^i := ⟨_, rfl⟩
    rw [← hs] at HGN HV HM
    clear hok hask hg hg' hL hs hi5
    go_enter Try.func45, Try.ntmps45
    go_wp2_with fail
    refine (HGV.out _ (HK.out.now hb0)).mono ?_
    rintro e w1 ⟨A1, cap1, rfl, hh1, hb1⟩
    have g1 := bfrom hb0 hb1
    have hx1 := hx.now hb1
    have hg2 := Box.new w1 (.int .i64 q) (.slice A1 n cap1)
    have hx2 := hx1.alloc (.cells #[.int .i64 q, .slice A1 n cap1] 29)
    have g2 := bfrom g1 (below1 w1 (.cells #[.int .i64 q, .slice A1 n cap1] 29))
    have HK1 := Lib.hid (hh1.known.now (below1 w1 (.cells #[.int .i64 q, .slice A1 n cap1] 29)))
    rw [show nIf true n = n from rfl] at HK1
    rw [show nIf true n = n from rfl, show qIf true q = q from rfl]
    clear hh1 hx hb0 hb1 hx1
    go_wp2_with fail
    obtain ⟨W2, hW2⟩ : ∃ W2, W2 = w1.alloc (.cells #[.int .i64 q, .slice A1 n cap1] 29) := ⟨_, rfl⟩
    rw [← hW2] at hg2 hx2 g2 HK1 ⊢
    clear hW2
    obtain ⟨c0, c1⟩ := hx2.cells
    obtain ⟨d0, d1⟩ := hg2.cells
    have HK2 := Lib.hid (HK.out.now g2)
    go_region_held3 (fun w' => w'.cell? ⟨w.heap.size, 0, none⟩ = some (.int .i64 q) ∧ w'.cell? ⟨w.heap.size, 1, none⟩ = some (.slice A n cap) ∧ w'.cell? ⟨w1.heap.size, 0, none⟩ = some (.int .i64 q) ∧ w'.cell? ⟨w1.heap.size, 1, none⟩ = some (.slice A1 n cap1))
      (first | with_reducible exact ⟨c0, c1, d0, d1⟩ | with_reducible exact ⟨e0, e1, e2, e3⟩ | with_reducible exact ⟨f0, f1, f2, f3⟩ | with_reducible exact ⟨k0, k1, k2, k3⟩ | go_keep)
      (first
        | (go_at_call 86; refine (HGN.out A1 cap1 _ (HK2.out.now (bfrom (bfrom (Below.refl _ _).drew hb3) hb4)) (HK1.out.now (bfrom (bfrom (Below.refl _ _).drew hb3) hb4))).mono ?_; rintro e w5 ⟨rfl, hb5⟩; obtain ⟨k0, k1⟩ := (((hx2.drew.now hb3).now hb4).now hb5).cells; obtain ⟨k2, k3⟩ := (((hg2.drew.now hb3).now hb4).now hb5).cells)
        | (go_at_call 87; with_reducible refine (HM.out A1 cap1 w3).mono ?_; rintro e w4 ⟨rfl, hb4⟩; obtain ⟨f0, f1⟩ := ((hx2.drew.now hb3).now hb4).cells; obtain ⟨f2, f3⟩ := ((hg2.drew.now hb3).now hb4).cells)
        | (go_at_call 87; with_reducible refine (HM.out A cap W2.drew).mono ?_; rintro e w3 ⟨rfl, hb3⟩; obtain ⟨e0, e1⟩ := (hx2.drew.now hb3).cells; obtain ⟨e2, e3⟩ := (hg2.drew.now hb3).cells)
        | fail)
    all_goals
      go_wp2
      go_ret2
      exact ⟨by rw [HV.out]; rfl, bfrom g2.drew (bfrom (bfrom hb3 hb4) hb5)⟩
end Go.Proofs.Ytlnlkfldlgchhab
