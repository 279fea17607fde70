/- Contracts of AddShares, the program's and the model's. -/
import Derived.Test.YtgodohfhhedifabQ3
import Derived.Test.YtgodohfhhedifabM1
import Derived.Outline
namespace Go.Proofs.Ytgodohfhhedifab
open Go.RowKit Vo

/-- Both together, in lowest terms. -/
def addN (x y u v : Int) : Nat := (x * v + u * y).toNat
def addD (y v : Int) : Nat := (y * v).toNat
def addX (x y u v : Int) : Int := ((addN x y u v / Nat.gcd (addN x y u v) (addD y v) : Nat) : Int)
def addY (x y u v : Int) : Int := ((addD y v / Nat.gcd (addN x y u v) (addD y v) : Nat) : Int)
def addOk (x y u v : Int) : Bool := cmpOk x y u v && sgB (addX x y u v) (addY x y u v)
def addRX (x y u v : Int) : Int := if addOk x y u v then addX x y u v else 0
def addRY (x y u v : Int) : Int := if addOk x y u v then addY x y u v else 0
theorem addR_yes {x y u v} (h : addOk x y u v = true) : addRX x y u v = addX x y u v ∧ addRY x y u v = addY x y u v := ⟨if_pos h, if_pos h⟩
theorem addR_no {x y u v} (h : addOk x y u v = false) : addRX x y u v = 0 ∧ addRY x y u v = 0 := ⟨if_neg (by rw [h]; simp), if_neg (by rw [h]; simp)⟩
theorem add_nums {x y u v : Int} (h1 : Sg x y) (h2 : Sg u v) : x * v + u * y = (addN x y u v : Int) ∧ y * v = (addD y v : Int) ∧ 0 < addD y v ∧ addN x y u v ≤ 2000000000000 ∧ addD y v ≤ 1000000000000 := by
  obtain ⟨m1, m2⟩ := h1.prods h2
  obtain ⟨a1, a2, a3, a4, _⟩ := h1
  obtain ⟨b1, b2, b3, b4, _⟩ := h2
  have m3 := mul_bd (show 0 ≤ y by omega) a2 (show 0 ≤ v by omega) b2
  have m4 : 0 < y * v := Int.mul_pos (by omega) (by omega)
  unfold addN addD
  generalize x * v = p at *
  generalize u * y = r at *
  generalize y * v = t at *
  omega

/-- A share and a truth. -/
def ShR (a b : Int) (ok : Bool) (w w' : World) (e : Ending) : Prop := e = .returned (.tuple #[.agg #[.int .i64 a, .int .i64 b], .bool ok]) ∧ Below w.heap.size w w'

set_option maxHeartbeats 4000000 in
theorem sAddShares_any (x y u v : Int) (w : World) :
    Calls Try.prog 47 #[.agg #[.int .i64 x, .int .i64 y], .agg #[.int .i64 u, .int .i64 v]] w fun e w' => ShR (addRX x y u v) (addRY x y u v) (addOk x y u v) w w' e := by
  have hb0 : Below w.heap.size w (((w.alloc (.cells #[.int .i64 x, .int .i64 y] 54)).alloc (.cells #[.int .i64 u, .int .i64 v] 54)).alloc (.cells #[.int .i64 0, .int .i64 0] 54)) := ((below1 w _).alloc (by simp) _).alloc (by simp; omega) _
  have ha := ((BoxT.new 54 w (.int .i64 x) (.int .i64 y)).alloc (.cells #[.int .i64 u, .int .i64 v] 54)).alloc (.cells #[.int .i64 0, .int .i64 0] 54)
  have hb := (BoxT.new 54 (w.alloc (.cells #[.int .i64 x, .int .i64 y] 54)) (.int .i64 u) (.int .i64 v)).alloc (.cells #[.int .i64 0, .int .i64 0] 54)
  have hc := BoxT.new 54 ((w.alloc (.cells #[.int .i64 x, .int .i64 y] 54)).alloc (.cells #[.int .i64 u, .int .i64 v] 54)) (.int .i64 0) (.int .i64 0)
  simp only [World.size_alloc] at hb hc
  cases h1 : sgB x y with
  | false =>
    have H1 := Lib.hid h1
    have HO := Lib.hid (show addOk x y u v = false from by unfold addOk cmpOk; rw [h1]; rfl)
    have HZ := Lib.hid (addR_no HO.out)
    clear h1
    go_enter Try.func47, Try.ntmps47
    go_wp2_with fail
    refine (pwGood_any x y _).mono ?_
    rintro e w1 ⟨rfl, hb1⟩
    rw [H1.out]
    have hc1 := hc.now hb1
    obtain ⟨c0, c1⟩ := hc1.cells
    obtain ⟨f0, f1⟩ := frozen2 hc1
    go_wp2
    refine bodyPost_ret (v := .tuple #[.agg #[.int .i64 0, .int .i64 0], .bool false]) (by simp [results, Try.results47, go_sem, c0, c1]) rfl ?_
    rw [HZ.out.1, HZ.out.2, HO.out]
    exact ⟨rfl, ((bfrom hb0 hb1).setCell (by dsimp only; omega) _).setCell (by dsimp only; omega) _⟩
  | true =>
    cases h2 : sgB u v with
    | false =>
      have H1 := Lib.hid h1
      have H2 := Lib.hid h2
      have HO := Lib.hid (show addOk x y u v = false from by unfold addOk cmpOk; rw [h1, h2]; rfl)
      have HZ := Lib.hid (addR_no HO.out)
      clear h1 h2
      go_enter Try.func47, Try.ntmps47
      go_wp2_with fail
      refine (pwGood_any x y _).mono ?_
      rintro e w1 ⟨rfl, hb1⟩
      rw [H1.out]
      obtain ⟨c0, c1⟩ := (hb.now hb1).cells
      go_wp2_with fail
      refine (pwGood_any u v _).mono ?_
      rintro e w2 ⟨rfl, hb2⟩
      rw [H2.out]
      clear c0 c1
      have hc1 := (hc.now hb1).now hb2
      obtain ⟨c0, c1⟩ := hc1.cells
      obtain ⟨f0, f1⟩ := frozen2 hc1
      go_wp2
      refine bodyPost_ret (v := .tuple #[.agg #[.int .i64 0, .int .i64 0], .bool false]) (by simp [results, Try.results47, go_sem, c0, c1]) rfl ?_
      rw [HZ.out.1, HZ.out.2, HO.out]
      exact ⟨rfl, ((bfrom hb0 (bfrom hb1 hb2)).setCell (by dsimp only; omega) _).setCell (by dsimp only; omega) _⟩
    | true =>
      have H1 := Lib.hid h1
      have H2 := Lib.hid h2
      have HS := Lib.hid (cmpOk_parts (show cmpOk x y u v = true from by unfold cmpOk; rw [h1, h2]; rfl))
      have HCO := Lib.hid (show cmpOk x y u v = true from by unfold cmpOk; rw [h1, h2]; rfl)
      obtain ⟨n1, n2, n3, n4, n5⟩ := add_nums HS.out.1 HS.out.2
      obtain ⟨m1, m2⟩ := HS.out.1.prods HS.out.2
      have hw1 : wrap64 (x * v) = x * v := IntWalk.wrap64_in _ (by omega)
      have hw2 : wrap64 (u * y) = u * y := IntWalk.wrap64_in _ (by omega)
      have hw3 : wrap64 (y * v) = (addD y v : Int) := by rw [n2]; exact IntWalk.wrap64_in _ (by omega)
      have hw4 : wrap64 (x * v + u * y) = (addN x y u v : Int) := by rw [n1]; exact IntWalk.wrap64_in _ (by omega)
      have HX := Lib.hid (show addX x y u v = ((addN x y u v / Nat.gcd (addN x y u v) (addD y v) : Nat) : Int) from rfl)
      have HY := Lib.hid (show addY x y u v = ((addD y v / Nat.gcd (addN x y u v) (addD y v) : Nat) : Int) from rfl)
      have HPS := Lib.hid (fun W => pwShare_any (addN x y u v) (addD y v) W n3 (by omega) (by omega))
      rw [← HX.out, ← HY.out] at HPS
      clear h1 h2 n1 n2 n3 n4 n5 m1 m2
      cases hok : sgB (addX x y u v) (addY x y u v)
      all_goals
        have HK := Lib.hid hok
        clear hok
        go_enter Try.func47, Try.ntmps47
        go_wp2_with fail
        refine (pwGood_any x y _).mono ?_
        rintro e w1 ⟨rfl, hb1⟩
        rw [H1.out]
        obtain ⟨c0, c1⟩ := (hb.now hb1).cells
        go_wp2_with fail
        refine (pwGood_any u v _).mono ?_
        rintro e w2 ⟨rfl, hb2⟩
        rw [H2.out]
        clear c0 c1
        obtain ⟨c0, c1⟩ := ((hb.now hb1).now hb2).cells
        obtain ⟨d0, d1⟩ := ((ha.now hb1).now hb2).cells
        have g2 := bfrom hb0 (bfrom hb1 hb2)
        have hc2 := (hc.now hb1).now hb2
        go_wp2_with (first
          | (go_at_call 83; (with_reducible refine (HPS.out _).mono ?_); rintro e w3 ⟨rfl, hb3⟩; have hn3 := BoxT.new 54 w3 (.int .i64 (addX x y u v)) (.int .i64 (addY x y u v)); have b3a := below1 w3 (.cells #[.int .i64 (addX x y u v), .int .i64 (addY x y u v)] 54))
          | (go_at_call 80; (with_reducible refine (pwGood_any (addX x y u v) (addY x y u v) _).mono ?_); rintro e w4 ⟨rfl, hb4⟩; rw [HK.out]; have hc4 := ((hc2.now hb3).now b3a).now hb4; obtain ⟨r0, r1⟩ := hc4.cells; obtain ⟨f0, f1⟩ := frozen2 hc4; obtain ⟨p0, p1⟩ := (hn3.now hb4).cells))
        have g4 := bfrom g2 (bfrom hb3 (bfrom b3a hb4))
        first
          | (have HO := Lib.hid (show addOk x y u v = false from by unfold addOk; rw [HCO.out, HK.out]; rfl)
             have HZ := Lib.hid (addR_no HO.out)
             refine bodyPost_ret (v := .tuple #[.agg #[.int .i64 0, .int .i64 0], .bool false]) (by simp [results, Try.results47, go_sem, r0, r1]) rfl ?_
             rw [HZ.out.1, HZ.out.2, HO.out]
             exact ⟨rfl, (g4.setCell (by dsimp only; omega) _).setCell (by dsimp only; omega) _⟩)
          | (have HO := Lib.hid (show addOk x y u v = true from by unfold addOk; rw [HCO.out, HK.out]; rfl)
             have HZ := Lib.hid (addR_yes HO.out)
             refine bodyPost_ret (v := .tuple #[.agg #[.int .i64 (addX x y u v), .int .i64 (addY x y u v)], .bool true]) (by simp [results, Try.results47, go_sem, r0, r1]) rfl ?_
             rw [HZ.out.1, HZ.out.2, HO.out]
             exact ⟨rfl, (g4.setCell (by dsimp only; omega) _).setCell (by dsimp only; omega) _⟩)

/- The program's closure, which adds one share after the other. -/
def sX (x y u v : Int) (k : Nat) : Int := if k = 0 then 0 else if k = 1 then x else addX x y u v
def sY (x y u v : Int) (k : Nat) : Int := if k = 0 then 1 else if k = 1 then y else addY x y u v
def eX (x u : Int) (k : Nat) : Int := if k = 0 then x else u
def eY (y v : Int) (k : Nat) : Int := if k = 0 then y else v
theorem add_round {x y u v : Int} {k : Nat} (hk : k < 2) (h1 : 1 ≤ k → Sg x y) (h2 : Sg (eX x u k) (eY y v k)) :
    ∃ M T : Nat, wrap64 (wrap64 (sX x y u v k * eY y v k) + wrap64 (eX x u k * sY x y u v k)) = (M : Int) ∧ wrap64 (sY x y u v k * eY y v k) = (T : Int) ∧ 0 < T ∧ M < 4611686018427387904 ∧ T < 4611686018427387904 ∧
      ((M / Nat.gcd M T : Nat) : Int) = sX x y u v (k+1) ∧ ((T / Nat.gcd M T : Nat) : Int) = sY x y u v (k+1) := by
  have : k = 0 ∨ k = 1 := by omega
  rcases this with rfl | rfl
  · have h2' : Sg x y := h2
    obtain ⟨a1, a2, a3, a4, a5⟩ := h2'
    refine ⟨x.toNat, y.toNat, ?_, ?_, by omega, by omega, by omega, ?_, ?_⟩
    · show wrap64 (wrap64 (0 * y) + wrap64 (x * 1)) = _
      rw [Int.zero_mul, Int.mul_one, IntWalk.wrap64_in 0 (by omega), IntWalk.wrap64_in x (by omega), IntWalk.wrap64_in _ (by omega)]; omega
    · show wrap64 (1 * y) = _
      rw [Int.one_mul, IntWalk.wrap64_in y (by omega)]; omega
    · rw [a5, Nat.div_one]; show _ = x; omega
    · rw [a5, Nat.div_one]; show _ = y; omega
  · have h1' := h1 (by omega)
    have h2' : Sg u v := h2
    obtain ⟨n1, n2, n3, n4, n5⟩ := add_nums h1' h2'
    obtain ⟨m1, m2⟩ := h1'.prods h2'
    refine ⟨addN x y u v, addD y v, ?_, ?_, n3, by omega, by omega, rfl, rfl⟩
    · show wrap64 (wrap64 (x * v) + wrap64 (u * y)) = _
      rw [IntWalk.wrap64_in (x * v) (by omega), IntWalk.wrap64_in (u * y) (by omega), n1, IntWalk.wrap64_in _ (by omega)]
    · show wrap64 (y * v) = _
      rw [n2, IntWalk.wrap64_in _ (by omega)]

theorem Own.now2 {w w' : World} {g : Nat} {t : TypeId} {n : Nat} {f : Nat → Value} (h : Own w g t n f) (hb : Below w.heap.size w w') : Own w' g t n f := h.below hb h.lt
theorem BoxT.set2 {t : TypeId} {w : World} {g : Nat} {u v : Value} (h : BoxT t w g u v) (a b : Value) : BoxT t ((w.setCell ⟨g, 0, none⟩ a).setCell ⟨g, 1, none⟩ b) g a b := by
  unfold BoxT at *
  simp [World.setCell, Array.getElem?_modify, h]
theorem grown_then {w w1 w2 : World} {r : Option Nat} (h : w.grownBy w1 r) (hb : Below w1.heap.size w1 w2) : w.grownBy w2 r :=
  ⟨hb.os.trans h.os, hb.tape.trans h.tape, hb.output.trans h.output, Nat.le_trans h.size hb.size, fun k hk hne => (hb.block k (Nat.lt_of_lt_of_le hk h.size)).trans (h.block k hk hne)⟩
set_option maxHeartbeats 4000000 in
theorem add1_any (x y u v : Int) (g s : Nat) (cap : Nat) (w : World) (hg : Own w g 54 4 (fun i => .int .i64 (if i % 2 = 0 then eX x u (i / 2) else eY y v (i / 2)))) (hs : BoxT 54 w s (.int .i64 0) (.int .i64 1)) (hgs : g ≠ s) :
    Calls Try.prog 84 #[.slice (some ⟨g, 0, none⟩) 2 cap, .pointer (some ⟨s, 0, none⟩)] w fun e w' =>
      e = .returned (.bool (addOk x y u v)) ∧ (addOk x y u v = true → BoxT 54 w' s (.int .i64 (addX x y u v)) (.int .i64 (addY x y u v))) ∧ w.grownBy w' (some s) := by
  have HG := Lib.hid hg
  have hgl := hg.lt
  have hsl := hs.lt
  clear hg
  have HADD := Lib.hid (show addOk x y u v = (sgB x y && sgB u v && sgB (addX x y u v) (addY x y u v)) from rfl)
  have HS2 := Lib.hid (show sX x y u v 2 = addX x y u v ∧ sY x y u v 2 = addY x y u v from ⟨rfl, rfl⟩)
  have HE := Lib.hid (show ∀ k, k < 2 → sgB (eX x u k) (eY y v k) = false → (addOk x y u v) = false from fun k hk h => by
    rw [HADD.out]
    have : k = 0 ∨ k = 1 := by omega
    rcases this with rfl | rfl
    · rw [show sgB x y = false from h]; rfl
    · rw [show sgB u v = false from h]; simp)
  have HE2 := Lib.hid (show Sg x y → Sg u v → addOk x y u v = sgB (addX x y u v) (addY x y u v) from fun a b => by rw [HADD.out, sgB_yes a, sgB_yes b]; rfl)
  go_enter Try.func84, Try.ntmps84
  go_wp2
  go_loopw [5, 8] (fun _ i wr => ∃ k : Nat, k ≤ 2 ∧ i = .int .i64 k ∧ Own wr g 54 4 (fun i => .int .i64 (if i % 2 = 0 then eX x u (i / 2) else eY y v (i / 2))) ∧ BoxT 54 wr s (.int .i64 (sX x y u v k)) (.int .i64 (sY x y u v k)) ∧ (1 ≤ k → Sg x y) ∧ (2 ≤ k → Sg u v) ∧ w.grownBy wr (some s)) (fun _ i _ => 2 - (intOf i).toNat)
  case atStart => exact ⟨0, by omega, rfl, HG.out, hs, fun h => by omega, fun h => by omega, grown_refl _ _⟩
  case round =>
    obtain ⟨k, hk, rfl, hown, hbx, hs1, hs2, hgr⟩ := hrel
    have HO := Lib.hid hown
    have H1 := Lib.hid hs1
    have H2 := Lib.hid hs2
    have HGR := Lib.hid hgr
    have hsz := hgr.size
    have hslr := hbx.lt
    have hglr := hown.lt
    clear hs1 hs2 hgr
    by_cases hlt : k < 2
    · have hc0 := hown.cell (i := k * 2) (by omega)
      have hc1 := hown.cell (i := k * 2 + 1) (by omega)
      rw [if_pos (by omega), show k * 2 / 2 = k by omega] at hc0
      rw [if_neg (by omega), show (k * 2 + 1) / 2 = k by omega] at hc1
      have HEK := Lib.hid (HE.out k hlt)
      have HRND := Lib.hid (fun h => add_round (x := x) (y := y) (u := u) (v := v) hlt H1.out h)
      have HS1 := Lib.hid (show k = 0 → eX x u k = x ∧ eY y v k = y from fun h => by subst h; exact ⟨rfl, rfl⟩)
      have HS3 := Lib.hid (show k = 1 → eX x u k = u ∧ eY y v k = v from fun h => by subst h; exact ⟨rfl, rfl⟩)
      obtain ⟨p, hp⟩ : ∃ p, p = sX x y u v k := ⟨_, rfl⟩
      obtain ⟨r, hr⟩ : ∃ r, r = sY x y u v k := ⟨_, rfl⟩
      obtain ⟨a, ha⟩ : ∃ a, a = eX x u k := ⟨_, rfl⟩
      obtain ⟨b, hb⟩ : ∃ b, b = eY y v k := ⟨_, rfl⟩
      rw [← hp, ← hr] at hbx HRND
      rw [← ha] at hc0 HEK HRND HS1 HS3
      rw [← hb] at hc1 HEK HRND HS1 HS3
      clear hown hp hr ha hb
      have hn := BoxT.new 54 wr (.int .i64 a) (.int .i64 b)
      have b1 := below1 wr (.cells #[.int .i64 a, .int .i64 b] 54)
      have hbx1 := hbx.now b1
      cases hsg : sgB a b
      · have HF := Lib.hid hsg
        have HAF := Lib.hid (HEK.out hsg)
        clear hsg
        go_wp2_with (go_at_call 82; (with_reducible refine (isShare_any a b _).mono ?_); rintro e w2 ⟨rfl, hb2⟩; rw [HF.out])
        go_ret
        refine ⟨by rw [HAF.out]; rfl, fun h => (by rw [HAF.out] at h; cases h), ?_⟩
        exact grown_then HGR.out (bfrom b1 hb2)
      · have HF := Lib.hid hsg
        obtain ⟨M, T, q1, q2, q3, q4, q5, q6, q7⟩ := HRND.out (of_decide_eq_true hsg)
        have HSG := Lib.hid (of_decide_eq_true hsg : Sg a b)
        have HQ1 := Lib.hid q1
        have HQ2 := Lib.hid q2
        have HQ6 := Lib.hid q6
        have HQ7 := Lib.hid q7
        have HLT := Lib.hid (fun W => lowestTerms_any M T W q3 q4 q5)
        clear hsg q1 q2 q6 q7
        go_wp2_with (first
          | (go_at_call 82; (with_reducible refine (isShare_any a b _).mono ?_); rintro e w2 ⟨rfl, hb2⟩; rw [HF.out]; have hn2 := hn.now hb2; have hbx2 := hbx1.now hb2; obtain ⟨s0, s1⟩ := hbx2.cells; obtain ⟨t0, t1⟩ := hn2.cells)
          | (go_at_call 85; rw [HQ1.out, HQ2.out]; (with_reducible refine (HLT.out _).mono ?_); rw [HQ6.out, HQ7.out]; rintro e w3 ⟨rfl, hb3⟩; have hbx3 := hbx2.now hb3; have hsl3 := hbx3.lt; clear s0 s1; obtain ⟨s0, s1⟩ := hbx3.cells; obtain ⟨f0, f1⟩ := frozen2 hbx3))
        have HO3 := Lib.hid ((((HO.out.alloc (.cells #[.int .i64 a, .int .i64 b] 54)).now2 hb2).now2 hb3))
        have hg3 := grown_then HGR.out (bfrom b1 (bfrom hb2 hb3))
        have HB4 := Lib.hid (hbx3.set2 (.int .i64 (sX x y u v (k+1))) (.int .i64 (sY x y u v (k+1))))
        have HG4 := Lib.hid (grown_set (grown_set hg3 0 (.int .i64 (sX x y u v (k+1)))) 1 (.int .i64 (sY x y u v (k+1))))
        have HO4 := Lib.hid ((HO3.out.far (p := ⟨s, 0, none⟩) hgs (.int .i64 (sX x y u v (k+1)))).far (p := ⟨s, 1, none⟩) hgs (.int .i64 (sY x y u v (k+1))))
        go_roundw
        case rel =>
          refine ⟨k + 1, by omega, by go_num, HO4.out, HB4.out, fun h => ?_, fun h => ?_, HG4.out⟩
          · by_cases e : k = 0
            · have := HS1.out e; have hq := HSG.out; rw [this.1, this.2] at hq; exact hq
            · exact H1.out (by omega)
          · have := HS3.out (by omega); have hq := HSG.out; rw [this.1, this.2] at hq; exact hq
        case measure => simp [intOf]; omega
    · obtain rfl : k = 2 := by omega
      have HAD := Lib.hid (HE2.out (H1.out (by omega)) (H2.out (by omega)))
      rw [HS2.out.1, HS2.out.2] at hbx
      have hgk := HGR.out
      clear hown
      obtain ⟨s0, s1⟩ := hbx.cells
      go_wp2_with (go_at_call 82; (with_reducible refine (isShare_any (addX x y u v) (addY x y u v) _).mono ?_); rintro e w2 ⟨rfl, hb2⟩)
      go_ret
      exact ⟨by rw [HAD.out]; rfl, fun _ => hbx.now hb2, grown_then hgk hb2⟩
end Go.Proofs.Ytgodohfhhedifab
