/- Desire: who is worth whom, told plainly; the program's isWorth, readPair, IsWorth, CompareMembers, AreUnlike. -/
import Derived.Test.YtgilbenbaefgfaaJ2
import Derived.Test.YtgilbenbaefgfaaDy
import Derived.Deep.RegionHeld3
import Derived.Outline
namespace Go.Proofs.Ytgilbenbaefgfaa
open Go.RowKit Vo

def duoB (m : Int) (L : List (List Int)) (x y : Int) : Bool := goodG m L && (inB x 0 (m-1) && (inB y 0 (m-1) && decide (x ≠ y)))
theorem duoB_parts {m : Int} {L : List (List Int)} {x y : Int} (h : duoB m L x y = true) : goodG m L = true ∧ (0 ≤ x ∧ x < m) ∧ (0 ≤ y ∧ y < m) ∧ x ≠ y := by
  unfold duoB inB at h
  simp only [Bool.and_eq_true, decide_eq_true_eq] at h
  exact ⟨h.1, ⟨h.2.1.1, by omega⟩, ⟨h.2.2.1.1, by omega⟩, h.2.2.2⟩
/-- Of two members of a game: is the first one worth the second one? -/
def worthG (m : Int) (L : List (List Int)) (x y : Int) : Bool := duoB m L x y && worthP (winS (setsN L)) m.toNat x.toNat y.toNat
def worthH (m : Int) (L : List (List Int)) (x y : Int) : Bool := duoB m L x y && worthP (winS (setsN L)) m.toNat y.toNat x.toNat
def cmpV (m : Int) (L : List (List Int)) (x y : Int) : Int := if worthG m L x y then (if worthH m L x y then 0 else 1) else if worthH m L x y then -1 else 0
def cmpT (m : Int) (L : List (List Int)) (x y : Int) : Bool := worthG m L x y || worthH m L x y
def unlT (m : Int) (L : List (List Int)) (x y : Int) : Bool := duoB m L x y && (!worthG m L x y && !worthH m L x y)
theorem worthG_no {m : Int} {L : List (List Int)} {x y : Int} (h : duoB m L x y = false) : worthG m L x y = false := by unfold worthG; rw [h]; rfl
theorem worthH_no {m : Int} {L : List (List Int)} {x y : Int} (h : duoB m L x y = false) : worthH m L x y = false := by unfold worthH; rw [h]; rfl
theorem cmpV_no {m : Int} {L : List (List Int)} {x y : Int} (h : duoB m L x y = false) : cmpV m L x y = 0 := by unfold cmpV; rw [worthG_no h, worthH_no h]; rfl
theorem cmpT_no {m : Int} {L : List (List Int)} {x y : Int} (h : duoB m L x y = false) : cmpT m L x y = false := by unfold cmpT; rw [worthG_no h, worthH_no h]; rfl
theorem unlT_no {m : Int} {L : List (List Int)} {x y : Int} (h : duoB m L x y = false) : unlT m L x y = false := by unfold unlT; rw [h]; rfl
theorem worthG_yes {q i j : Nat} {L : List (List Int)} (h : duoB (q : Int) L (i : Int) (j : Int) = true) : worthG (q : Int) L (i : Int) (j : Int) = worthP (winS (setsN L)) q i j := by unfold worthG; rw [h]; simp
theorem worthH_yes {q i j : Nat} {L : List (List Int)} (h : duoB (q : Int) L (i : Int) (j : Int) = true) : worthH (q : Int) L (i : Int) (j : Int) = worthP (winS (setsN L)) q j i := by unfold worthH; rw [h]; simp

set_option maxHeartbeats 2000000 in
theorem gIsWorth_any (S : List Nat) (n i j base k cap : Nat) (A : Option Addr) (w : World) (hn : n ≤ 9) (hi : i < n) (hj : j < n) (hk : k = S.length) (hkm : k ≤ 1048576) (hS : ∀ t ∈ S, t < 512) (h1 : w.ownsRow base 80 1 (.slice A k cap) k (setsV S)) :
    Calls Try.prog 71 #[.agg #[.int .i64 n, .slice A k cap], .int .i64 i, .int .i64 j] w fun e w' => e = .returned (.bool (worthP (winS S) n i j)) ∧ Below w.heap.size w w' := by
  have b1 := below1 w (.cells #[.int .i64 n, .slice A k cap] 72)
  have x1 := BoxT.new 72 w (.int .i64 n) (.slice A k cap)
  have b2 := b1.alloc (by simp) (.cells #[.int .i64 i] 3)
  have x2 := Box1.new 3 (w.alloc (.cells #[.int .i64 n, .slice A k cap] 72)) (.int .i64 i)
  have x1' := x1.alloc (.cells #[.int .i64 i] 3)
  have b3 := b2.alloc (by simp; omega) (.cells #[.int .i64 j] 3)
  have x3 := Box1.new 3 ((w.alloc (.cells #[.int .i64 n, .slice A k cap] 72)).alloc (.cells #[.int .i64 i] 3)) (.int .i64 j)
  have x2' := x2.alloc (.cells #[.int .i64 j] 3)
  have x1'' := x1'.alloc (.cells #[.int .i64 j] 3)
  simp only [World.size_alloc] at x2' x3
  have HA := Lib.hid (show Asks (worthS (winS S) i j) 93 #[] #[.pointer (some ⟨w.heap.size + 1, 0, none⟩), .pointer (some ⟨w.heap.size + 1 + 1, 0, none⟩), .pointer (some ⟨w.heap.size, 0, none⟩)] n _ from
    ⟨enters_of Try.func93 (by kernel_rfl) rfl, fun W s h hb => isWorth1_any S n n i j s base k cap _ _ _ A W hn hi hj h hk hkm hS (owns_now h1 (bfrom b3 hb)) (x2'.now hb) (x3.now hb) (x1''.now hb)⟩)
  have HB := Lib.hid (areAllSets_any (worthS (winS S) i j) _ _ _ n _ (by omega) HA.out)
  obtain ⟨c0, c1⟩ := x1''.cells
  clear h1 hk hS x1 x1' x1'' x2 x2' x3 b1 b2
  obtain ⟨r, hr⟩ : ∃ r, r = worthP (winS S) n i j := ⟨_, rfl⟩
  have HR := Lib.hid (show allK (worthS (winS S) i j) (2^n) = r from hr.symm)
  rw [HR.out] at HB
  rw [← hr]
  clear hr
  go_enter Try.func71, Try.ntmps71
  go_wp2_with fail
  refine HB.out.mono ?_
  rintro e w3 ⟨rfl, hb3⟩
  go_wp2
  go_ret
  exact ⟨rfl, bfrom b3 hb3⟩

theorem duoB_mem (m : Int) (L : List (List Int)) (x y : Int) : duoB m L x y = (memG m L x && (inB y 0 (m-1) && decide (x ≠ y))) := by unfold duoB memG; rw [Bool.and_assoc]
theorem BoxT.put {t : TypeId} {w : World} {g : Nat} {x y : Value} (h : BoxT t w g x y) (a b : Value) : BoxT t ((w.setCell ⟨g, 0, none⟩ a).setCell ⟨g, 1, none⟩ b) g a b := by
  unfold BoxT at *
  simp [World.setCell, Array.getElem?_modify, h]
theorem frozen_boxT {t : TypeId} {w : World} {g : Nat} {a b : Value} (h : BoxT t w g a b) : w.frozen? ⟨g, 0, none⟩ = false ∧ w.frozen? ⟨g, 1, none⟩ = false := by
  unfold BoxT at h; exact ⟨by simp [World.frozen?, h], by simp [World.frozen?, h]⟩
theorem kept2a {t t' : TypeId} {w : World} {p g : Nat} {u v x y : Value} (hx : BoxT t w p u v) (hr : BoxT t' w g x y) :
    w.cell? ⟨p, 0, none⟩ = some u ∧ w.cell? ⟨p, 1, none⟩ = some v ∧ (w.cell? ⟨g, 0, none⟩).isSome = true ∧ (w.cell? ⟨g, 1, none⟩).isSome = true ∧ w.frozen? ⟨g, 0, none⟩ = false ∧ w.frozen? ⟨g, 1, none⟩ = false := by
  obtain ⟨a0, a1⟩ := hx.cells
  obtain ⟨b0, b1⟩ := hr.cells
  obtain ⟨f0, f1⟩ := frozen_boxT hr
  exact ⟨a0, a1, by rw [b0]; rfl, by rw [b1]; rfl, f0, f1⟩
theorem kept2 {t t' : TypeId} {w : World} {p g : Nat} {u v x y a b : Value} (hx : BoxT t w p u v) (hr : BoxT t' w g x y) (hne : p ≠ g) :
    ((w.setCell ⟨g, 0, none⟩ a).setCell ⟨g, 1, none⟩ b).cell? ⟨p, 0, none⟩ = some u ∧ ((w.setCell ⟨g, 0, none⟩ a).setCell ⟨g, 1, none⟩ b).cell? ⟨p, 1, none⟩ = some v ∧ (((w.setCell ⟨g, 0, none⟩ a).setCell ⟨g, 1, none⟩ b).cell? ⟨g, 0, none⟩).isSome = true ∧ (((w.setCell ⟨g, 0, none⟩ a).setCell ⟨g, 1, none⟩ b).cell? ⟨g, 1, none⟩).isSome = true ∧ ((w.setCell ⟨g, 0, none⟩ a).setCell ⟨g, 1, none⟩ b).frozen? ⟨g, 0, none⟩ = false ∧ ((w.setCell ⟨g, 0, none⟩ a).setCell ⟨g, 1, none⟩ b).frozen? ⟨g, 1, none⟩ = false :=
  kept2a ((hx.far (p := ⟨g, 0, none⟩) hne a).far (p := ⟨g, 1, none⟩) hne b) (hr.put a b)
/-- Two members of a game read: who of them is worth the other. -/
def ReadP (m : Int) (L : List (List Int)) (x y : Int) (w w' : World) (e : Ending) : Prop :=
  e = .returned (.tuple #[.agg #[.bool (worthG m L x y), .bool (worthH m L x y)], .bool (duoB m L x y)]) ∧ Below w.heap.size w w'

set_option maxRecDepth 20000 in
set_option maxHeartbeats 8000000 in
theorem readPair_any (m : Int) (A : Option Addr) (n cap : Nat) (L : List (List Int)) (x y : Int) (w : World) (hl : n ≤ 1048576) (hk : Lists w A n L) :
    Calls Try.prog 45 #[.agg #[.int .i64 m, .slice A n cap], .int .i64 x, .int .i64 y] w fun e w' => ReadP m L x y w w' e := by
  have HLEN := Lib.hid hk.1
  have hb0 : Below w.heap.size w ((w.alloc (.cells #[.int .i64 m, .slice A n cap] 28)).alloc (.cells #[.bool false, .bool false] 63)) := (below1 w _).alloc (by simp) _
  have HK := Lib.hid (hk.now hb0)
  have hx := (BoxT.new 28 w (.int .i64 m) (.slice A n cap)).alloc (.cells #[.bool false, .bool false] 63)
  have hr := BoxT.new 63 (w.alloc (.cells #[.int .i64 m, .slice A n cap] 28)) (.bool false) (.bool false)
  simp only [World.size_alloc] at hr
  clear hk
  have KF := Lib.hid (show ∀ W a b, BoxT 63 W (w.heap.size + 1) a b → (W.frozen? ⟨w.heap.size + 1, 0, none⟩ = false ∧ W.frozen? ⟨w.heap.size + 1, 1, none⟩ = false) from fun W a b h => by unfold BoxT at h; exact ⟨by simp [World.frozen?, h], by simp [World.frozen?, h]⟩)
  obtain ⟨c0, c1⟩ := hx.cells
  have HM := Lib.hid (duoB_mem m L x y)
  go_enter Try.func45, Try.ntmps45
  go_wp2_with fail
  refine (readGameAndMember_any m A n cap L x _ hl HK.out).mono ?_
  rintro e w1 ⟨hb1, h⟩
  have g1 := bfrom hb0 hb1
  have hr1 := hr.now hb1
  have hzr : w.heap.size + 1 < w1.heap.size := hr1.lt
  simp only [World.size_alloc] at h
  clear hx hr hb1 c0 c1 HK
  rcases h with ⟨hmg, B, cp, rfl, hown⟩ | ⟨hmg, rfl⟩
  · obtain ⟨hg, q', i, hmq, rfl, hiq, hq9⟩ := memG_parts hmg
    obtain ⟨q, hq⟩ : ∃ q, q = q' + 1 := ⟨_, rfl⟩
    rw [← hq] at hmq hiq hq9
    subst hmq
    clear hq
    obtain ⟨h1, h9, _, hr9, _⟩ := goodG_parts hg
    rw [Int.toNat_natCast] at hr9
    rw [HLEN.out] at hown ⊢
    rw [hmg] at HM
    have HSN := Lib.hid (show n = (setsN L).length from by rw [← HLEN.out]; simp [setsN])
    have HS5 := Lib.hid (setsN_512 hq9 hr9)
    have b2 := below1 w1 (.cells #[.int .i64 q, .slice B n cp] 72)
    have hy := BoxT.new 72 w1 (.int .i64 q) (.slice B n cp)
    have hr2 := hr1.now b2
    have HO := Lib.hid (owns_now hown b2)
    obtain ⟨w2, hw2⟩ : ∃ w2, w2 = w1.alloc (.cells #[.int .i64 q, .slice B n cp] 72) := ⟨_, rfl⟩
    have hz2 : w2.heap.size = w1.heap.size + 1 := by rw [hw2]; simp
    have hgw : Below w.heap.size w w2 := by rw [hw2]; exact bfrom g1 b2
    rw [← hw2] at hy hr2 HO
    obtain ⟨d0, d1⟩ := hy.cells
    obtain ⟨c2, c3⟩ := hr2.cells
    obtain ⟨f0, f1⟩ := KF.out _ _ _ hr2
    clear hown hr1 g1 b2 h1 h9 hr9
    cases hin : inB y 0 ((q : Int) - 1) with
    | false =>
      have HIN := Lib.hid hin
      have HD := Lib.hid (show duoB (q : Int) L (i : Int) y = false from by rw [HM.out, hin]; rfl)
      have HV := Lib.hid (worthG_no HD.out)
      have HH := Lib.hid (worthH_no HD.out)
      clear hin hmg hg
      go_wp2_with fail
      rw [← hw2]
      clear hw2
      refine (isMember_z q y _).mono ?_
      rintro e w3 ⟨rfl, rfl⟩
      rw [HIN.out]
      go_wp2
      refine bodyPost_ret (v := .tuple #[.agg #[.bool false, .bool false], .bool false]) (by simp [results, Try.results45, go_sem, c2, c3]) rfl ⟨by rw [HV.out, HH.out, HD.out], (hgw.setCell (by simp) _).setCell (by simp) _⟩
    | true =>
      have HIN := Lib.hid hin
      obtain ⟨hy0, hyq⟩ := (inside q y).1 hin
      rw [hin] at HM
      clear hin
      obtain ⟨j, rfl⟩ : ∃ j : Nat, y = j := ⟨y.toNat, by omega⟩
      have hjq : j < q := by omega
      by_cases he : i = j
      · have HD := Lib.hid (show duoB (q : Int) L (i : Int) (j : Int) = false from by rw [HM.out, decide_eq_false (fun h => h (by omega))]; rfl)
        have HV := Lib.hid (worthG_no HD.out)
        have HH := Lib.hid (worthH_no HD.out)
        subst he
        clear hmg hg
        go_wp2_with fail
        rw [← hw2]
        clear hw2
        refine (isMember_z q i _).mono ?_
        rintro e w3 ⟨rfl, rfl⟩
        rw [HIN.out]
        go_wp2
        refine bodyPost_ret (v := .tuple #[.agg #[.bool false, .bool false], .bool false]) (by simp [results, Try.results45, go_sem, c2, c3]) rfl ⟨by rw [HV.out, HH.out, HD.out], (hgw.setCell (by simp) _).setCell (by simp) _⟩
      · have hne : ((i : Int) == (j : Int)) = false := beq_false_of_ne (by omega)
        have HD := Lib.hid (show duoB (q : Int) L (i : Int) (j : Int) = true from by rw [HM.out, decide_eq_true (show (i : Int) ≠ (j : Int) by omega)]; rfl)
        have HV := Lib.hid (worthG_yes HD.out)
        have HH := Lib.hid (worthH_yes HD.out)
        have HW1 := Lib.hid (fun W hb => gIsWorth_any (setsN L) q i j _ n cp B W hq9 hiq hjq HSN.out hl HS5.out (owns_now HO.out hb))
        have HW2 := Lib.hid (fun W hb => gIsWorth_any (setsN L) q j i _ n cp B W hq9 hjq hiq HSN.out hl HS5.out (owns_now HO.out hb))
        obtain ⟨a, ha⟩ : ∃ a, a = worthP (winS (setsN L)) q i j := ⟨_, rfl⟩
        obtain ⟨b, hb⟩ : ∃ b, b = worthP (winS (setsN L)) q j i := ⟨_, rfl⟩
        simp only [← ha] at HW1
        simp only [← hb] at HW2
        rw [← ha] at HV
        rw [← hb] at HH
        have hne2 : w1.heap.size ≠ w.heap.size + 1 := by omega
        have KX := Lib.hid (fun W (h : Below w2.heap.size w2 W) => kept2a (hy.now h) (hr2.now h))
        have KP := Lib.hid (fun W a b (h : Below w2.heap.size w2 W) => kept2 (a := a) (b := b) (hy.now h) (hr2.now h) hne2)
        have KR := Lib.hid (fun W a b (h : Below w2.heap.size w2 W) => ((hr2.now h).put a b).cells)
        have k0 := KX.out _ (Below.refl _ _)
        have HRC := Lib.hid (fun W (h : Below w2.heap.size w2 W) => (hr2.now h).cells)
        have HRF := Lib.hid (fun W (h : Below w2.heap.size w2 W) => frozen_boxT (hr2.now h))
        clear hmg hg ha hb he hy hr2 c2 c3 f0 f1
        go_wp2_with fail
        rw [← hw2]
        clear hw2
        refine (isMember_z q j _).mono ?_
        rintro e w3 ⟨rfl, rfl⟩
        rw [HIN.out]
        go_wp2_with fail
        go_region_held3 (fun w' => w'.cell? ⟨w1.heap.size, 0, none⟩ = some (.int .i64 q) ∧ w'.cell? ⟨w1.heap.size, 1, none⟩ = some (.slice B n cp) ∧ (w'.cell? ⟨w.heap.size + 1, 0, none⟩).isSome = true ∧ (w'.cell? ⟨w.heap.size + 1, 1, none⟩).isSome = true ∧ w'.frozen? ⟨w.heap.size + 1, 0, none⟩ = false ∧ w'.frozen? ⟨w.heap.size + 1, 1, none⟩ = false)
          (first | exact k0 | exact k3 | exact k4 | exact k5 | go_keep)
          (first
            | (go_at_call 71; refine (HW1.out _ (Below.refl _ _).drew).mono ?_; rintro e w4 ⟨rfl, hb4⟩; have b4 := bfrom (Below.refl _ w2).drew hb4; have k3 := KX.out _ b4)
            | (go_at_call 71; refine (HW2.out _ b4).mono ?_; rintro e w5 ⟨rfl, hb5⟩; have b5 := bfrom b4 hb5; have k4 := KX.out _ b5; have k5 := KP.out w5 (.bool a) (.bool b) b5; obtain ⟨p0, p1⟩ := HRC.out _ b5; obtain ⟨f0, f1⟩ := HRF.out _ b5))
        all_goals
          obtain ⟨e0, e1⟩ := KR.out _ (.bool a) (.bool b) b5
          have hgr := bfrom hgw b5
          go_wp2
          refine bodyPost_ret (v := .tuple #[.agg #[.bool a, .bool b], .bool true]) (by simp [results, Try.results45, go_sem, e0, e1]) rfl ⟨by rw [HV.out, HH.out, HD.out], (hgr.setCell (by simp) _).setCell (by simp) _⟩
  · have HD := Lib.hid (show duoB m L x y = false from by rw [HM.out, hmg]; rfl)
    have HV := Lib.hid (worthG_no HD.out)
    have HH := Lib.hid (worthH_no HD.out)
    obtain ⟨f2, f3⟩ := KF.out _ _ _ hr1
    obtain ⟨e2, e3⟩ := hr1.cells
    have q0 : ((w1.setCell ⟨w.heap.size + 1, 0, none⟩ (.bool false)).setCell ⟨w.heap.size + 1, 1, none⟩ (.bool false)).cell? ⟨w.heap.size + 1, 0, none⟩ = some (.bool false) := by simp [go_sem, e2]
    have q1 : ((w1.setCell ⟨w.heap.size + 1, 0, none⟩ (.bool false)).setCell ⟨w.heap.size + 1, 1, none⟩ (.bool false)).cell? ⟨w.heap.size + 1, 1, none⟩ = some (.bool false) := by simp [go_sem, e3]
    have hgs : Below w.heap.size w ((w1.setCell ⟨w.heap.size + 1, 0, none⟩ (.bool false)).setCell ⟨w.heap.size + 1, 1, none⟩ (.bool false)) := (g1.setCell (by simp) _).setCell (by simp) _
    have k0 := ((below1 ((w1.setCell ⟨w.heap.size + 1, 0, none⟩ (.bool false)).setCell ⟨w.heap.size + 1, 1, none⟩ (.bool false)) (.cells #[.int .i64 0, .slice none 0 0] 72)).cell (p := ⟨w.heap.size + 1, 0, none⟩) (by simp; omega)).trans q0
    have k1 := ((below1 ((w1.setCell ⟨w.heap.size + 1, 0, none⟩ (.bool false)).setCell ⟨w.heap.size + 1, 1, none⟩ (.bool false)) (.cells #[.int .i64 0, .slice none 0 0] 72)).cell (p := ⟨w.heap.size + 1, 1, none⟩) (by simp; omega)).trans q1
    clear hmg q0 q1
    have K0 := Lib.hid k0
    have K1 := Lib.hid k1
    clear k0 k1
    go_wp2
    refine bodyPost_ret (v := .tuple #[.agg #[.bool false, .bool false], .bool false]) (by simp [results, Try.results45, go_sem, K0.out, K1.out]) rfl ⟨by rw [HV.out, HH.out, HD.out], hgs.alloc hgs.size _⟩

set_option maxHeartbeats 2000000 in
theorem iIsWorth_any (m : Int) (A : Option Addr) (n cap : Nat) (L : List (List Int)) (x y : Int) (w : World) (hl : n ≤ 1048576) (hk : Lists w A n L) (_hxw : (Lit.int .i64 x).wf = true) (_hyw : (Lit.int .i64 y).wf = true) :
    Calls Try.prog 14 #[.agg #[.int .i64 m, .slice A n cap], .int .i64 x, .int .i64 y] w fun e w' => e = .returned (.tuple #[.bool (worthG m L x y), .bool (duoB m L x y)]) ∧ Below w.heap.size w w' := by
  have hx := BoxT.new 28 w (.int .i64 m) (.slice A n cap)
  have hb0 := below1 w (.cells #[.int .i64 m, .slice A n cap] 28)
  have HP := Lib.hid (readPair_any m A n cap L x y _ hl (hk.now hb0))
  unfold ReadP at HP
  clear hk
  obtain ⟨c0, c1⟩ := hx.cells
  generalize worthG m L x y = a at *
  generalize worthH m L x y = b at *
  generalize duoB m L x y = d at *
  go_enter Try.func14, Try.ntmps14
  go_wp2_with fail
  refine HP.out.mono ?_
  rintro e w1 ⟨rfl, hb1⟩
  go_wp2
  go_ret2
  exact ⟨rfl, (bfrom hb0 hb1).alloc (bfrom hb0 hb1).size _⟩

set_option maxHeartbeats 2000000 in
theorem compare_any (a b : Bool) (w : World) :
    Calls Try.prog 48 #[.agg #[.bool a, .bool b]] w fun e w' => e = .returned (.tuple #[.int .i64 (if a then (if b then 0 else 1) else if b then -1 else 0), .bool (a || b)]) ∧ Below w.heap.size w w' := by
  have hb0 := below1 w (.cells #[.bool a, .bool b] 63)
  have hx := BoxT.new 63 w (.bool a) (.bool b)
  obtain ⟨c0, c1⟩ := hx.cells
  cases a
  all_goals cases b
  all_goals
    go_enter Try.func48, Try.ntmps48
    go_wp2
    go_ret2
    exact ⟨rfl, hb0⟩

set_option maxHeartbeats 2000000 in
theorem isUnlike_any (a b : Bool) (w : World) :
    Calls Try.prog 49 #[.agg #[.bool a, .bool b]] w fun e w' => e = .returned (.bool (!a && !b)) ∧ Below w.heap.size w w' := by
  have hb0 := below1 w (.cells #[.bool a, .bool b] 63)
  have hx := BoxT.new 63 w (.bool a) (.bool b)
  obtain ⟨c0, c1⟩ := hx.cells
  cases a
  all_goals cases b
  all_goals
    go_enter Try.func49, Try.ntmps49
    go_wp2
    go_ret
    exact ⟨rfl, hb0⟩

set_option maxHeartbeats 2000000 in
theorem iCompareMembers_any (m : Int) (A : Option Addr) (n cap : Nat) (L : List (List Int)) (x y : Int) (w : World) (hl : n ≤ 1048576) (hk : Lists w A n L) (_hxw : (Lit.int .i64 x).wf = true) (_hyw : (Lit.int .i64 y).wf = true) :
    Calls Try.prog 17 #[.agg #[.int .i64 m, .slice A n cap], .int .i64 x, .int .i64 y] w fun e w' => e = .returned (.tuple #[.int .i64 (cmpV m L x y), .bool (cmpT m L x y)]) ∧ Below w.heap.size w w' := by
  have hx := BoxT.new 28 w (.int .i64 m) (.slice A n cap)
  have hb0 := below1 w (.cells #[.int .i64 m, .slice A n cap] 28)
  have HP := Lib.hid (readPair_any m A n cap L x y _ hl (hk.now hb0))
  unfold ReadP at HP
  clear hk
  obtain ⟨c0, c1⟩ := hx.cells
  have HN1 := Lib.hid (fun h => cmpV_no (m := m) (L := L) (x := x) (y := y) h)
  have HN2 := Lib.hid (fun h => cmpT_no (m := m) (L := L) (x := x) (y := y) h)
  have HCV := Lib.hid (show cmpV m L x y = (if worthG m L x y then (if worthH m L x y then 0 else 1) else if worthH m L x y then -1 else 0) from rfl)
  have HCT := Lib.hid (show cmpT m L x y = (worthG m L x y || worthH m L x y) from rfl)
  generalize worthG m L x y = a at *
  generalize worthH m L x y = b at *
  cases hd : duoB m L x y with
  | false =>
    rw [hd] at HP
    have H1 := Lib.hid (HN1.out hd)
    have H2 := Lib.hid (HN2.out hd)
    clear hd HN1 HN2
    go_enter Try.func17, Try.ntmps17
    go_wp2_with fail
    refine HP.out.mono ?_
    rintro e w1 ⟨rfl, hb1⟩
    go_wp2
    go_ret2
    exact ⟨by rw [H1.out, H2.out]; rfl, (bfrom hb0 hb1).alloc (bfrom hb0 hb1).size _⟩
  | true =>
    rw [hd] at HP
    clear hd HN1 HN2
    have HC := Lib.hid (fun W => compare_any a b W)
    rw [← HCV.out, ← HCT.out] at HC
    generalize cmpV m L x y = v at *
    generalize cmpT m L x y = t at *
    go_enter Try.func17, Try.ntmps17
    go_wp2_with fail
    refine HP.out.mono ?_
    rintro e w1 ⟨rfl, hb1⟩
    have g1 := bfrom hb0 hb1
    have b2 := below1 w1 (.cells #[.bool a, .bool b] 63)
    obtain ⟨d0, d1⟩ := (BoxT.new 63 w1 (.bool a) (.bool b)).cells
    go_wp2_with fail
    refine (HC.out _).mono ?_
    rintro e w2 ⟨rfl, hb2⟩
    go_wp2
    go_ret2
    exact ⟨rfl, bfrom (bfrom g1 b2) hb2⟩

set_option maxHeartbeats 2000000 in
theorem iAreUnlike_any (m : Int) (A : Option Addr) (n cap : Nat) (L : List (List Int)) (x y : Int) (w : World) (hl : n ≤ 1048576) (hk : Lists w A n L) (_hxw : (Lit.int .i64 x).wf = true) (_hyw : (Lit.int .i64 y).wf = true) :
    Calls Try.prog 19 #[.agg #[.int .i64 m, .slice A n cap], .int .i64 x, .int .i64 y] w fun e w' => e = .returned (.tuple #[.bool (unlT m L x y), .bool (duoB m L x y)]) ∧ Below w.heap.size w w' := by
  have hx := BoxT.new 28 w (.int .i64 m) (.slice A n cap)
  have hb0 := below1 w (.cells #[.int .i64 m, .slice A n cap] 28)
  have HP := Lib.hid (readPair_any m A n cap L x y _ hl (hk.now hb0))
  unfold ReadP at HP
  clear hk
  obtain ⟨c0, c1⟩ := hx.cells
  have HU := Lib.hid (show unlT m L x y = (duoB m L x y && (!worthG m L x y && !worthH m L x y)) from rfl)
  generalize worthG m L x y = a at *
  generalize worthH m L x y = b at *
  cases hd : duoB m L x y with
  | false =>
    rw [hd] at HP HU
    clear hd
    go_enter Try.func19, Try.ntmps19
    go_wp2_with fail
    refine HP.out.mono ?_
    rintro e w1 ⟨rfl, hb1⟩
    go_wp2
    go_ret2
    exact ⟨by rw [HU.out]; rfl, (bfrom hb0 hb1).alloc (bfrom hb0 hb1).size _⟩
  | true =>
    rw [hd] at HP HU
    clear hd
    have HC := Lib.hid (fun W => isUnlike_any a b W)
    go_enter Try.func19, Try.ntmps19
    go_wp2_with fail
    refine HP.out.mono ?_
    rintro e w1 ⟨rfl, hb1⟩
    have g1 := bfrom hb0 hb1
    have b2 := below1 w1 (.cells #[.bool a, .bool b] 63)
    obtain ⟨d0, d1⟩ := (BoxT.new 63 w1 (.bool a) (.bool b)).cells
    go_wp2_with fail
    refine (HC.out _).mono ?_
    rintro e w2 ⟨rfl, hb2⟩
    go_wp2
    go_ret2
    exact ⟨by rw [HU.out]; rfl, bfrom (bfrom g1 b2) hb2⟩
end Go.Proofs.Ytgilbenbaefgfaa
