/- Contracts of rules that are the same: areSameRules, DoesFitGame of the program. -/
import Derived.Test.YtipplbcjdcdapabWr
import Derived.Deep.RegionHeld3
namespace Go.Proofs.Ytipplbcjdcdapab
open Go.RowKit Vo

theorem pow_ne {a b : Nat} (h : ¬ a = b) : ¬ ((2^a - 1 : Nat) : Int) = ((2^b - 1 : Nat) : Int) := by
  intro e
  have ha := Nat.two_pow_pos a
  have hb := Nat.two_pow_pos b
  rcases Nat.lt_or_gt_of_ne h with l | l
  · have := Nat.pow_lt_pow_right (a := 2) (by omega) l; omega
  · have := Nat.pow_lt_pow_right (a := 2) (by omega) l; omega

set_option maxRecDepth 20000 in
set_option maxHeartbeats 2000000 in
theorem same1_any (p1 p2 : Nat → Bool) (n s : Nat) (T1 T2 : TypeId) (x1 x2 : Value) (k1 k2 g1 g2 : Nat) (w : World) (h1 : AsksM p1 T1 x1 k1 n w) (h2 : AsksM p2 T2 x2 k2 n w) (hs : s < 2^n) (hg1 : g1 < w.heap.size) (hg2 : g2 < w.heap.size)
    (hc1 : w.cell? ⟨g1, 0, none⟩ = some (.iface T1 x1)) (hc2 : w.cell? ⟨g2, 0, none⟩ = some (.iface T2 x2)) :
    Calls Try.prog 71 #[.int .u64 s, .pointer (some ⟨g1, 0, none⟩), .pointer (some ⟨g2, 0, none⟩)] w fun e w' => e = .returned (.bool (p1 s == p2 s)) ∧ Below w.heap.size w w' := by
  have H1 := Lib.hid h1
  have H2 := Lib.hid h2
  have e1 := h1.enters
  have e2 := h2.enters
  have m1 := h1.mw
  have m2 := h2.mw
  have K := Lib.hid (show ∀ W, Below w.heap.size w W → (W.cell? ⟨g1, 0, none⟩ = some (.iface T1 x1) ∧ W.cell? ⟨g2, 0, none⟩ = some (.iface T2 x2)) from fun W hb => ⟨(hb.cell (p := ⟨g1, 0, none⟩) hg1).trans hc1, (hb.cell (p := ⟨g2, 0, none⟩) hg2).trans hc2⟩)
  obtain ⟨r1, hr1⟩ : ∃ r, r = p1 s := ⟨_, rfl⟩
  obtain ⟨r2, hr2⟩ : ∃ r, r = p2 s := ⟨_, rfl⟩
  have R1 := Lib.hid hr1
  have R2 := Lib.hid hr2
  rw [← hr1, ← hr2]
  clear h1 h2 hr1 hr2
  go_enter Try.func71, Try.ntmps71
  go_wp2_with fail
  go_region_held3 (fun w' => w'.cell? ⟨g1, 0, none⟩ = some (.iface T1 x1) ∧ w'.cell? ⟨g2, 0, none⟩ = some (.iface T2 x2))
    (first | exact ⟨b0, b1⟩ | exact ⟨a0, a1⟩ | exact ⟨hc1, hc2⟩ | go_keep)
    (first
      | (go_at_fn k2; refine (H2.out.gives _ s hs gA).mono ?_; rw [← R2.out]; rintro e wB ⟨rfl, hbB⟩; have gB := bfrom gA hbB; obtain ⟨b0, b1⟩ := K.out _ gB)
      | (go_at_fn k1; refine (H1.out.gives _ s hs (Below.refl _ _).drew).mono ?_; rw [← R1.out]; rintro e wA ⟨rfl, hbA⟩; have gA := bfrom (Below.refl _ _).drew hbA; obtain ⟨a0, a1⟩ := K.out _ gA))
  all_goals
    go_wp2
    go_ret
    exact ⟨rfl, gB⟩

def sameV (p1 p2 : Nat → Bool) (n1 n2 : Nat) : Bool := decide (n1 = n2) && allK (fun s => p1 s == p2 s) (2^n1)

set_option maxRecDepth 20000 in
set_option maxHeartbeats 4000000 in
theorem areSameRules_any (p1 p2 : Nat → Bool) (n1 n2 : Nat) (T1 T2 : TypeId) (x1 x2 : Value) (ke1 kw1 ke2 kw2 : Nat) (w : World) (hn1 : n1 < 10) (hn2 : n2 < 10) (hr1 : Rule p1 n1 T1 x1 ke1 kw1 w) (hr2 : Rule p2 n2 T2 x2 ke2 kw2 w) :
    Calls Try.prog 41 #[.iface T1 x1, .iface T2 x2] w fun e w' => e = .returned (.bool (sameV p1 p2 n1 n2)) ∧ Below w.heap.size w w' := by
  have H1 := Lib.hid hr1
  have H2 := Lib.hid hr2
  have ee1 := hr1.ee
  have me1 := hr1.me
  have ee2 := hr2.ee
  have me2 := hr2.me
  have h512 := pow_lt (n := n1) (by omega)
  have hs512 : 2^n1 - 1 < 512 := by omega
  have HMA := Lib.hid (mem_all n1 hn1)
  clear hr1 hr2
  have hb0 : Below w.heap.size w ((w.alloc (.cells #[.iface T1 x1] 101)).alloc (.cells #[.iface T2 x2] 101)) := (below1 w _).alloc (by simp) _
  have hx := (own_new w (.iface T1 x1) 101).alloc (.cells #[.iface T2 x2] 101)
  have hy := own_new (w.alloc (.cells #[.iface T1 x1] 101)) (.iface T2 x2) 101
  simp only [World.size_alloc] at hy
  obtain ⟨w0, hw0⟩ : ∃ w0, w0 = (w.alloc (.cells #[.iface T1 x1] 101)).alloc (.cells #[.iface T2 x2] 101) := ⟨_, rfl⟩
  have HW0 := Lib.hid hw0
  rw [← hw0] at hb0 hx hy
  have hlx := hx.lt
  have hly := hy.lt
  have K := Lib.hid (show ∀ W, Below w0.heap.size w0 W → (W.cell? ⟨w.heap.size, 0, none⟩ = some (.iface T1 x1) ∧ W.cell? ⟨w.heap.size + 1, 0, none⟩ = some (.iface T2 x2)) from fun W hb => ⟨(hx.below hb hlx).cell (i := 0) (by omega), (hy.below hb hly).cell (i := 0) (by omega)⟩)
  have R1 := Lib.hid (H1.out.now hb0)
  have R2 := Lib.hid (H2.out.now hb0)
  clear hw0
  by_cases hnn : n1 = n2
  · subst hnn
    have HV := Lib.hid (show sameV p1 p2 n1 n1 = allK (fun s => p1 s == p2 s) (2^n1) from by unfold sameV; rw [decide_eq_true rfl, Bool.true_and])
    rw [HV.out]
    go_enter Try.func41, Try.ntmps41
    go_wp2_with fail
    rw [← HW0.out]
    obtain ⟨c0, c1⟩ := K.out _ (Below.refl _ _)
    go_region_held3 (fun w' => w'.cell? ⟨w.heap.size, 0, none⟩ = some (.iface T1 x1) ∧ w'.cell? ⟨w.heap.size + 1, 0, none⟩ = some (.iface T2 x2))
      (first | exact ⟨b0, b1⟩ | exact ⟨a0, a1⟩ | exact ⟨c0, c1⟩ | go_keep)
      (first
        | (go_at_fn ke2; refine (R2.out.ge _ gA).mono ?_; rintro e wB ⟨rfl, hbB⟩; have gB := bfrom gA hbB; obtain ⟨b0, b1⟩ := K.out _ gB)
        | (go_at_fn ke1; refine (R1.out.ge _ (Below.refl _ _).drew).mono ?_; rintro e wA ⟨rfl, hbA⟩; have gA := bfrom (Below.refl _ _).drew hbA; obtain ⟨a0, a1⟩ := K.out _ gA))
    all_goals
      have AS := Lib.hid (fun (W : World) (hW : Below w0.heap.size w0 W) => (show Asks (fun s => p1 s == p2 s) 71 #[] #[.pointer (some ⟨w.heap.size, 0, none⟩), .pointer (some ⟨w.heap.size + 1, 0, none⟩)] n1 W from
        ⟨enters_of Try.func71 (by kernel_rfl) rfl, fun W' s hs hb => same1_any p1 p2 n1 s T1 T2 x1 x2 kw1 kw2 w.heap.size (w.heap.size + 1) W' (R1.out.asks.now (bfrom hW hb)) (R2.out.asks.now (bfrom hW hb)) hs (by have := hW.size; have := hb.size; omega) (by have := hW.size; have := hb.size; omega) (K.out _ (bfrom hW hb)).1 (K.out _ (bfrom hW hb)).2⟩))
      clear c0 c1 a0 a1
      go_wp2_with (first
        | (go_at_fn ke1; refine (R1.out.ge _ gB).mono ?_; rintro e wC ⟨rfl, hbC⟩; have gC := bfrom gB hbC)
        | (go_at_call 60; refine (size_any (2^n1-1) _ hs512).mono ?_; rintro e w' ⟨rfl, rfl⟩; rw [HMA.out]))
      refine (areAllSets_any (fun s => p1 s == p2 s) _ _ _ n1 _ hn1 (AS.out _ gC)).mono ?_
      rintro e wD ⟨rfl, hbD⟩
      go_wp2
      go_ret
      exact ⟨rfl, bfrom hb0 (bfrom gC hbD)⟩
  · have HV := Lib.hid (show sameV p1 p2 n1 n2 = false from by unfold sameV; rw [decide_eq_false hnn, Bool.false_and])
    have hne := pow_ne hnn
    have hne2 : (((2^n1 - 1 : Nat) : Int) != ((2^n2 - 1 : Nat) : Int)) = true := by simp only [bne_iff_ne, ne_eq]; exact hne
    obtain ⟨P1, hP1⟩ : ∃ P, P = ((2^n1 - 1 : Nat) : Int) := ⟨_, rfl⟩
    obtain ⟨P2, hP2⟩ : ∃ P, P = ((2^n2 - 1 : Nat) : Int) := ⟨_, rfl⟩
    have HP1 := Lib.hid hP1
    have HP2 := Lib.hid hP2
    rw [← hP1, ← hP2] at hne2 hne
    clear hP1 hP2
    rw [HV.out]
    go_enter Try.func41, Try.ntmps41
    go_wp2_with fail
    rw [← HW0.out]
    obtain ⟨c0, c1⟩ := K.out _ (Below.refl _ _)
    go_region_held3 (fun w' => w'.cell? ⟨w.heap.size, 0, none⟩ = some (.iface T1 x1) ∧ w'.cell? ⟨w.heap.size + 1, 0, none⟩ = some (.iface T2 x2))
      (first | exact ⟨b0, b1⟩ | exact ⟨a0, a1⟩ | exact ⟨c0, c1⟩ | go_keep)
      (first
        | (go_at_fn ke2; refine (R2.out.ge _ gA).mono ?_; rw [← HP2.out]; rintro e wB ⟨rfl, hbB⟩; have gB := bfrom gA hbB; obtain ⟨b0, b1⟩ := K.out _ gB)
        | (go_at_fn ke1; refine (R1.out.ge _ (Below.refl _ _).drew).mono ?_; rw [← HP1.out]; rintro e wA ⟨rfl, hbA⟩; have gA := bfrom (Below.refl _ _).drew hbA; obtain ⟨a0, a1⟩ := K.out _ gA))
    all_goals
      go_wp2
      go_ret
      exact ⟨rfl, bfrom hb0 gB⟩

def fitOk (q : Int) (ws : List Int) (n : Nat) (m : Int) (L : List (List Int)) : Bool := goodB q ws n && goodG m L
def fitV (q : Int) (ws : List Int) (n : Nat) (m : Int) (L : List (List Int)) : Bool := fitOk q ws n m L && sameV (winB q ws n) (winS (setsN L)) n m.toNat
theorem fitV_no {q ws n m L} (h : fitOk q ws n m L = false) : fitV q ws n m L = false := by unfold fitV; rw [h]; rfl
theorem fitV_yes {q ws n m L} (h : fitOk q ws n m L = true) : fitV q ws n m L = sameV (winB q ws n) (winS (setsN L)) n m.toNat := by unfold fitV; rw [h]; rfl

set_option maxRecDepth 20000 in
set_option maxHeartbeats 4000000 in
theorem doesFitGame_any (q : Int) (A : Option Addr) (n cap : Nat) (ws : List Int) (m : Int) (B : Option Addr) (k capb : Nat) (L : List (List Int)) (w : World) (hm : n ≤ 9223372036854775807) (hk : Known w A n ws) (hl : k ≤ 1048576) (hkl : Lists w B k L) :
    Calls Try.prog 18 #[.agg #[.int .i64 q, .slice A n cap], .agg #[.int .i64 m, .slice B k capb]] w fun e w' => e = .returned (.tuple #[.bool (fitV q ws n m L), .bool (fitOk q ws n m L)]) ∧ Below w.heap.size w w' := by
  have HK := Lib.hid hk
  have HLEN := Lib.hid hkl.1
  have hb0 : Below w.heap.size w ((w.alloc (.cells #[.int .i64 q, .slice A n cap] 41)).alloc (.cells #[.int .i64 m, .slice B k capb] 29)) := (below1 w _).alloc (by simp) _
  have hx := (Box.new w (.int .i64 q) (.slice A n cap)).alloc (.cells #[.int .i64 m, .slice B k capb] 29)
  have hy := BoxT.new 29 (w.alloc (.cells #[.int .i64 q, .slice A n cap] 41)) (.int .i64 m) (.slice B k capb)
  simp only [World.size_alloc] at hy
  have HKL := Lib.hid (hkl.now hb0)
  clear hk hkl
  obtain ⟨c0, c1⟩ := hy.cells
  go_enter Try.func18, Try.ntmps18
  go_wp2_with fail
  refine (readGame_any m B k capb L _ hl HKL.out).mono ?_
  rintro e w1 ⟨hb1, h⟩
  have g1 := bfrom hb0 hb1
  have hx1 := hx.now hb1
  clear c0 c1
  rcases h with ⟨hg, C, cp, rfl, hown⟩ | ⟨hg, rfl⟩
  · obtain ⟨h1, h9, hne, hr, hself⟩ := goodG_parts hg
    clear hself hne
    obtain ⟨d, rfl⟩ : ∃ d : Nat, m = d := ⟨m.toNat, by omega⟩
    rw [Int.toNat_natCast] at hr
    have hq9 : d ≤ 9 := by omega
    have hq10 : d < 10 := by omega
    rw [HLEN.out] at hown ⊢
    have HSN := Lib.hid (show k = (setsN L).length from by rw [← HLEN.out]; simp [setsN])
    have b2' := below1 w1 (.cells #[.int .i64 d, .slice C k cp] 56)
    have hz := BoxT.new 56 w1 (.int .i64 d) (.slice C k cp)
    have g2 := bfrom g1 b2'
    have hx2 := hx1.now b2'
    have HRU := Lib.hid (fun (W : World) (hW : Below (w1.alloc (.cells #[.int .i64 d, .slice C k cp] 56)).heap.size (w1.alloc (.cells #[.int .i64 d, .slice C k cp] 56)) W) => gameRule (setsN L) _ k cp d C W hq10 HSN.out hl (setsN_512 hq9 hr) (owns_now (owns_now hown b2') hW))
    have HFO := Lib.hid (show fitOk q ws n d L = goodB q ws n from by unfold fitOk; rw [hg, Bool.and_true])
    obtain ⟨d0, d1⟩ := hz.cells
    obtain ⟨c0, c1⟩ := hx2.cells
    have HX2 := Lib.hid hx2
    have HZ := Lib.hid hz
    clear hown hr hg
    by_cases hgood : Vo.Good q ws n
    · obtain ⟨b, off, rfl, hsl⟩ := HK.out.get hgood.lo
      have HSL := Lib.hid (hsl.now g2)
      have HGB := Lib.hid (goodB_true hgood)
      have HOK := Lib.hid hgood.ok
      have hn9 := hgood.hi
      have HFV := Lib.hid (fitV_yes (HFO.out.trans HGB.out))
      rw [Int.toNat_natCast] at HFV
      rw [HGB.out] at HFO
      clear hgood hsl
      go_wp2_with (go_at_call 40; refine (isCommittee_any q _ n cap ws _ hm (HK.out.now g2)).mono ?_; rintro e w3 ⟨rfl, hb3⟩; rw [HGB.out]; clear c0 c1 d0 d1; obtain ⟨c0, c1⟩ := (HX2.out.now hb3).cells; obtain ⟨d0, d1⟩ := (HZ.out.now hb3).cells)
      refine (areSameRules_any (winB q ws n) (winS (setsN L)) n d 41 56 _ _ _ _ _ _ _ (by omega) hq10 (comRule q b off n cap ws _ (by omega) HOK.out (HSL.out.now hb3)) (HRU.out _ hb3)).mono ?_
      rintro e w4 ⟨rfl, hb4⟩
      rw [← HFV.out]
      go_wp2
      go_ret2
      exact ⟨by rw [HFO.out]; rfl, bfrom (bfrom g2 hb3) hb4⟩
    · have HGB := Lib.hid (goodB_false hgood)
      rw [HGB.out] at HFO
      have HFV := Lib.hid (fitV_no HFO.out)
      clear hgood
      go_wp2_with (go_at_call 40; refine (isCommittee_any q _ n cap ws _ hm (HK.out.now g2)).mono ?_; rintro e w3 ⟨rfl, hb3⟩; rw [HGB.out])
      go_ret2
      exact ⟨by rw [HFV.out, HFO.out]; rfl, bfrom g2 hb3⟩
  · have HFO := Lib.hid (show fitOk q ws n m L = false from by unfold fitOk; rw [hg, Bool.and_false])
    have HFV := Lib.hid (fitV_no HFO.out)
    clear hg
    go_wp2
    go_ret2
    exact ⟨by rw [HFV.out, HFO.out]; rfl, g1.alloc g1.size _⟩
end Go.Proofs.Ytipplbcjdcdapab
