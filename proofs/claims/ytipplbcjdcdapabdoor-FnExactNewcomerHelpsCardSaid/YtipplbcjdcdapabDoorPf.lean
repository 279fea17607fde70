/- Contracts of the program's parties: what is counted for them, their shares, and gains. -/
import Derived.Test.YtipplbcjdcdapabDoorN8
import Derived.Test.YtipplbcjdcdapabDoorW3
import Derived.Test.YtipplbcjdcdapabDoorQ2
import Derived.Outline
import Derived.Test.YtipplbcjdcdapabDoorQ0
namespace Go.Proofs.YtipplbcjdcdapabDoor
open Go.RowKit Vo

theorem sgn_mul {a x : Int} (h : 0 < a) : sgn (a * x) = sgn x := by
  unfold sgn
  rcases Int.lt_trichotomy x 0 with hx | hx | hx
  · rw [if_pos hx, if_pos (Int.mul_neg_of_pos_of_neg h hx)]
  · subst hx; simp
  · have := Int.mul_pos h hx
    rw [if_neg (by omega), if_neg (by omega), if_neg (by omega), if_neg (by omega)]
/-- A fraction in lowest terms is a share. -/
theorem low_share {a b : Nat} (h1 : a ≤ b) (h2 : 1 ≤ b) (h3 : b ≤ 1000000) : Sg ((a / Nat.gcd a b : Nat) : Int) ((b / Nat.gcd a b : Nat) : Int) := by
  have hg : 0 < Nat.gcd a b := Nat.gcd_pos_of_pos_right a (by omega)
  have hd := Nat.gcd_dvd_right a b
  have e1 : 1 ≤ b / Nat.gcd a b := Nat.div_pos (Nat.le_of_dvd (by omega) hd) hg
  have e2 : b / Nat.gcd a b ≤ b := Nat.div_le_self _ _
  have e3 : a / Nat.gcd a b ≤ b / Nat.gcd a b := Nat.div_le_div_right h1
  have e4 : Nat.gcd (a / Nat.gcd a b) (b / Nat.gcd a b) = 1 := Nat.coprime_div_gcd_div_gcd hg
  generalize a / Nat.gcd a b = x at *
  generalize b / Nat.gcd a b = y at *
  refine ⟨by omega, by omega, by omega, by omega, ?_⟩
  rw [Int.toNat_natCast, Int.toNat_natCast]
  exact e4
/-- Shares in lowest terms compare as the fractions do. -/
theorem cmp_low {a b c d : Nat} (h1 : a ≤ b) (h2 : 1 ≤ b) (h3 : b ≤ 1000000) (h4 : c ≤ d) (h5 : 1 ≤ d) (h6 : d ≤ 1000000) :
    cmpR ((a / Nat.gcd a b : Nat) : Int) ((b / Nat.gcd a b : Nat) : Int) ((c / Nat.gcd c d : Nat) : Int) ((d / Nat.gcd c d : Nat) : Int) = sgn ((a : Int) * d - (c : Int) * b) := by
  rw [cmpR_yes (by unfold cmpOk; rw [sgB_yes (low_share h1 h2 h3), sgB_yes (low_share h4 h5 h6)]; rfl)]
  have hg : 0 < Nat.gcd a b := Nat.gcd_pos_of_pos_right a (by omega)
  have hh : 0 < Nat.gcd c d := Nat.gcd_pos_of_pos_right c (by omega)
  have ea := Nat.mul_div_cancel' (Nat.gcd_dvd_left a b)
  have eb := Nat.mul_div_cancel' (Nat.gcd_dvd_right a b)
  have ec := Nat.mul_div_cancel' (Nat.gcd_dvd_left c d)
  have ed := Nat.mul_div_cancel' (Nat.gcd_dvd_right c d)
  generalize Nat.gcd a b = g at *
  generalize Nat.gcd c d = h at *
  generalize a / g = a' at *
  generalize b / g = b' at *
  generalize c / h = c' at *
  generalize d / h = d' at *
  subst ea; subst eb; subst ec; subst ed
  unfold cmpV
  rw [← sgn_mul (a := (g : Int) * h) (by have := Nat.mul_pos hg hh; exact_mod_cast this)]
  congr 1
  push_cast
  rw [Int.mul_sub]
  congr 1 <;> ac_rfl
end Go.Proofs.YtipplbcjdcdapabDoor

namespace Go.Proofs.YtipplbcjdcdapabDoor
open Go.RowKit Vo

/-- Block g is the box of a struct of three cells. -/
def Box3 (t : TypeId) (w : World) (g : Nat) (a b c : Value) : Prop := w.heap[g]? = some (.cells #[a, b, c] t (0, 0))
namespace Box3
variable {t : TypeId} {w w' : World} {g : Nat} {a b c : Value}
theorem lt (h : Box3 t w g a b c) : g < w.heap.size := (Array.getElem?_eq_some_iff.1 h).1
theorem cells (h : Box3 t w g a b c) : w.cell? ⟨g, 0, none⟩ = some a ∧ w.cell? ⟨g, 1, none⟩ = some b ∧ w.cell? ⟨g, 2, none⟩ = some c := by
  unfold Box3 at h; exact ⟨by simp [World.cell?, h], by simp [World.cell?, h], by simp [World.cell?, h]⟩
theorem now (h : Box3 t w g a b c) (hb : Below w.heap.size w w') : Box3 t w' g a b c := (hb.block g h.lt).trans h
theorem drew (h : Box3 t w g a b c) : Box3 t w.drew g a b c := h
theorem alloc (h : Box3 t w g a b c) (o : Obj) : Box3 t (w.alloc o) g a b c := h.now ((Below.refl _ _).alloc (Nat.le_refl _) _)
theorem new (t : TypeId) (w : World) (a b c : Value) : Box3 t (w.alloc (.cells #[a, b, c] t)) w.heap.size a b c := heap_alloc_new w _
end Box3

set_option maxHeartbeats 400000 in
theorem ofB_any (b off n cap : Nat) (ws : List Int) (s : Nat) (w : World) (hn : n < 10) (hs : s < 512) (hok : InK 0 1000000000000 ws n) (hsl : Sl w b off n ws) :
    Calls Tryd.prog 65 #[.slice (some ⟨b, off, none⟩) n cap, .int .u64 s] w fun e w' => e = .returned (.int .i64 (wtK ws s n)) ∧ w = w' := by
  obtain ⟨hlt, hc⟩ := hsl
  have HOK := Lib.hid hok
  clear hok
  have HC := Lib.hid hc
  clear hc
  have HW := Lib.hid (show ∀ k, k ≤ n → 0 ≤ wtK ws s k ∧ wtK ws s k ≤ sumK ws k from fun k hk => by
    induction k with
    | zero => simp [wtK, sumK]
    | succ k ih =>
      have h1 := ih (by omega); have h2 := HOK.out k (by omega)
      simp only [wtK, sumK]; split <;> omega)
  go_enter Tryd.func65, Tryd.ntmps65
  go_wp2
  go_loop [5, 10] (fun t i => ∃ k : Nat, k ≤ n ∧ i = .int .i64 k ∧ t = .int .i64 (wtK ws s k)) (fun _ i => n - (intOf i).toNat)
  case atStart => exact ⟨0, Nat.zero_le _, rfl, rfl⟩
  case round =>
    obtain ⟨k, hk, rfl, rfl⟩ := hrel
    have w0 := HW.out k hk
    have s0 := sumK_bd2 (InK.mono HOK.out hk)
    by_cases hlt : k < n
    · have w1 := HOK.out k hlt
      have hcell : w.cell? ⟨b, off + k, none⟩ = some (.int .i64 (ws.getD k 0)) := HC.out k hlt
      have HS := Lib.hid (show wtK ws s (k+1) = wtK ws s k + if s.testBit k then ws.getD k 0 else 0 from rfl)
      generalize ws.getD k 0 = x at *
      generalize wtK ws s k = t at *
      cases hbit : s.testBit k
      all_goals
        have HB := Lib.hid hbit
        clear hbit
        rw [HB.out] at HS
        go_wp2_with (go_at_call 61; refine (has_any _ _ _ (by omega) (by omega)).mono ?_; rintro e w' ⟨rfl, rfl⟩; rw [HB.out])
        go_round
        case rel => exact ⟨k + 1, by omega, by go_num, by rw [HS.out]; simp⟩
        case measure => simp [intOf]; omega
    · obtain rfl : k = n := by omega
      go_wp2
      go_ret
      exact ⟨rfl, rfl⟩

set_option maxRecDepth 20000 in
set_option maxHeartbeats 1000000 in
theorem countOf_any (L : List Int) (kf : Nat) (q : Int) (A : Option Addr) (n cap s a b : Nat) (w : World) (h9 : L.length < 10) (hs : s < 512) (hin : InK 0 1000000000000 L L.length) (ha : wtK L s L.length = a) (hb : sumK L L.length = b)
    (hl : Reads L kf (.agg #[.int .i64 q, .slice A n cap]) w) :
    Calls Tryd.prog 55 #[.agg #[.int .i64 q, .slice A n cap, .int .u64 s], .func (.func kf) #[] #[]] w fun e w' => e = .returned (.tuple #[.int .i64 a, .int .i64 b]) ∧ Below w.heap.size w w' := by
  have HL := Lib.hid hl
  have eg := hl.enters
  have HIN := Lib.hid hin
  have HA := Lib.hid ha
  have HB := Lib.hid hb
  clear hl hin ha hb
  have hx := Box3.new 48 w (.int .i64 q) (.slice A n cap) (.int .u64 s)
  have hb0 := below1 w (.cells #[.int .i64 q, .slice A n cap, .int .u64 s] 48)
  go_enter Tryd.func55, Tryd.ntmps55
  go_wp2_with (first
    | (go_at_fn kf; refine (HL.out.gives _ hb0).mono ?_; rintro e w1 ⟨b1, off1, cap1, rfl, hs1, hb1⟩; have HS1 := Lib.hid hs1; obtain ⟨c0, c1, c2⟩ := (hx.now hb1).cells; clear hs1)
    | (go_at_call 65; refine (ofB_any b1 off1 L.length cap1 L s _ h9 hs HIN.out HS1.out).mono ?_; rintro e w2 ⟨rfl, rfl⟩)
    | (go_at_call 66; refine (sumOf_any b1 off1 L.length cap1 L _ h9 HIN.out HS1.out).mono ?_; rintro e w3 ⟨rfl, rfl⟩))
  go_ret2
  exact ⟨by rw [HA.out, HB.out]; rfl, bfrom hb0 hb1⟩

set_option maxRecDepth 20000 in
set_option maxHeartbeats 1000000 in
theorem shareOf_any (L : List Int) (kf : Nat) (q : Int) (A : Option Addr) (n cap s a b : Nat) (w : World) (h9 : L.length < 10) (hs : s < 512) (hin : InK 0 1000000000000 L L.length) (ha : wtK L s L.length = a) (hb : sumK L L.length = b) (ha1 : a ≤ b) (hb1 : 1 ≤ b) (hb2 : b ≤ 1000000)
    (hl : Reads L kf (.agg #[.int .i64 q, .slice A n cap]) w) :
    Calls Tryd.prog 37 #[.agg #[.int .i64 q, .slice A n cap, .int .u64 s], .func (.func kf) #[] #[]] w fun e w' => e = .returned (.agg #[.int .i64 (a / Nat.gcd a b : Nat), .int .i64 (b / Nat.gcd a b : Nat)]) ∧ Below w.heap.size w w' := by
  have HL := Lib.hid hl
  have HIN := Lib.hid hin
  clear hl hin
  have hb0 : Below w.heap.size w ((w.alloc (.cells #[.int .i64 q, .slice A n cap, .int .u64 s] 48)).alloc (.cells #[.int .i64 0, .int .i64 0] 65)) := (below1 w _).alloc (by simp) _
  have hr := BoxT.new 65 (w.alloc (.cells #[.int .i64 q, .slice A n cap, .int .u64 s] 48)) (.int .i64 0) (.int .i64 0)
  simp only [World.size_alloc] at hr
  have HLT := Lib.hid (fun W => lowestTerms_any a b W (by omega) (by omega) (by omega))
  generalize a / Nat.gcd a b = x at *
  generalize b / Nat.gcd a b = y at *
  go_enter Tryd.func37, Tryd.ntmps37
  go_wp2_with fail
  refine (countOf_any L kf q A n cap s a b _ h9 hs HIN.out ha hb (HL.out.now hb0)).mono ?_
  rintro e w1 ⟨rfl, h1⟩
  go_wp2_with fail
  refine (HLT.out _).mono ?_
  rintro e w2 ⟨rfl, h2⟩
  have hr2 := (hr.now h1).now h2
  have g2 := bfrom hb0 (bfrom h1 h2)
  obtain ⟨d0, d1⟩ := hr2.cells
  obtain ⟨f0, f1⟩ := frozen2 hr2
  go_wp2
  refine bodyPost_ret (v := .agg #[.int .i64 x, .int .i64 y]) (by simp [results, Tryd.results37, go_sem, d0, d1]) rfl ⟨rfl, ?_⟩
  exact (g2.setCell (by simp) _).setCell (by simp) _

set_option maxHeartbeats 1000000 in
theorem compareShares1_any (x y u v : Int) (w : World) :
    Calls Tryd.prog 36 #[.agg #[.int .i64 x, .int .i64 y], .agg #[.int .i64 u, .int .i64 v]] w fun e w' => e = .returned (.int .i64 (cmpR x y u v)) ∧ Below w.heap.size w w' := by
  have hb0 : Below w.heap.size w ((w.alloc (.cells #[.int .i64 x, .int .i64 y] 65)).alloc (.cells #[.int .i64 u, .int .i64 v] 65)) := (below1 w _).alloc (by simp) _
  go_enter Tryd.func36, Tryd.ntmps36
  go_wp2_with fail
  refine (compareShares_any x y u v _).mono ?_
  rintro e w1 ⟨rfl, hb⟩
  go_wp2
  go_ret
  exact ⟨rfl, bfrom hb0 hb⟩

/-- What is counted for a party: its own, a, of b. -/
structure Part (L : List Int) (s a b : Nat) : Prop where
  len : L.length < 10
  set : s < 512
  ok : InK 0 1000000000000 L L.length
  own : wtK L s L.length = a
  all : sumK L L.length = b
  le : a ≤ b
  one : 1 ≤ b
  few : b ≤ 1000000

set_option maxRecDepth 20000 in
set_option maxHeartbeats 1000000 in
theorem gain_any (L L' : List Int) (kf : Nat) (q q' : Int) (A A' : Option Addr) (n cap n' cap' s s' a b a' b' : Nat) (w : World) (h : Part L s a b) (h' : Part L' s' a' b')
    (hl : Reads L kf (.agg #[.int .i64 q, .slice A n cap]) w) (hl' : Reads L' kf (.agg #[.int .i64 q', .slice A' n' cap']) w) :
    Calls Tryd.prog 22 #[.agg #[.int .i64 q, .slice A n cap, .int .u64 s], .agg #[.int .i64 q', .slice A' n' cap', .int .u64 s'], .func (.func kf) #[] #[]] w fun e w' => e = .returned (.int .i64 (sgn ((a' : Int) * b - (a : Int) * b'))) ∧ Below w.heap.size w w' := by
  have HL := Lib.hid hl
  have HL' := Lib.hid hl'
  have HC := Lib.hid (cmp_low h'.le h'.one h'.few h.le h.one h.few)
  have HS := Lib.hid (fun W (g : Below w.heap.size w W) => shareOf_any L kf q A n cap s a b W h.len h.set h.ok h.own h.all h.le h.one h.few (HL.out.now g))
  have HS' := Lib.hid (fun W (g : Below w.heap.size w W) => shareOf_any L' kf q' A' n' cap' s' a' b' W h'.len h'.set h'.ok h'.own h'.all h'.le h'.one h'.few (HL'.out.now g))
  clear hl hl' h h'
  generalize a / Nat.gcd a b = x at *
  generalize b / Nat.gcd a b = y at *
  generalize a' / Nat.gcd a' b' = x' at *
  generalize b' / Nat.gcd a' b' = y' at *
  have hb0 : Below w.heap.size w ((w.alloc (.cells #[.int .i64 q, .slice A n cap, .int .u64 s] 48)).alloc (.cells #[.int .i64 q', .slice A' n' cap', .int .u64 s'] 48)) := (below1 w _).alloc (by simp) _
  have hx := (Box3.new 48 w (.int .i64 q) (.slice A n cap) (.int .u64 s)).alloc (.cells #[.int .i64 q', .slice A' n' cap', .int .u64 s'] 48)
  have hy := Box3.new 48 (w.alloc (.cells #[.int .i64 q, .slice A n cap, .int .u64 s] 48)) (.int .i64 q') (.slice A' n' cap') (.int .u64 s')
  simp only [World.size_alloc] at hy
  obtain ⟨c0, c1, c2⟩ := hx.cells
  obtain ⟨d0, d1, d2⟩ := hy.cells
  go_enter Tryd.func22, Tryd.ntmps22
  go_wp2_with fail
  go_region_held3 (fun w' => w'.cell? ⟨w.heap.size, 0, none⟩ = some (.int .i64 q) ∧ w'.cell? ⟨w.heap.size, 1, none⟩ = some (.slice A n cap) ∧ w'.cell? ⟨w.heap.size, 2, none⟩ = some (.int .u64 s) ∧ w'.cell? ⟨w.heap.size + 1, 0, none⟩ = some (.int .i64 q') ∧ w'.cell? ⟨w.heap.size + 1, 1, none⟩ = some (.slice A' n' cap') ∧ w'.cell? ⟨w.heap.size + 1, 2, none⟩ = some (.int .u64 s'))
    (first | exact ⟨c0, c1, c2, d0, d1, d2⟩ | exact ⟨e0, e1, e2, e3, e4, e5⟩ | exact ⟨f0, f1, f2, f3, f4, f5⟩ | exact ⟨k0, k1, k2, k3, k4, k5⟩ | go_keep)
    (first
      | (go_at_call 37; with_reducible refine (HS'.out _ hb0.drew).mono ?_; rintro e w1 ⟨rfl, hb1⟩; have g1 := bfrom hb0.drew hb1; have hx1 := hx.drew.now hb1; have hy1 := hy.drew.now hb1; obtain ⟨e0, e1, e2⟩ := hx1.cells; obtain ⟨e3, e4, e5⟩ := hy1.cells)
      | (go_at_call 37; with_reducible refine (HS.out _ g1).mono ?_; rintro e w2 ⟨rfl, hb2⟩; have g2 := bfrom g1 hb2; obtain ⟨f0, f1, f2⟩ := (hx1.now hb2).cells; obtain ⟨f3, f4, f5⟩ := (hy1.now hb2).cells)
      | (go_at_call 36; refine (compareShares1_any x' y' x y _).mono ?_; rintro e w3 ⟨rfl, hb3⟩; obtain ⟨k0, k1, k2⟩ := ((hx1.now hb2).now hb3).cells; obtain ⟨k3, k4, k5⟩ := ((hy1.now hb2).now hb3).cells))
  all_goals
    go_wp2
    go_ret
    exact ⟨by rw [HC.out]; rfl, bfrom g2 hb3⟩
end Go.Proofs.YtipplbcjdcdapabDoor
