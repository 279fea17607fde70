/- Contracts of the program's councils: which sets of their own members win. -/
import Derived.Test.YtkckefjpkhjeaabBp
namespace Go.Proofs.Ytkckefjpkhjeaab
open Go.RowKit Vo

set_option maxRecDepth 20000 in
set_option maxHeartbeats 4000000 in
theorem isWon_any (q : Int) (A : Option Addr) (n cap : Nat) (ws : List Int) (A2 : Option Addr) (cp : Nat) (C : List (Int × List Int)) (s : Nat) (w : World) (hc : Council q A n ws A2 C w) (hs : s < 512) :
    Calls Try.prog 89 #[.agg #[.int .i64 q, .slice A n cap, .slice A2 n cp], .int .u64 s] w fun e w' => e = .returned (.bool (councilP q ws n C s)) ∧ Below w.heap.size w w' := by
  obtain ⟨i0, hi0, hz0, hz1, hz2⟩ := info_parts infoSet
  have HC := Lib.hid hc
  have hn9 := hc.good.hi
  have hn1 := hc.good.lo
  have hx := CBox.new q A n cap A2 n cp w
  have hb0 := below1 w (.cells #[.int .i64 q, .slice A n cap, .slice A2 n cp] 77)
  obtain ⟨w0, hw0⟩ : ∃ w0, w0 = w.alloc (.cells #[.int .i64 q, .slice A n cap, .slice A2 n cp] 77) := ⟨_, rfl⟩
  rw [← hw0] at hx hb0
  obtain ⟨c0, c1, c2⟩ := hx.cells
  have hz00 : w.heap.size ≤ w0.heap.size := hb0.size
  have HSZ0 := Lib.hid (show w0.heap.size = w.heap.size + 1 from by rw [hw0]; simp)
  clear hc
  go_enter Try.func89, Try.ntmps89
  go_wp2_with (first
    | (at_make; rw [← hw0]; refine wpList_make_own _ rfl _ _ 90 rfl w0.heap.size 106 i0 (.int .u64 0) 1 Try.underlying90 hi0 hz0 hz1 .i64 .i64 n n rfl rfl rfl (by rw [hz2]; omega) (by unfold maxLen; omega) (by simp) ?_; intro w2 hown hgrow; have b2 : Below w0.heap.size w0 w2 := (Below.refl _ _).grown hgrow (Nat.le_refl _) (fun j hj => by cases hj); have HO2 := Lib.hid hown; obtain ⟨d0, d1, d2⟩ := (hx.now b2).cells; clear hown hgrow)
    | fail)
  go_loopw [1, 5, 7, 15] (fun t v _ i wr => ∃ (j : Nat) (B : Option Addr) (cp3 : Nat), j ≤ n ∧ i = .int .i64 j ∧ t = .int .u64 (s / 2 ^ csum C j : Nat) ∧ v = .slice B j cp3 ∧ wr.ownsRow w0.heap.size 106 1 (.slice B j cp3) j (setsV (partsL C s j)) ∧ Below w0.heap.size w0 wr) (fun _ _ _ i _ => n - (intOf i).toNat)
  case atStart => exact ⟨0, some ⟨w.heap.size + 1, 0, none⟩, n, Nat.zero_le _, rfl, by simp [csum], rfl, by have h := HO2.out; rw [HSZ0.out] at h ⊢; exact h, b2⟩
  case round =>
    obtain ⟨j, B, cp3, hj, rfl, rfl, rfl, hown, hbr⟩ := hrel
    have HO := Lib.hid hown
    have hb := hb0.trans (hbr.mono hz00)
    have hszr := hbr.size
    have ht512 : s / 2 ^ csum C j < 512 := Nat.lt_of_le_of_lt (Nat.div_le_self _ _) hs
    clear hown
    by_cases hlt : j < n
    · obtain ⟨_, b, off, hA, hrow⟩ := (HC.out.inner.now hb)
      obtain ⟨rfl, hbl⟩ := hA (by omega)
      obtain ⟨A', cap', e0, e1, _, hkn⟩ := hrow j hlt
      have hm9 := (HC.out.each j hlt).hi
      have HRS := Lib.hid (rest_succ C s j)
      have HPS := Lib.hid (partsL_succ C s j)
      have HPK := Lib.hid (show s / 2 ^ csum C j &&& (2 ^ nAt C j - 1) = partK C s j from Nat.and_two_pow_sub_one_eq_mod _ _)
      have HPL := Lib.hid (partsL_len C s j)
      clear hA hrow hkn
      generalize qAt C j = q1 at *
      generalize nAt C j = m1 at *
      generalize s / 2 ^ csum C j = t at *
      have hE : 2 ^ m1 - 1 < 512 := by have := pow_lt (n := m1) (by omega); have := Nat.two_pow_pos m1; omega
      have HEV := Lib.hid (fun W => everybody_any (.int .i64 q1) A' m1 cap' W (by omega))
      obtain ⟨E, hEe⟩ : ∃ E, E = 2 ^ m1 - 1 := ⟨_, rfl⟩
      rw [← hEe] at hE HPK
      simp only [← hEe] at HEV
      have hand : bits BinOp.and IntKind.u64 (t : Int) (E : Int) = ((t &&& E : Nat) : Int) := u64_and_nat t E (by omega) (by omega)
      rw [HPK.out] at hand
      clear hEe
      obtain ⟨pj, hpj⟩ : ∃ z, z = partK C s j := ⟨_, rfl⟩
      rw [← hpj] at HPS HPK hand
      clear hpj
      have hy := Box.new wr (.int .i64 q1) (.slice A' m1 cap')
      have b0 := below1 wr (.cells #[.int .i64 q1, .slice A' m1 cap'] 43)
      obtain ⟨f0, f1⟩ := hy.cells
      go_wp2_with (first
        | (go_at_call 118; refine (HEV.out _).mono ?_; rintro e w3 ⟨rfl, hb3⟩; have hy3 := hy.now hb3; have g3 := bfrom b0 hb3; have HO3 := Lib.hid (owns_now HO.out g3); have hz3 := g3.size; obtain ⟨k0, k1⟩ := hy3.cells)
        | (go_at_call 49; refine (members_any _ A' m1 cap' _).mono ?_; rintro e w5 ⟨rfl, hb5⟩)
        | (at_builtin; refine wpList_append_lies _ rfl _ _ _ rfl w0.heap.size 106 i0 _ 1 8 Try.underlying90 hi0 hz0 hz1 hz2 rfl (by decide) (.slice B j cp3) j (setsV (partsL C s j)) rfl (HO3.out.alloc _) ⟨w3.heap.size, 0, none⟩ 1 1 [.int .u64 (pj : Nat)] rfl rfl (World.news_of_block (cs := #[.int .u64 (pj : Nat)]) (t := 106) (fr := (0, 0)) (heap_alloc_new w3 _)) (by simp [Value.oneCell']) (by omega) (by unfold maxLen; omega) (by omega) (by simp; omega) (w3.heap.size + 1) (by simp) ?_; intro gg cap4 w4 hown4 hgrow4 hat hlt4; have hy4 := (hy3.alloc (.cells #[.int .u64 (pj : Nat)] 106)).grown hgrow4 (fun e => by have := owns_lt HO.out e.symm; omega); obtain ⟨p0, p1⟩ := hy4.cells)
        | fail)
      have q3 : Below w0.heap.size w0 w3 := hbr.trans (g3.mono hszr)
      have q4 : Below w0.heap.size w0 w4 := (q3.alloc q3.size (.cells #[.int .u64 (pj : Nat)] 106)).grown hgrow4 (by have := q3.size; simp; omega) fun i hi => owns_le HO.out hi
      have q5 := q4.trans (hb5.mono q4.size)
      have HO5 := Lib.hid (owns_now hown4 hb5)
      go_roundw
      case rel => exact ⟨j + 1, some ⟨gg, 0, none⟩, cap4, by omega, by go_num, congrArg (Value.int .u64) (by rw [← HRS.out]; push_cast; rfl), by simp, by rw [HPS.out]; simpa [setsV] using HO5.out, q5⟩
      case measure => simp [intOf]; omega
    · obtain rfl : j = n := by omega
      obtain ⟨gp, cp4, hv, hgp, _, _⟩ := owns_head HO.out (by omega)
      obtain ⟨rfl, rfl⟩ : B = some ⟨gp, 0, none⟩ ∧ cp3 = cp4 := by simpa using hv
      have HOP := Lib.hid (show Own wr gp 106 j (fun i => .int .u64 (partK C s i : Nat)) from Own.of_own HO.out (fun i hi => partsL_get C s j i hi))
      obtain ⟨f0, f1, f2⟩ := (hx.now hbr).cells
      have HW := Lib.hid (winsByParts_any q A j cap ws A2 cp C gp cp3 (partK C s) wr (HC.out.now hb) (fun i hi => by have := partK_lt C s i; have := pow_lt (n := nAt C i) (HC.out.each i hi).hi; omega) HOP.out)
      go_wp2_with (first | (go_at_call 122; refine HW.out.mono ?_; rintro e w2 ⟨rfl, hb2⟩) | fail)
      go_ret
      exact ⟨rfl, bfrom hb hb2⟩

theorem isWon_asks (q : Int) (A : Option Addr) (n cap : Nat) (ws : List Int) (A2 : Option Addr) (cp : Nat) (C : List (Int × List Int)) (w : World) (hc : Council q A n ws A2 C w) :
    Asks (councilP q ws n C) 89 #[.agg #[.int .i64 q, .slice A n cap, .slice A2 n cp]] #[] (csum C n) w :=
  ⟨enters_of Try.func89 (by kernel_rfl) rfl, fun W s hs hb => isWon_any q A n cap ws A2 cp C s W (hc.now hb) (by have := pow_lt (n := csum C n) hc.few; omega)⟩

set_option maxRecDepth 20000 in
set_option maxHeartbeats 2000000 in
theorem cAssembly_any (q : Int) (A : Option Addr) (n cap : Nat) (ws : List Int) (A2 : Option Addr) (cp : Nat) (C : List (Int × List Int)) (w : World) (hm : n ≤ 9223372036854775807) (hc : Council q A n ws A2 C w) :
    Calls Try.prog 55 #[.agg #[.int .i64 q, .slice A n cap, .slice A2 n cp]] w fun e w' => ∃ g b w0, e = .returned (.pointer (some ⟨g, 0, none⟩)) ∧ Asm (councilP q ws n C) (csum C n) g b w0 w' ∧ w.heap.size ≤ w0.heap.size ∧ Below w.heap.size w w' := by
  have HC := Lib.hid hc
  have hx := CBox.new q A n cap A2 n cp w
  have hb0 := below1 w (.cells #[.int .i64 q, .slice A n cap, .slice A2 n cp] 77)
  have HOM := Lib.hid (fun W (hb : Below w.heap.size w W) => ownMembers_any A2 n cp C W hm (by have := hc.few; omega) (hc.inner.now hb))
  have HNA := Lib.hid (fun W (hb : Below w.heap.size w W) => newAssembly_any (councilP q ws n C) (csum C n) _ _ _ W (isWon_asks q A n cap ws A2 cp C W (hc.now hb)))
  have K := Lib.hid (show ∀ W, Below (w.alloc (.cells #[.int .i64 q, .slice A n cap, .slice A2 n cp] 77)).heap.size (w.alloc (.cells #[.int .i64 q, .slice A n cap, .slice A2 n cp] 77)) W → W.cell? ⟨w.heap.size, 0, none⟩ = some (.int .i64 q) ∧ W.cell? ⟨w.heap.size, 1, none⟩ = some (.slice A n cap) ∧ W.cell? ⟨w.heap.size, 2, none⟩ = some (.slice A2 n cp) from fun W hb => (hx.now hb).cells)
  obtain ⟨c0, c1, c2⟩ := K.out _ (Below.refl _ _)
  clear hc hx
  obtain ⟨T, hT⟩ : ∃ z, z = csum C n := ⟨_, rfl⟩
  simp only [← hT] at HOM HNA
  rw [← hT]
  clear hT
  go_enter Try.func55, Try.ntmps55
  go_wp2_with fail
  go_region_held3 (fun w' => w'.cell? ⟨w.heap.size, 0, none⟩ = some (.int .i64 q) ∧ w'.cell? ⟨w.heap.size, 1, none⟩ = some (.slice A n cap) ∧ w'.cell? ⟨w.heap.size, 2, none⟩ = some (.slice A2 n cp))
    (first | exact ⟨c0, c1, c2⟩ | exact ⟨d0, d1, d2⟩ | exact ⟨e0, e1, e2⟩ | go_keep)
    (first
      | (go_at_call 48; refine (HOM.out _ hb0.drew).mono ?_; rintro e w2 ⟨rfl, hb2⟩; have b2 := bfrom (Below.refl _ (w.alloc (.cells #[.int .i64 q, .slice A n cap, .slice A2 n cp] 77))).drew hb2; obtain ⟨d0, d1, d2⟩ := K.out _ b2)
      | (go_at_call 88; refine (HNA.out _ (bfrom hb0 b2)).mono ?_; rintro e w3 ⟨g, b3, rfl, hasm, hb3⟩; have HASM := Lib.hid hasm; clear hasm; have b3' := bfrom b2 hb3; obtain ⟨e0, e1, e2⟩ := K.out _ b3')
      | fail)
  all_goals
    go_wp2
    go_ret
    exact ⟨g, b3, w2, rfl, HASM.out, (bfrom hb0 b2).size, bfrom hb0 b3'⟩
end Go.Proofs.Ytkckefjpkhjeaab
