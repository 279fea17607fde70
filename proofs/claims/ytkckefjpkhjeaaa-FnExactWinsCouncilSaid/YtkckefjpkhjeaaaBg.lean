/- Contracts of the program's chambers: what are some, which sets win all of them, or some. -/
import Derived.Test.YtkckefjpkhjeaaaBc
import Derived.Test.YtkckefjpkhjeaaaBf
import Derived.Test.YtkckefjpkhjeaaaW5
namespace Go.Proofs.Ytkckefjpkhjeaaa
open Go.RowKit Vo

set_option maxHeartbeats 1000000 in
theorem members1_asks (m : Int) (g n : Nat) (C : List (Int × List Int)) (w : World) (hx : Box1 3 w g (.int .i64 m)) :
    AsksC (fun i => !decide ((nAt C i : Int) = m)) 64 #[] #[.pointer (some ⟨g, 0, none⟩)] n C w := by
  refine ⟨enters_of Try.func64 (by kernel_rfl) rfl, fun W i A cp hi hb hm hk => ?_⟩
  have hx1 := hx.now hb
  clear hk hm hx
  generalize qAt C i = q at *
  obtain ⟨k, hkk⟩ : ∃ k, k = nAt C i := ⟨_, rfl⟩
  show Calls Try.prog 64 #[.agg #[.int .i64 q, .slice A (nAt C i) cp], .pointer (some ⟨g, 0, none⟩)] W fun e W' => e = .returned (.bool (!decide ((nAt C i : Int) = m))) ∧ Below W.heap.size W W'
  rw [← hkk]
  clear hkk
  have hbx := Box.new W (.int .i64 q) (.slice A k cp)
  have b0 := below1 W (.cells #[.int .i64 q, .slice A k cp] 47)
  have hx2 := hx1.alloc (.cells #[.int .i64 q, .slice A k cp] 47)
  have KX := Lib.hid (show ∀ W', Below (W.alloc (.cells #[.int .i64 q, .slice A k cp] 47)).heap.size (W.alloc (.cells #[.int .i64 q, .slice A k cp] 47)) W' → W'.cell? ⟨W.heap.size, 0, none⟩ = some (.int .i64 q) ∧ W'.cell? ⟨W.heap.size, 1, none⟩ = some (.slice A k cp) ∧ W'.cell? ⟨g, 0, none⟩ = some (.int .i64 m) from fun W' h => ⟨(hbx.now h).cells.1, (hbx.now h).cells.2, (hx2.now h).cell⟩)
  obtain ⟨c0, c1, c2⟩ := KX.out _ (Below.refl _ _)
  have HD := Lib.hid (show (!decide ((k : Int) = m)) = ((k : Int) != m) from by rw [bne, Bool.not_eq_eq_eq_not, Bool.not_not]; rfl)
  go_enter Try.func64, Try.ntmps64
  go_wp2_with fail
  go_region_held3 (fun w' => w'.cell? ⟨W.heap.size, 0, none⟩ = some (.int .i64 q) ∧ w'.cell? ⟨W.heap.size, 1, none⟩ = some (.slice A k cp) ∧ w'.cell? ⟨g, 0, none⟩ = some (.int .i64 m))
    (first | exact ⟨c0, c1, c2⟩ | exact ⟨d0, d1, d2⟩ | go_keep)
    (first
      | (go_at_call 62; refine (members_any _ A k cp _).mono ?_; rintro e w2 ⟨rfl, hb2⟩; have b2 := bfrom (Below.refl _ (W.alloc (.cells #[.int .i64 q, .slice A k cp] 47))).drew hb2; obtain ⟨d0, d1, d2⟩ := KX.out _ b2)
      | fail)
  all_goals
    go_wp2
    go_ret
    exact ⟨by rw [HD.out]; first | rfl | simp, bfrom b0 b2⟩

set_option maxHeartbeats 1000000 in
theorem areChambers_any (A : Option Addr) (n cp : Nat) (C : List (Int × List Int)) (w : World) (hm : n ≤ 9223372036854775807) (hk : KCS w A n C) :
    Calls Try.prog 18 #[.slice A n cp] w fun e w' => e = .returned (.bool (chB C)) ∧ Below w.heap.size w w' := by
  have hlen := hk.1
  have HK := Lib.hid hk
  clear hk
  cases hc : comsB 4 C with
  | false =>
    have HR := Lib.hid (show chB C = false from by unfold chB; rw [hc]; rfl)
    have HC := Lib.hid hc
    clear hc hlen
    go_enter Try.func18, Try.ntmps18
    go_wp2_with fail
    refine (areCommittees_any 4 A n cp C _ hm (by omega) HK.out).mono ?_
    rintro e w1 ⟨rfl, hb1⟩
    rw [HC.out]
    go_wp2
    go_ret
    exact ⟨by rw [HR.out]; rfl, hb1⟩
  | true =>
    obtain ⟨h1, h4, _⟩ := comsB_parts hc
    have HC := Lib.hid hc
    have HR := Lib.hid (show (!anyK (fun i => !decide ((nAt C i : Int) = (nAt C 0 : Int))) n) = chB C from by
      unfold chB anyK
      rw [hc, hlen, Bool.not_not, Bool.true_and]
      refine allK_congr fun j _ => ?_
      rw [Bool.not_not, Bool.eq_iff_iff]
      simp
      omega)
    have hn1 : 0 < n := by omega
    clear hc h1 h4 hlen
    go_enter Try.func18, Try.ntmps18
    go_wp2_with fail
    refine (areCommittees_any 4 A n cp C _ hm (by omega) HK.out).mono ?_
    rintro e w1 ⟨rfl, hb1⟩
    rw [HC.out]
    have hks := HK.out.now hb1
    obtain ⟨_, b, off, hA, hrow⟩ := hks
    obtain ⟨rfl, hbl⟩ := hA (by omega)
    obtain ⟨A', cap', hc0, hc1, _, _⟩ := hrow 0 hn1
    simp only [Nat.zero_mul, Nat.add_zero] at hc0 hc1
    clear hA hrow
    generalize hmm : nAt C 0 = m0 at *
    generalize qAt C 0 = q0 at *
    go_wp2_with (first | (go_at_call 62; refine (members_any _ A' m0 cap' _).mono ?_; rintro e w2 ⟨rfl, hb2⟩) | fail)
    have hx2 := Box1.new 3 w2 (.int .i64 m0)
    have b2 := bfrom (bfrom hb1 hb2) (below1 w2 (.cells #[.int .i64 m0] 3))
    go_wp2_with fail
    refine (containsC_any _ _ _ _ _ n cp C _ hm (HK.out.now b2) (members1_asks (m0 : Int) w2.heap.size n C _ hx2)).mono ?_
    rintro e w3 ⟨rfl, hb3⟩
    go_wp2
    go_ret
    exact ⟨by rw [← HR.out]; rfl, bfrom b2 hb3⟩

theorem wins_known (q : Int) (A : Option Addr) (n cap : Nat) (ws : List Int) (s : Nat) (w : World) (hg : Vo.Good q ws n) (hs : s < 512) (hk : Known w A n ws) :
    Calls Try.prog 83 #[.agg #[.int .i64 q, .slice A n cap], .int .u64 s] w fun e w' => e = .returned (.bool (winB q ws n s)) ∧ Below w.heap.size w w' := by
  obtain ⟨b, off, rfl, hsl⟩ := hk.get hg.lo
  exact wins_any q b off n cap ws s w (by have := hg.hi; omega) hs hg.ok hsl
set_option maxHeartbeats 1000000 in
theorem loses_known (q : Int) (A : Option Addr) (n cap : Nat) (ws : List Int) (s : Nat) (w : World) (hg : Vo.Good q ws n) (hs : s < 512) (hk : Known w A n ws) :
    Calls Try.prog 111 #[.agg #[.int .i64 q, .slice A n cap], .int .u64 s] w fun e w' => e = .returned (.bool (!winB q ws n s)) ∧ Below w.heap.size w w' := by
  have b0 := below1 w (.cells #[.int .i64 q, .slice A n cap] 47)
  have HW := Lib.hid (fun W hb => wins_known q A n cap ws s W hg hs (hk.now (w' := W) hb))
  clear hg hk
  go_enter Try.func111, Try.ntmps111
  go_wp2_with fail
  refine (HW.out _ b0).mono ?_
  rintro e w1 ⟨rfl, hb1⟩
  go_wp2
  go_ret
  exact ⟨rfl, bfrom b0 hb1⟩

set_option maxHeartbeats 1000000 in
theorem winAll1_asks (s g n : Nat) (C : List (Int × List Int)) (w : World) (hg : ∀ i, i < n → Vo.Good (qAt C i) (wAt C i) (nAt C i)) (hs : s < 512) (hx : Box1 86 w g (.int .u64 s)) :
    AsksC (fun i => !winB (qAt C i) (wAt C i) (nAt C i) s) 110 #[] #[.pointer (some ⟨g, 0, none⟩)] n C w := by
  refine ⟨enters_of Try.func110 (by kernel_rfl) rfl, fun W i A cp hi hb hm hk => ?_⟩
  have hx1 := hx.now hb
  have HL := Lib.hid (fun W' hb' => loses_known (qAt C i) A (nAt C i) cp (wAt C i) s W' (hg i hi) hs (hk.now (w' := W') hb'))
  clear hk hm hx hg
  show Calls Try.prog 110 #[.agg #[.int .i64 (qAt C i), .slice A (nAt C i) cp], .pointer (some ⟨g, 0, none⟩)] W fun e W' => e = .returned (.bool (!winB (qAt C i) (wAt C i) (nAt C i) s)) ∧ Below W.heap.size W W'
  generalize winB (qAt C i) (wAt C i) (nAt C i) s = r at *
  generalize qAt C i = q at *
  generalize nAt C i = k at *
  have b0 := below1 W (.cells #[.int .i64 q, .slice A k cp] 47)
  have c2 := (hx1.alloc (.cells #[.int .i64 q, .slice A k cp] 47)).cell
  go_enter Try.func110, Try.ntmps110
  go_wp2_with fail
  refine (HL.out _ b0).mono ?_
  rintro e w1 ⟨rfl, hb1⟩
  go_wp2
  go_ret
  exact ⟨rfl, bfrom b0 hb1⟩
set_option maxHeartbeats 1000000 in
theorem winSome1_asks (s g n : Nat) (C : List (Int × List Int)) (w : World) (hg : ∀ i, i < n → Vo.Good (qAt C i) (wAt C i) (nAt C i)) (hs : s < 512) (hx : Box1 86 w g (.int .u64 s)) :
    AsksC (fun i => winB (qAt C i) (wAt C i) (nAt C i) s) 112 #[] #[.pointer (some ⟨g, 0, none⟩)] n C w := by
  refine ⟨enters_of Try.func112 (by kernel_rfl) rfl, fun W i A cp hi hb hm hk => ?_⟩
  have hx1 := hx.now hb
  have HL := Lib.hid (fun W' hb' => wins_known (qAt C i) A (nAt C i) cp (wAt C i) s W' (hg i hi) hs (hk.now (w' := W') hb'))
  clear hk hm hx hg
  show Calls Try.prog 112 #[.agg #[.int .i64 (qAt C i), .slice A (nAt C i) cp], .pointer (some ⟨g, 0, none⟩)] W fun e W' => e = .returned (.bool (winB (qAt C i) (wAt C i) (nAt C i) s)) ∧ Below W.heap.size W W'
  generalize winB (qAt C i) (wAt C i) (nAt C i) s = r at *
  generalize qAt C i = q at *
  generalize nAt C i = k at *
  have b0 := below1 W (.cells #[.int .i64 q, .slice A k cp] 47)
  have c2 := (hx1.alloc (.cells #[.int .i64 q, .slice A k cp] 47)).cell
  go_enter Try.func112, Try.ntmps112
  go_wp2_with fail
  refine (HL.out _ b0).mono ?_
  rintro e w1 ⟨rfl, hb1⟩
  go_wp2
  go_ret
  exact ⟨rfl, bfrom b0 hb1⟩

/-- Does a set win in each of these, in some of these? -/
def allP (C : List (Int × List Int)) (s : Nat) : Bool := !anyK (fun i => !winB (qAt C i) (wAt C i) (nAt C i) s) C.length
def someP (C : List (Int × List Int)) (s : Nat) : Bool := anyK (fun i => winB (qAt C i) (wAt C i) (nAt C i) s) C.length

/-- The function f tells of lists of committees and sets whether they are of the kind P. -/
structure AsksL (P : List (Int × List Int) → Nat → Bool) (f : Nat) : Prop where
  enters : ∀ args W, (callFunc f args).run Try.prog W = .ok (.enter f args) W
  gives : ∀ (W : World) (A : Option Addr) (n cp : Nat) (C : List (Int × List Int)) (s : Nat), n ≤ 9223372036854775807 → KCS W A n C → (∀ i, i < n → Vo.Good (qAt C i) (wAt C i) (nAt C i)) → s < 512 → Calls Try.prog f #[.slice A n cp, .int .u64 s] W fun e W' => e = .returned (.bool (P C s)) ∧ Below W.heap.size W W'
set_option maxHeartbeats 1000000 in
theorem winAll_asks : AsksL allP 69 := by
  refine ⟨enters_of Try.func69 (by kernel_rfl) rfl, fun W A n cp C s hm hk hg hs => ?_⟩
  have HR := Lib.hid (show (!anyK (fun i => !winB (qAt C i) (wAt C i) (nAt C i) s) n) = allP C s from by unfold allP; rw [hk.1])
  have b0 := below1 W (.cells #[.int .u64 s] 86)
  have HC := Lib.hid (containsH_any _ _ _ _ A n cp C _ hm (hk.now b0) (winAll1_asks s W.heap.size n C _ hg hs (Box1.new 86 W (.int .u64 s))))
  clear hk hg
  go_enter Try.func69, Try.ntmps69
  go_wp2_with fail
  refine HC.out.mono ?_
  rintro e w1 ⟨rfl, hb1⟩
  go_wp2
  go_ret
  exact ⟨by rw [← HR.out]; rfl, bfrom b0 hb1⟩
set_option maxHeartbeats 1000000 in
theorem winSome_asks : AsksL someP 70 := by
  refine ⟨enters_of Try.func70 (by kernel_rfl) rfl, fun W A n cp C s hm hk hg hs => ?_⟩
  have HR := Lib.hid (show (anyK (fun i => winB (qAt C i) (wAt C i) (nAt C i) s) n) = someP C s from by unfold someP; rw [hk.1])
  have b0 := below1 W (.cells #[.int .u64 s] 86)
  have HC := Lib.hid (containsH_any _ _ _ _ A n cp C _ hm (hk.now b0) (winSome1_asks s W.heap.size n C _ hg hs (Box1.new 86 W (.int .u64 s))))
  clear hk hg
  go_enter Try.func70, Try.ntmps70
  go_wp2_with fail
  refine HC.out.mono ?_
  rintro e w1 ⟨rfl, hb1⟩
  go_wp2
  go_ret
  exact ⟨by rw [← HR.out]; rfl, bfrom b0 hb1⟩

set_option maxHeartbeats 1000000 in
theorem chambers1_asks (P : List (Int × List Int) → Nat → Bool) (f g g2 n cp m : Nat) (A : Option Addr) (C : List (Int × List Int)) (w : World) (hf : AsksL P f) (h9 : m < 10) (hm : n ≤ 9223372036854775807) (hk : KCS w A n C) (hg : ∀ i, i < n → Vo.Good (qAt C i) (wAt C i) (nAt C i)) (hx : Box1 77 w g (.func (.func f) #[] #[])) (hy : Box1 79 w g2 (.slice A n cp)) :
    Asks (P C) 122 #[] #[.pointer (some ⟨g, 0, none⟩), .pointer (some ⟨g2, 0, none⟩)] m w := by
  refine ⟨enters_of Try.func122 (by kernel_rfl) rfl, fun W s hs hb => ?_⟩
  have h512 := pow_lt (n := m) (by omega)
  have HC := Lib.hid (hf.gives W A n cp C s hm (hk.now hb) hg (by omega))
  have eg := hf.enters
  have cx := (hx.now hb).cell
  have cy := (hy.now hb).cell
  clear hf hk hg hx hy hs h512
  show Calls Try.prog 122 #[.int .u64 s, .pointer (some ⟨g, 0, none⟩), .pointer (some ⟨g2, 0, none⟩)] W fun e W' => e = .returned (.bool (P C s)) ∧ Below W.heap.size W W'
  go_enter Try.func122, Try.ntmps122
  go_wp2_with (first | (go_at_fn f; refine HC.out.mono ?_; rintro e w1 ⟨rfl, hb1⟩) | fail)
  go_ret
  exact ⟨rfl, hb1⟩

set_option maxHeartbeats 1000000 in
theorem readChambers_yes (P : List (Int × List Int) → Nat → Bool) (f n cp : Nat) (A : Option Addr) (C : List (Int × List Int)) (w : World) (hf : AsksL P f) (hm : n ≤ 9223372036854775807) (hk : KCS w A n C) (hc : chB C = true) :
    Calls Try.prog 87 #[.slice A n cp, .func (.func f) #[] #[]] w fun e w' => ∃ g b w0, e = .returned (.tuple #[.pointer (some ⟨g, 0, none⟩), .bool true]) ∧ Asm (P C) (nAt C 0) g b w0 w' ∧ w.heap.size ≤ w0.heap.size ∧ Below w.heap.size w w' := by
  obtain ⟨h1, _, hgood⟩ := chB_parts hc
  obtain ⟨m0, hm0⟩ : ∃ z, z = nAt C 0 := ⟨_, rfl⟩
  rw [← hm0]
  have HM0 := Lib.hid hm0
  clear hm0
  have hlen := hk.1
  have hn1 : 0 < n := by omega
  have h9 : nAt C 0 < 10 := by have := (hgood 0 (by omega)).1.hi; omega
  have HG := Lib.hid (show ∀ i, i < n → Vo.Good (qAt C i) (wAt C i) (nAt C i) from fun i hi => (hgood i (by omega)).1)
  have HC := Lib.hid hc
  have HK := Lib.hid hk
  have HF := Lib.hid hf
  clear hc hk hf hgood h1 hlen
  have b0 : Below w.heap.size w ((w.alloc (.cells #[.slice A n cp] 79)).alloc (.cells #[.func (.func f) #[] #[]] 77)) := (below1 w _).alloc (by simp) _
  have hy := (Box1.new 79 w (.slice A n cp)).alloc (.cells #[.func (.func f) #[] #[]] 77)
  have hx := Box1.new 77 (w.alloc (.cells #[.slice A n cp] 79)) (.func (.func f) #[] #[])
  simp only [World.size_alloc] at hx
  have cy := hy.cell
  go_enter Try.func87, Try.ntmps87
  go_wp2_with fail
  refine (areChambers_any A n cp C _ hm (HK.out.now b0)).mono ?_
  rintro e w1 ⟨rfl, hb1⟩
  rw [HC.out]
  have g1 := bfrom b0 hb1
  have hks := HK.out.now g1
  have HK1 := Lib.hid hks
  obtain ⟨_, b, off, hA, hrow⟩ := hks
  obtain ⟨rfl, hbl⟩ := hA (by omega)
  obtain ⟨A', cap', hc0, hc1, _, _⟩ := hrow 0 hn1
  simp only [Nat.zero_mul, Nat.add_zero] at hc0 hc1
  clear hA hrow
  have hx1 := hx.now hb1
  have hy1 := hy.now hb1
  have cy1 := hy1.cell
  have HN := Lib.hid (fun W (hb : Below w1.heap.size w1 W) => newAssembly_any (P C) (nAt C 0) _ _ _ W (chambers1_asks P f (w.heap.size + 1) w.heap.size n cp (nAt C 0) _ C W HF.out h9 hm (HK1.out.now hb) HG.out (hx1.now hb) (hy1.now hb)))
  clear cy
  rw [← HM0.out] at HN hc1
  generalize qAt C 0 = q0 at *
  go_wp2_with (first
    | (go_at_call 62; refine (members_any _ A' m0 cap' _).mono ?_; rintro e w2 ⟨rfl, hb2⟩)
    | (go_at_call 84; refine (HN.out _ hb2).mono ?_; rintro e w3 ⟨g, b3, rfl, hasm, hb3⟩; have HASM := Lib.hid hasm; clear hasm)
    | fail)
  go_ret2
  exact ⟨g, b3, w2, rfl, HASM.out, (bfrom g1 hb2).size, bfrom (bfrom g1 hb2) hb3⟩

set_option maxHeartbeats 1000000 in
theorem readChambers_no (f n cp : Nat) (A : Option Addr) (C : List (Int × List Int)) (w : World) (hm : n ≤ 9223372036854775807) (hk : KCS w A n C) (hc : chB C = false) :
    Calls Try.prog 87 #[.slice A n cp, .func (.func f) #[] #[]] w fun e w' => e = .returned (.tuple #[.pointer none, .bool false]) ∧ Below w.heap.size w w' := by
  have HC := Lib.hid hc
  have HK := Lib.hid hk
  clear hc hk
  have b0 : Below w.heap.size w ((w.alloc (.cells #[.slice A n cp] 79)).alloc (.cells #[.func (.func f) #[] #[]] 77)) := (below1 w _).alloc (by simp) _
  have hy := (Box1.new 79 w (.slice A n cp)).alloc (.cells #[.func (.func f) #[] #[]] 77)
  have cy := hy.cell
  go_enter Try.func87, Try.ntmps87
  go_wp2_with fail
  refine (areChambers_any A n cp C _ hm (HK.out.now b0)).mono ?_
  rintro e w1 ⟨rfl, hb1⟩
  rw [HC.out]
  go_wp2
  go_ret2
  exact ⟨rfl, bfrom b0 hb1⟩
end Go.Proofs.Ytkckefjpkhjeaaa
