/- Texts of Gb. -/
import Derived.Test.YtnldodnpakpeeaaPkQ06
import Derived.Test.YtnldodnpakpeeaaPkQ07
import Derived.Test.YtnldodnpakpeeaaPkQ12
import Derived.Deep.RegionHeld3
import Derived.Outline
namespace Go.Proofs.Ytnldodnpakpeeaa
open Go.RowKit Vo

/-- Is there a clue of a game of n members? -/
def clueB (n : Nat) (c : Clu) : Bool :=
  if c.1 = 0 then inB c.2.1 0 ((2^n - 1 : Nat) : Int) && inB c.2.2 0 1
  else if c.1 = 1 then inB c.2.1 1 15 && decide (c.2.2 = 0)
  else if c.1 = 2 then inB c.2.1 0 ((n : Int) - 1) && inB c.2.2 0 1
  else if c.1 = 3 then inB c.2.1 0 ((n : Int) - 1) && inB c.2.2 0 8
  else if c.1 = 4 ∨ c.1 = 5 then inB c.2.1 0 1 && decide (c.2.2 = 0)
  else false
theorem clueB_no {n : Nat} {k a b : Int} (h : ¬ (0 ≤ k ∧ k ≤ 5)) : clueB n (k, a, b) = false := by
  unfold clueB
  simp only
  rw [if_neg (by omega), if_neg (by omega), if_neg (by omega), if_neg (by omega), if_neg (by omega)]

set_option maxHeartbeats 400000 in
theorem isNoOrYes_any (x : Int) (w : World) :
    Calls Try.prog 177 #[.int .i64 x] w fun e w' => e = .returned (.bool (inB x 0 1)) ∧ w = w' := by
  by_cases h0 : x = 0
  · subst h0
    have H := Lib.hid (inB_yes (x := 0) (lo := 0) (hi := 1) (by omega) (by omega))
    go_enter Try.func177, Try.ntmps177
    go_wp2
    go_ret
    exact ⟨by rw [H.out]; rfl, rfl⟩
  · by_cases h1 : x = 1
    · subst h1
      have H := Lib.hid (inB_yes (x := 1) (lo := 0) (hi := 1) (by omega) (by omega))
      go_enter Try.func177, Try.ntmps177
      go_wp2
      go_ret
      exact ⟨by rw [H.out]; rfl, rfl⟩
    · have H := Lib.hid (inB_no (x := x) (lo := 0) (hi := 1) (by omega))
      go_enter Try.func177, Try.ntmps177
      go_wp2
      go_ret
      exact ⟨by rw [H.out]; first | rfl | simp [h0, h1], rfl⟩
set_option maxHeartbeats 400000 in
theorem isHidden_any (x : Int) (w : World) :
    Calls Try.prog 143 #[.int .i64 x] w fun e w' => e = .returned (.bool (inB x 1 4)) ∧ w = w' := by
  by_cases h1 : 1 ≤ x
  · by_cases h2 : x ≤ 4
    · have H := Lib.hid (inB_yes h1 h2)
      go_enter Try.func143, Try.ntmps143
      go_wp2
      go_ret
      exact ⟨by rw [H.out]; rfl, rfl⟩
    · have H := Lib.hid (inB_no (x := x) (lo := 1) (hi := 4) (fun h => h2 h.2))
      go_enter Try.func143, Try.ntmps143
      go_wp2
      go_ret
      exact ⟨by rw [H.out]; rfl, rfl⟩
  · have H := Lib.hid (inB_no (x := x) (lo := 1) (hi := 4) (fun h => h1 h.1))
    go_enter Try.func143, Try.ntmps143
    go_wp2
    go_ret
    exact ⟨by rw [H.out]; rfl, rfl⟩

/-- The function value (k, first, cap), called with the i-th one of these clues, answers p i; it writes nothing that was there. -/
structure AsksU (p : Clu → Bool) (k : Nat) (first cap : Array Value) (w : World) : Prop where
  enters : ∀ args W, (callFunc k args).run Try.prog W = .ok (.enter k args) W
  gives : ∀ (W : World) (x y z : Int), Below w.heap.size w W → Calls Try.prog k (first.push (.agg #[.int .i64 x, .int .i64 y, .int .i64 z]) ++ cap) W fun e W' => e = .returned (.bool (p (x, y, z))) ∧ Below W.heap.size W W'
theorem AsksU.now {p k first cap} {w w' : World} (h : AsksU p k first cap w) (hb : Below w.heap.size w w') : AsksU p k first cap w' :=
  ⟨h.enters, fun W x y z hW => h.gives W x y z (bfrom hb hW)⟩
def anyU (p : Clu → Bool) (C : List Clu) : Nat → Bool
  | 0 => false
  | k+1 => anyU p C k || p (cAt C k)
theorem anyU_yes {p : Clu → Bool} {C : List Clu} {k j : Nat} (hj : j < k) (h : p (cAt C j) = true) : anyU p C k = true := by
  induction k with
  | zero => omega
  | succ k ih =>
    unfold anyU
    by_cases e : j = k
    · subst e; rw [h, Bool.or_true]
    · rw [ih (by omega), Bool.true_or]
theorem anyU_no {p : Clu → Bool} {C : List Clu} {k : Nat} (h : ∀ j, j < k → p (cAt C j) = false) : anyU p C k = false := by
  induction k with
  | zero => rfl
  | succ k ih =>
    unfold anyU
    rw [ih fun j hj => h j (by omega), h k (by omega)]; rfl

set_option maxRecDepth 20000 in
set_option maxHeartbeats 1000000 in
theorem indexU_any (p : Clu → Bool) (k : Nat) (first cap : Array Value) (A : Option Addr) (n cp : Nat) (C : List Clu) (w : World) (hm : n ≤ 9223372036854775807) (hk : KCl w A n C) (ha : AsksU p k first cap w) :
    Calls Try.prog 179 #[.slice A n cp, .func (.func k) first cap] w fun e w' => ((∃ j : Nat, j < n ∧ e = .returned (.int .i64 j) ∧ anyU p C n = true) ∨ (e = .returned (.int .i64 (-1)) ∧ anyU p C n = false)) ∧ Below w.heap.size w w' := by
  have HK := Lib.hid hk
  have HA := Lib.hid ha
  have eg := ha.enters
  clear hk ha
  go_enter Try.func179, Try.ntmps179
  go_wp2_with fail
  go_loopw [5, 8] (fun _ i wr => ∃ j : Nat, j ≤ n ∧ i = .int .i64 j ∧ (∀ t, t < j → p (cAt C t) = false) ∧ Below w.heap.size w wr) (fun _ i _ => n - (intOf i).toNat)
  case atStart => exact ⟨0, Nat.zero_le _, rfl, fun _ h => by omega, Below.refl _ _⟩
  case round =>
    obtain ⟨j, hj, rfl, hno, hb⟩ := hrel
    have HS := Lib.hid hno
    clear hno
    by_cases hlt : j < n
    · obtain ⟨b, off, rfl, hcl⟩ := (HK.out.now hb).get (by omega)
      obtain ⟨hc0, hc1, hc2⟩ := hcl.at hlt
      have hbl := hcl.lt
      have HC := Lib.hid (HA.out.gives wr (cAt C j).1 (cAt C j).2.1 (cAt C j).2.2 hb)
      have HP := Lib.hid (show p ((cAt C j).1, (cAt C j).2.1, (cAt C j).2.2) = p (cAt C j) from rfl)
      clear hcl
      rw [HP.out] at HC
      obtain ⟨c, hc⟩ : ∃ c, c = cAt C j := ⟨_, rfl⟩
      rw [← hc] at HC hc0 hc1 hc2
      have HCC := Lib.hid hc
      clear hc HP
      obtain ⟨x, y, z⟩ := c
      simp only at hc0 hc1 hc2 HC
      cases hp : p (x, y, z) with
      | true =>
        have HW := Lib.hid (anyU_yes (C := C) hlt (by rw [← HCC.out]; exact hp))
        rw [hp] at HC
        clear hp
        go_wp2_with (go_at_fn k; refine HC.out.mono ?_; rintro e w' ⟨rfl, hb'⟩)
        go_ret
        exact ⟨Or.inl ⟨j, hlt, rfl, HW.out⟩, bfrom hb hb'⟩
      | false =>
        have HW := Lib.hid (show ∀ t, t < j + 1 → p (cAt C t) = false from fun t ht => by
          by_cases e : t = j
          · subst e; rw [← HCC.out]; exact hp
          · exact HS.out t (by omega))
        rw [hp] at HC
        clear hp
        go_wp2_with (go_at_fn k; refine HC.out.mono ?_; rintro e w' ⟨rfl, hb'⟩)
        go_roundw
        case rel => exact ⟨j + 1, by omega, by go_num, HW.out, bfrom hb hb'⟩
        case measure => simp [intOf]; omega
    · obtain rfl : j = n := by omega
      have HW := Lib.hid (anyU_no (C := C) HS.out)
      go_wp2
      go_ret
      exact ⟨Or.inr ⟨rfl, HW.out⟩, hb⟩

set_option maxHeartbeats 1000000 in
theorem containsU_any (p : Clu → Bool) (k : Nat) (first cap : Array Value) (A : Option Addr) (n cp : Nat) (C : List Clu) (w : World) (hm : n ≤ 9223372036854775807) (hk : KCl w A n C) (ha : AsksU p k first cap w) :
    Calls Try.prog 144 #[.slice A n cp, .func (.func k) first cap] w fun e w' => e = .returned (.bool (anyU p C n)) ∧ Below w.heap.size w w' := by
  have HI := Lib.hid (indexU_any p k first cap A n cp C w hm hk ha)
  clear hk ha
  go_enter Try.func144, Try.ntmps144
  go_wp2_with fail
  refine HI.out.mono ?_
  rintro e w1 ⟨h, hb⟩
  rcases h with ⟨j, hj, rfl, hw⟩ | ⟨rfl, hw⟩
  · have HW := Lib.hid hw
    clear hw
    have h0 : (0 : Int) ≤ (j : Int) := by omega
    go_wp2
    go_ret
    exact ⟨by rw [HW.out]; first | rfl | simp, hb⟩
  · have HW := Lib.hid hw
    clear hw
    go_wp2
    go_ret
    exact ⟨by rw [HW.out]; rfl, hb⟩

set_option maxHeartbeats 1000000 in
theorem question0_any (a b : Int) (w : World) :
    Calls Try.prog 176 #[.agg #[.int .i64 0, .int .i64 a, .int .i64 b]] w fun e w' => e = .returned (.iface 204 (.agg #[.int .u64 (IntKind.u64.wrap a)])) ∧ Below w.heap.size w w' := by
  have b0 := below1 w (.cells #[.int .i64 0, .int .i64 a, .int .i64 b] 130)
  go_enter Try.func176, Try.ntmps176
  go_wp2
  go_ret
  exact ⟨rfl, b0⟩
set_option maxHeartbeats 1000000 in
theorem question1_any (a b : Int) (w : World) :
    Calls Try.prog 176 #[.agg #[.int .i64 1, .int .i64 a, .int .i64 b]] w fun e w' => e = .returned (.iface 206 (.agg #[])) ∧ Below w.heap.size w w' := by
  have b0 := below1 w (.cells #[.int .i64 1, .int .i64 a, .int .i64 b] 130)
  go_enter Try.func176, Try.ntmps176
  go_wp2
  go_ret
  exact ⟨rfl, b0⟩
set_option maxHeartbeats 1000000 in
theorem question2_any (a b : Int) (w : World) :
    Calls Try.prog 176 #[.agg #[.int .i64 2, .int .i64 a, .int .i64 b]] w fun e w' => e = .returned (.iface 208 (.agg #[.int .i64 a])) ∧ Below w.heap.size w w' := by
  have b0 := below1 w (.cells #[.int .i64 2, .int .i64 a, .int .i64 b] 130)
  go_enter Try.func176, Try.ntmps176
  go_wp2
  go_ret
  exact ⟨rfl, b0⟩
set_option maxHeartbeats 1000000 in
theorem question3_any (a b : Int) (w : World) :
    Calls Try.prog 176 #[.agg #[.int .i64 3, .int .i64 a, .int .i64 b]] w fun e w' => e = .returned (.iface 210 (.agg #[.int .i64 a])) ∧ Below w.heap.size w w' := by
  have b0 := below1 w (.cells #[.int .i64 3, .int .i64 a, .int .i64 b] 130)
  go_enter Try.func176, Try.ntmps176
  go_wp2
  go_ret
  exact ⟨rfl, b0⟩
set_option maxHeartbeats 1000000 in
theorem question4_any (a b : Int) (w : World) :
    Calls Try.prog 176 #[.agg #[.int .i64 4, .int .i64 a, .int .i64 b]] w fun e w' => e = .returned (.iface 211 (.agg #[])) ∧ Below w.heap.size w w' := by
  have b0 := below1 w (.cells #[.int .i64 4, .int .i64 a, .int .i64 b] 130)
  go_enter Try.func176, Try.ntmps176
  go_wp2
  go_ret
  exact ⟨rfl, b0⟩
set_option maxHeartbeats 1000000 in
theorem question5_any (a b : Int) (w : World) :
    Calls Try.prog 176 #[.agg #[.int .i64 5, .int .i64 a, .int .i64 b]] w fun e w' => e = .returned (.iface 212 (.agg #[])) ∧ Below w.heap.size w w' := by
  have b0 := below1 w (.cells #[.int .i64 5, .int .i64 a, .int .i64 b] 130)
  go_enter Try.func176, Try.ntmps176
  go_wp2
  go_ret
  exact ⟨rfl, b0⟩
set_option maxHeartbeats 1000000 in
theorem questionN_any (k a b : Int) (w : World) (h : ¬ (0 ≤ k ∧ k ≤ 5)) :
    Calls Try.prog 176 #[.agg #[.int .i64 k, .int .i64 a, .int .i64 b]] w fun e w' => e = .returned .nilIface ∧ Below w.heap.size w w' := by
  have b0 := below1 w (.cells #[.int .i64 k, .int .i64 a, .int .i64 b] 130)
  have h0 : ¬ k = 0 := by omega
  have h1 : ¬ k = 1 := by omega
  have h2 : ¬ k = 2 := by omega
  have h3 : ¬ k = 3 := by omega
  have h4 : ¬ k = 4 := by omega
  have h5 : ¬ k = 5 := by omega
  go_enter Try.func176, Try.ntmps176
  go_wp2
  go_ret
  exact ⟨rfl, b0⟩

/-- 'x.(T)' at a struct type T, with the second result: x's dynamic type is T, is another one, is none. -/
theorem run_assert_yes {t : TypeId} {fs : Array Field} (h : Try.prog.underlying t = some (.struct fs)) (v : Value) (xT : TypeId) (w : World) :
    (Instr.typeAssert (.iface t v) xT t true).run Try.prog w = .ok (.tuple #[v, .bool true]) w := by
  simp [Instr.typeAssert, run_underlying h, go_sem, Result.andThen]
theorem run_assert_no {t a : TypeId} {fs : Array Field} {z : Value} (h : Try.prog.underlying a = some (.struct fs)) (hne : t ≠ a) (hz : (Try.prog.info? a).map (·.zero) = some (some z)) (v : Value) (xT : TypeId) (w : World) :
    (Instr.typeAssert (.iface t v) xT a true).run Try.prog w = .ok (.tuple #[z, .bool false]) w := by
  obtain ⟨j, hj, hz'⟩ := Option.map_eq_some_iff.1 hz
  simp [Instr.typeAssert, run_underlying h, go_sem, Result.andThen, hne, typeInfo, zeroValue, hj, hz']
theorem run_assert_nil {a : TypeId} {fs : Array Field} {z : Value} (h : Try.prog.underlying a = some (.struct fs)) (hz : (Try.prog.info? a).map (·.zero) = some (some z)) (xT : TypeId) (w : World) :
    (Instr.typeAssert .nilIface xT a true).run Try.prog w = .ok (.tuple #[z, .bool false]) w := by
  obtain ⟨j, hj, hz'⟩ := Option.map_eq_some_iff.1 hz
  simp [Instr.typeAssert, run_underlying h, go_sem, Result.andThen, typeInfo, zeroValue, hj, hz']
theorem zeroSQ : (Try.prog.info? 204).map (·.zero) = some (some (.agg #[.int .u64 0])) := by kernel_rfl
theorem zeroCQ : (Try.prog.info? 206).map (·.zero) = some (some (.agg #[])) := by kernel_rfl
theorem zeroVQ : (Try.prog.info? 208).map (·.zero) = some (some (.agg #[.int .i64 0])) := by kernel_rfl
theorem zeroWQ : (Try.prog.info? 210).map (·.zero) = some (some (.agg #[.int .i64 0])) := by kernel_rfl
theorem zeroPQ : (Try.prog.info? 211).map (·.zero) = some (some (.agg #[])) := by kernel_rfl
theorem zeroTQ : (Try.prog.info? 212).map (·.zero) = some (some (.agg #[])) := by kernel_rfl

/-- Block g is the box of a struct of three cells. -/
def Bx3 (t : TypeId) (w : World) (g : Nat) (a b c : Value) : Prop := w.heap[g]? = some (.cells #[a, b, c] t (0, 0))
namespace Bx3
variable {t : TypeId} {w w' : World} {g : Nat} {a b c : Value}
theorem lt (h : Bx3 t w g a b c) : g < w.heap.size := (Array.getElem?_eq_some_iff.1 h).1
theorem cells (h : Bx3 t w g a b c) : w.cell? ⟨g, 0, none⟩ = some a ∧ w.cell? ⟨g, 1, none⟩ = some b ∧ w.cell? ⟨g, 2, none⟩ = some c := by
  unfold Bx3 at h; exact ⟨by simp [World.cell?, h], by simp [World.cell?, h], by simp [World.cell?, h]⟩
theorem soft (h : Bx3 t w g a b c) : w.frozen? ⟨g, 0, none⟩ = false ∧ w.frozen? ⟨g, 1, none⟩ = false ∧ w.frozen? ⟨g, 2, none⟩ = false := by
  unfold Bx3 at h; exact ⟨by simp [World.frozen?, h], by simp [World.frozen?, h], by simp [World.frozen?, h]⟩
theorem now (h : Bx3 t w g a b c) (hb : Below w.heap.size w w') : Bx3 t w' g a b c := (hb.block g h.lt).trans h
theorem drew (h : Bx3 t w g a b c) : Bx3 t w.drew g a b c := h
theorem alloc (h : Bx3 t w g a b c) (o : Obj) : Bx3 t (w.alloc o) g a b c := h.now ((Below.refl _ _).alloc (Nat.le_refl _) _)
theorem far (h : Bx3 t w g a b c) {p : Addr} (hp : g ≠ p.block) (x : Value) : Bx3 t (w.setCell p x) g a b c := (Below.heap_setCell w p x g hp).trans h
theorem new (t : TypeId) (w : World) (a b c : Value) : Bx3 t (w.alloc (.cells #[a, b, c] t)) w.heap.size a b c := heap_alloc_new w _
end Bx3





set_option maxRecDepth 20000 in
set_option maxHeartbeats 4000000 in
theorem isFor0_any (n : Nat) (a b : Int) (w : World) (h1 : 1 ≤ n) (hn : n ≤ 4) :
    Calls Try.prog 142 #[.agg #[.int .i64 0, .int .i64 a, .int .i64 b], .int .i64 n] w fun e w' => e = .returned (.bool (clueB n (0, a, b))) ∧ Below w.heap.size w w' := by
  have b0 := below1 w (.cells #[.int .i64 0, .int .i64 a, .int .i64 b] 130)
  have hx := Bx3.new 130 w (.int .i64 0) (.int .i64 a) (.int .i64 b)
  have HQ := Lib.hid (fun W => question0_any a b W)
  have HN := Lib.hid (fun (x : Int) W => isNoOrYes_any x W)
  have HM := Lib.hid (fun (x : Int) W => isMember_any n x W (by omega))
  have t0 := fun v W => run_assert_yes Try.underlying204 v 201 W
  have HR := Lib.hid (show clueB n (0, a, b) = (inB a 0 ((2^n - 1 : Nat) : Int) && inB b 0 1) from rfl)
  obtain ⟨P, hP, hP2⟩ : ∃ P : Nat, P = 2^n ∧ P ≤ 16 := ⟨2^n, rfl, Nat.pow_le_pow_right (n := 2) (by omega) hn⟩
  have hpc : (2 : Int)^n = (P : Int) := by rw [hP]; simp
  have hpos : 1 ≤ P := by rw [hP]; exact Nat.two_pow_pos n
  have hwr : IntKind.i64.wrap (P : Int) = (P : Int) := IntWalk.i64_in _ (by omega)
  rw [← hP] at HR
  rw [HR.out]
  clear hP HR
  by_cases ha0 : 0 ≤ a
  · by_cases ha1 : a < P
    · have HA := Lib.hid (inB_yes (x := a) (lo := 0) (hi := ((P - 1 : Nat) : Int)) ha0 (by omega))
      rw [HA.out, Bool.true_and]
      go_enter Try.func142, Try.ntmps142
      go_wp2_with fail
      refine (HQ.out _).mono ?_
      rintro e w1 ⟨rfl, hb1⟩
      obtain ⟨c0, c1, c2⟩ := (hx.now hb1).cells
      clear hx
      go_wp2_with fail
      go_region_held3 (fun w' => w'.cell? ⟨w.heap.size, 1, none⟩ = some (.int .i64 a) ∧ w'.cell? ⟨w.heap.size, 2, none⟩ = some (.int .i64 b))
        (first | exact ⟨c1, c2⟩ | go_keep)
        (first | (go_at_call 177; refine (HN.out b _).mono ?_; rintro e w2 ⟨rfl, rfl⟩) | fail)
      go_wp2
      go_ret
      exact ⟨rfl, (bfrom b0 hb1).drew⟩
    · have HA := Lib.hid (inB_no (x := a) (lo := 0) (hi := ((P - 1 : Nat) : Int)) (by omega))
      rw [HA.out, Bool.false_and]
      have hd : decide (a < IntKind.i64.wrap (P : Int)) = false := by rw [hwr]; exact decide_eq_false ha1
      clear hwr
      go_enter Try.func142, Try.ntmps142
      go_wp2_with fail
      refine (HQ.out _).mono ?_
      rintro e w1 ⟨rfl, hb1⟩
      obtain ⟨c0, c1, c2⟩ := (hx.now hb1).cells
      clear hx
      go_wp2_with fail
      first | (go_region_with fail) | fail
      all_goals
        go_wp2
        go_ret
        exact ⟨rfl, (bfrom b0 hb1).drew⟩
  · have HA := Lib.hid (inB_no (x := a) (lo := 0) (hi := ((P - 1 : Nat) : Int)) (by omega))
    rw [HA.out, Bool.false_and]
    go_enter Try.func142, Try.ntmps142
    go_wp2_with fail
    refine (HQ.out _).mono ?_
    rintro e w1 ⟨rfl, hb1⟩
    obtain ⟨c0, c1, c2⟩ := (hx.now hb1).cells
    clear hx
    go_wp2_with fail
    first | (go_region_with fail) | fail
    all_goals
      go_wp2
      go_ret
      exact ⟨rfl, (bfrom b0 hb1).drew⟩

set_option maxRecDepth 20000 in
set_option maxHeartbeats 4000000 in
theorem isFor1_any (n : Nat) (a b : Int) (w : World) (h1 : 1 ≤ n) (hn : n ≤ 4) :
    Calls Try.prog 142 #[.agg #[.int .i64 1, .int .i64 a, .int .i64 b], .int .i64 n] w fun e w' => e = .returned (.bool (clueB n (1, a, b))) ∧ Below w.heap.size w w' := by
  have b0 := below1 w (.cells #[.int .i64 1, .int .i64 a, .int .i64 b] 130)
  have hx := Bx3.new 130 w (.int .i64 1) (.int .i64 a) (.int .i64 b)
  have HQ := Lib.hid (fun W => question1_any a b W)
  have HN := Lib.hid (fun (x : Int) W => isNoOrYes_any x W)
  have HM := Lib.hid (fun (x : Int) W => isMember_any n x W (by omega))
  have t0 := fun v W => run_assert_no (t := 206) Try.underlying204 (by decide) zeroSQ v 201 W
  have t1 := fun v W => run_assert_yes Try.underlying206 v 201 W
  have HR := Lib.hid (show clueB n (1, a, b) = (inB a 1 15 && decide (b = 0)) from rfl)
  rw [HR.out]
  clear HR HN HM
  by_cases ha0 : 1 ≤ a
  · by_cases ha1 : a ≤ 15
    · rw [inB_yes ha0 ha1, Bool.true_and]
      by_cases hb : b = 0
      · subst hb
        go_enter Try.func142, Try.ntmps142
        go_wp2_with fail
        refine (HQ.out _).mono ?_
        rintro e w1 ⟨rfl, hb1⟩
        obtain ⟨c0, c1, c2⟩ := (hx.now hb1).cells
        clear hx
        go_wp2
        go_ret
        exact ⟨rfl, bfrom b0 hb1⟩
      · rw [decide_eq_false hb]
        go_enter Try.func142, Try.ntmps142
        go_wp2_with fail
        refine (HQ.out _).mono ?_
        rintro e w1 ⟨rfl, hb1⟩
        obtain ⟨c0, c1, c2⟩ := (hx.now hb1).cells
        clear hx
        go_wp2
        go_ret
        exact ⟨by first | rfl | simp [hb], bfrom b0 hb1⟩
    · rw [inB_no (x := a) (lo := 1) (hi := 15) (by omega), Bool.false_and]
      go_enter Try.func142, Try.ntmps142
      go_wp2_with fail
      refine (HQ.out _).mono ?_
      rintro e w1 ⟨rfl, hb1⟩
      obtain ⟨c0, c1, c2⟩ := (hx.now hb1).cells
      clear hx
      go_wp2
      go_ret
      exact ⟨rfl, bfrom b0 hb1⟩
  · rw [inB_no (x := a) (lo := 1) (hi := 15) (by omega), Bool.false_and]
    go_enter Try.func142, Try.ntmps142
    go_wp2_with fail
    refine (HQ.out _).mono ?_
    rintro e w1 ⟨rfl, hb1⟩
    obtain ⟨c0, c1, c2⟩ := (hx.now hb1).cells
    clear hx
    go_wp2
    go_ret
    exact ⟨rfl, bfrom b0 hb1⟩

set_option maxRecDepth 20000 in
set_option maxHeartbeats 4000000 in
theorem isFor2_any (n : Nat) (a b : Int) (w : World) (h1 : 1 ≤ n) (hn : n ≤ 4) :
    Calls Try.prog 142 #[.agg #[.int .i64 2, .int .i64 a, .int .i64 b], .int .i64 n] w fun e w' => e = .returned (.bool (clueB n (2, a, b))) ∧ Below w.heap.size w w' := by
  have b0 := below1 w (.cells #[.int .i64 2, .int .i64 a, .int .i64 b] 130)
  have hx := Bx3.new 130 w (.int .i64 2) (.int .i64 a) (.int .i64 b)
  have HQ := Lib.hid (fun W => question2_any a b W)
  have HN := Lib.hid (fun (x : Int) W => isNoOrYes_any x W)
  have HM := Lib.hid (fun (x : Int) W => isMember_any n x W (by omega))
  have t0 := fun v W => run_assert_no (t := 208) Try.underlying204 (by decide) zeroSQ v 201 W
  have t1 := fun v W => run_assert_no (t := 208) Try.underlying206 (by decide) zeroCQ v 201 W
  have t2 := fun v W => run_assert_yes Try.underlying208 v 201 W
  have HR := Lib.hid (show clueB n (2, a, b) = (inB a 0 ((n : Int) - 1) && inB b 0 1) from rfl)
  rw [HR.out]
  clear HR
  cases hm : inB a 0 ((n : Int) - 1) with
  | true =>
    have HMM := Lib.hid (HM.out a)
    rw [hm] at HMM
    rw [Bool.true_and]
    clear hm HM
    go_enter Try.func142, Try.ntmps142
    go_wp2_with fail
    refine (HQ.out _).mono ?_
    rintro e w1 ⟨rfl, hb1⟩
    obtain ⟨c0, c1, c2⟩ := (hx.now hb1).cells
    clear hx
    go_wp2_with fail
    refine (HMM.out _).mono ?_
    rintro e w2 ⟨rfl, rfl⟩
    go_wp2_with fail
    refine (HN.out b _).mono ?_
    rintro e w2 ⟨rfl, rfl⟩
    go_wp2
    go_ret
    exact ⟨rfl, bfrom b0 hb1⟩
  | false =>
    have HMM := Lib.hid (HM.out a)
    rw [hm] at HMM
    rw [Bool.false_and]
    clear hm HM
    go_enter Try.func142, Try.ntmps142
    go_wp2_with fail
    refine (HQ.out _).mono ?_
    rintro e w1 ⟨rfl, hb1⟩
    obtain ⟨c0, c1, c2⟩ := (hx.now hb1).cells
    clear hx
    go_wp2_with fail
    refine (HMM.out _).mono ?_
    rintro e w2 ⟨rfl, rfl⟩
    go_wp2
    go_ret
    exact ⟨rfl, bfrom b0 hb1⟩

set_option maxRecDepth 20000 in
set_option maxHeartbeats 4000000 in
theorem isFor3_any (n : Nat) (a b : Int) (w : World) (h1 : 1 ≤ n) (hn : n ≤ 4) :
    Calls Try.prog 142 #[.agg #[.int .i64 3, .int .i64 a, .int .i64 b], .int .i64 n] w fun e w' => e = .returned (.bool (clueB n (3, a, b))) ∧ Below w.heap.size w w' := by
  have b0 := below1 w (.cells #[.int .i64 3, .int .i64 a, .int .i64 b] 130)
  have hx := Bx3.new 130 w (.int .i64 3) (.int .i64 a) (.int .i64 b)
  have HQ := Lib.hid (fun W => question3_any a b W)
  have HN := Lib.hid (fun (x : Int) W => isNoOrYes_any x W)
  have HM := Lib.hid (fun (x : Int) W => isMember_any n x W (by omega))
  have t0 := fun v W => run_assert_no (t := 210) Try.underlying204 (by decide) zeroSQ v 201 W
  have t1 := fun v W => run_assert_no (t := 210) Try.underlying206 (by decide) zeroCQ v 201 W
  have t2 := fun v W => run_assert_no (t := 210) Try.underlying208 (by decide) zeroVQ v 201 W
  have t3 := fun v W => run_assert_yes Try.underlying210 v 201 W
  have HR := Lib.hid (show clueB n (3, a, b) = (inB a 0 ((n : Int) - 1) && inB b 0 8) from rfl)
  rw [HR.out]
  clear HR HN
  cases hm : inB a 0 ((n : Int) - 1) with
  | true =>
    have HMM := Lib.hid (HM.out a)
    rw [hm] at HMM
    rw [Bool.true_and]
    clear hm HM
    by_cases hb0 : 0 ≤ b
    · by_cases hb8 : b ≤ 8
      · rw [inB_yes hb0 hb8]
        go_enter Try.func142, Try.ntmps142
        go_wp2_with fail
        refine (HQ.out _).mono ?_
        rintro e w1 ⟨rfl, hb1⟩
        obtain ⟨c0, c1, c2⟩ := (hx.now hb1).cells
        clear hx
        go_wp2_with fail
        refine (HMM.out _).mono ?_
        rintro e w2 ⟨rfl, rfl⟩
        go_wp2
        go_ret
        exact ⟨rfl, bfrom b0 hb1⟩
      · rw [inB_no (x := b) (lo := 0) (hi := 8) (by omega)]
        go_enter Try.func142, Try.ntmps142
        go_wp2_with fail
        refine (HQ.out _).mono ?_
        rintro e w1 ⟨rfl, hb1⟩
        obtain ⟨c0, c1, c2⟩ := (hx.now hb1).cells
        clear hx
        go_wp2_with fail
        refine (HMM.out _).mono ?_
        rintro e w2 ⟨rfl, rfl⟩
        go_wp2
        go_ret
        exact ⟨by first | rfl | simp [hb8], bfrom b0 hb1⟩
    · rw [inB_no (x := b) (lo := 0) (hi := 8) (by omega)]
      go_enter Try.func142, Try.ntmps142
      go_wp2_with fail
      refine (HQ.out _).mono ?_
      rintro e w1 ⟨rfl, hb1⟩
      obtain ⟨c0, c1, c2⟩ := (hx.now hb1).cells
      clear hx
      go_wp2_with fail
      refine (HMM.out _).mono ?_
      rintro e w2 ⟨rfl, rfl⟩
      go_wp2
      go_ret
      exact ⟨rfl, bfrom b0 hb1⟩
  | false =>
    have HMM := Lib.hid (HM.out a)
    rw [hm] at HMM
    rw [Bool.false_and]
    clear hm HM
    go_enter Try.func142, Try.ntmps142
    go_wp2_with fail
    refine (HQ.out _).mono ?_
    rintro e w1 ⟨rfl, hb1⟩
    obtain ⟨c0, c1, c2⟩ := (hx.now hb1).cells
    clear hx
    go_wp2_with fail
    refine (HMM.out _).mono ?_
    rintro e w2 ⟨rfl, rfl⟩
    go_wp2
    go_ret
    exact ⟨rfl, bfrom b0 hb1⟩

set_option maxRecDepth 20000 in
set_option maxHeartbeats 4000000 in
theorem isFor4_any (n : Nat) (a b : Int) (w : World) (h1 : 1 ≤ n) (hn : n ≤ 4) :
    Calls Try.prog 142 #[.agg #[.int .i64 4, .int .i64 a, .int .i64 b], .int .i64 n] w fun e w' => e = .returned (.bool (clueB n (4, a, b))) ∧ Below w.heap.size w w' := by
  have b0 := below1 w (.cells #[.int .i64 4, .int .i64 a, .int .i64 b] 130)
  have hx := Bx3.new 130 w (.int .i64 4) (.int .i64 a) (.int .i64 b)
  have HQ := Lib.hid (fun W => question4_any a b W)
  have HN := Lib.hid (fun (x : Int) W => isNoOrYes_any x W)
  have HM := Lib.hid (fun (x : Int) W => isMember_any n x W (by omega))
  have t0 := fun v W => run_assert_no (t := 211) Try.underlying204 (by decide) zeroSQ v 201 W
  have t1 := fun v W => run_assert_no (t := 211) Try.underlying206 (by decide) zeroCQ v 201 W
  have t2 := fun v W => run_assert_no (t := 211) Try.underlying208 (by decide) zeroVQ v 201 W
  have t3 := fun v W => run_assert_no (t := 211) Try.underlying210 (by decide) zeroWQ v 201 W
  have t4 := fun v W => run_assert_yes Try.underlying211 v 201 W
  have t5 := fun v W => run_assert_no (t := 211) Try.underlying212 (by decide) zeroTQ v 201 W
  have HR := Lib.hid (show clueB n (4, a, b) = (inB a 0 1 && decide (b = 0)) from rfl)
  rw [HR.out]
  clear HR HM
  have HNN := Lib.hid (HN.out a)
  clear HN
  generalize inB a 0 1 = r at *
  cases r with
  | true =>
    rw [Bool.true_and]
    by_cases hb : b = 0
    · subst hb
      go_enter Try.func142, Try.ntmps142
      go_wp2_with fail
      refine (HQ.out _).mono ?_
      rintro e w1 ⟨rfl, hb1⟩
      obtain ⟨c0, c1, c2⟩ := (hx.now hb1).cells
      clear hx
      go_wp2_with fail
      refine (HNN.out _).mono ?_
      rintro e w2 ⟨rfl, rfl⟩
      go_wp2
      go_ret
      exact ⟨rfl, bfrom b0 hb1⟩
    · rw [decide_eq_false hb]
      go_enter Try.func142, Try.ntmps142
      go_wp2_with fail
      refine (HQ.out _).mono ?_
      rintro e w1 ⟨rfl, hb1⟩
      obtain ⟨c0, c1, c2⟩ := (hx.now hb1).cells
      clear hx
      go_wp2_with fail
      refine (HNN.out _).mono ?_
      rintro e w2 ⟨rfl, rfl⟩
      go_wp2
      go_ret
      exact ⟨by first | rfl | simp [hb], bfrom b0 hb1⟩
  | false =>
    rw [Bool.false_and]
    go_enter Try.func142, Try.ntmps142
    go_wp2_with fail
    refine (HQ.out _).mono ?_
    rintro e w1 ⟨rfl, hb1⟩
    obtain ⟨c0, c1, c2⟩ := (hx.now hb1).cells
    clear hx
    go_wp2_with fail
    refine (HNN.out _).mono ?_
    rintro e w2 ⟨rfl, rfl⟩
    go_wp2
    go_ret
    exact ⟨rfl, bfrom b0 hb1⟩

set_option maxRecDepth 20000 in
set_option maxHeartbeats 4000000 in
theorem isFor5_any (n : Nat) (a b : Int) (w : World) (h1 : 1 ≤ n) (hn : n ≤ 4) :
    Calls Try.prog 142 #[.agg #[.int .i64 5, .int .i64 a, .int .i64 b], .int .i64 n] w fun e w' => e = .returned (.bool (clueB n (5, a, b))) ∧ Below w.heap.size w w' := by
  have b0 := below1 w (.cells #[.int .i64 5, .int .i64 a, .int .i64 b] 130)
  have hx := Bx3.new 130 w (.int .i64 5) (.int .i64 a) (.int .i64 b)
  have HQ := Lib.hid (fun W => question5_any a b W)
  have HN := Lib.hid (fun (x : Int) W => isNoOrYes_any x W)
  have HM := Lib.hid (fun (x : Int) W => isMember_any n x W (by omega))
  have t0 := fun v W => run_assert_no (t := 212) Try.underlying204 (by decide) zeroSQ v 201 W
  have t1 := fun v W => run_assert_no (t := 212) Try.underlying206 (by decide) zeroCQ v 201 W
  have t2 := fun v W => run_assert_no (t := 212) Try.underlying208 (by decide) zeroVQ v 201 W
  have t3 := fun v W => run_assert_no (t := 212) Try.underlying210 (by decide) zeroWQ v 201 W
  have t4 := fun v W => run_assert_no (t := 212) Try.underlying211 (by decide) zeroPQ v 201 W
  have t5 := fun v W => run_assert_yes Try.underlying212 v 201 W
  have HR := Lib.hid (show clueB n (5, a, b) = (inB a 0 1 && decide (b = 0)) from rfl)
  rw [HR.out]
  clear HR HM
  have HNN := Lib.hid (HN.out a)
  clear HN
  generalize inB a 0 1 = r at *
  cases r with
  | true =>
    rw [Bool.true_and]
    by_cases hb : b = 0
    · subst hb
      go_enter Try.func142, Try.ntmps142
      go_wp2_with fail
      refine (HQ.out _).mono ?_
      rintro e w1 ⟨rfl, hb1⟩
      obtain ⟨c0, c1, c2⟩ := (hx.now hb1).cells
      clear hx
      go_wp2_with fail
      refine (HNN.out _).mono ?_
      rintro e w2 ⟨rfl, rfl⟩
      go_wp2
      go_ret
      exact ⟨rfl, bfrom b0 hb1⟩
    · rw [decide_eq_false hb]
      go_enter Try.func142, Try.ntmps142
      go_wp2_with fail
      refine (HQ.out _).mono ?_
      rintro e w1 ⟨rfl, hb1⟩
      obtain ⟨c0, c1, c2⟩ := (hx.now hb1).cells
      clear hx
      go_wp2_with fail
      refine (HNN.out _).mono ?_
      rintro e w2 ⟨rfl, rfl⟩
      go_wp2
      go_ret
      exact ⟨by first | rfl | simp [hb], bfrom b0 hb1⟩
  | false =>
    rw [Bool.false_and]
    go_enter Try.func142, Try.ntmps142
    go_wp2_with fail
    refine (HQ.out _).mono ?_
    rintro e w1 ⟨rfl, hb1⟩
    obtain ⟨c0, c1, c2⟩ := (hx.now hb1).cells
    clear hx
    go_wp2_with fail
    refine (HNN.out _).mono ?_
    rintro e w2 ⟨rfl, rfl⟩
    go_wp2
    go_ret
    exact ⟨rfl, bfrom b0 hb1⟩

set_option maxRecDepth 20000 in
set_option maxHeartbeats 4000000 in
theorem isFor_any (n : Nat) (k a b : Int) (w : World) (h1 : 1 ≤ n) (hn : n ≤ 4) :
    Calls Try.prog 142 #[.agg #[.int .i64 k, .int .i64 a, .int .i64 b], .int .i64 n] w fun e w' => e = .returned (.bool (clueB n (k, a, b))) ∧ Below w.heap.size w w' := by
  by_cases hk : 0 ≤ k ∧ k ≤ 5
  · have h : k = 0 ∨ k = 1 ∨ k = 2 ∨ k = 3 ∨ k = 4 ∨ k = 5 := by omega
    rcases h with rfl | rfl | rfl | rfl | rfl | rfl
    · exact isFor0_any n a b w h1 hn
    · exact isFor1_any n a b w h1 hn
    · exact isFor2_any n a b w h1 hn
    · exact isFor3_any n a b w h1 hn
    · exact isFor4_any n a b w h1 hn
    · exact isFor5_any n a b w h1 hn
  · rw [clueB_no hk]
    have b0 := below1 w (.cells #[.int .i64 k, .int .i64 a, .int .i64 b] 130)
    have hx := Bx3.new 130 w (.int .i64 k) (.int .i64 a) (.int .i64 b)
    have HQ := Lib.hid (fun W => questionN_any k a b W hk)
    have t0 := fun W => run_assert_nil Try.underlying204 zeroSQ 201 W
    have t1 := fun W => run_assert_nil Try.underlying206 zeroCQ 201 W
    have t2 := fun W => run_assert_nil Try.underlying208 zeroVQ 201 W
    have t3 := fun W => run_assert_nil Try.underlying210 zeroWQ 201 W
    have t4 := fun W => run_assert_nil Try.underlying211 zeroPQ 201 W
    have t5 := fun W => run_assert_nil Try.underlying212 zeroTQ 201 W
    clear hk
    go_enter Try.func142, Try.ntmps142
    go_wp2_with fail
    refine (HQ.out _).mono ?_
    rintro e w1 ⟨rfl, hb1⟩
    obtain ⟨c0, c1, c2⟩ := (hx.now hb1).cells
    clear hx
    go_wp2
    go_ret
    exact ⟨rfl, bfrom b0 hb1⟩
end Go.Proofs.Ytnldodnpakpeeaa
