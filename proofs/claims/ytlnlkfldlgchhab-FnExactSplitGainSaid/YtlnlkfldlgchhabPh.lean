/- Contracts of the program's quarrels. -/
import Derived.Test.YtlnlkfldlgchhabPd
import Derived.Test.YtlnlkfldlgchhabPf
namespace Go.Proofs.Ytlnlkfldlgchhab
open Go.RowKit Vo

/-- A set wins if two members quarrel: it wins, and lacks one of them. -/
def quaP (p : Nat → Bool) (i j s : Nat) : Bool := p s && !(s.testBit i && s.testBit j)
/-- Are there a committee and two different members of it? -/
def pairOk (q : Int) (ws : List Int) (n : Nat) (x y : Int) : Bool := memOk q ws n x && memOk q ws n y && !(x == y)
theorem pairOk_parts {q ws n x y} (h : pairOk q ws n x y = true) : Vo.Good q ws n ∧ (0 ≤ x ∧ x < n) ∧ (0 ≤ y ∧ y < n) ∧ x ≠ y := by
  unfold pairOk at h
  simp at h
  obtain ⟨⟨h1, h2⟩, h3⟩ := h
  exact ⟨(memOk_parts h1).1, (memOk_parts h1).2, (memOk_parts h2).2, h3⟩
theorem both_part (s i j : Nat) : decide (s &&& (2^i ||| 2^j) = (2^i ||| 2^j)) = (s.testBit i && s.testBit j) := by
  rw [Bool.eq_iff_iff]
  simp only [decide_eq_true_eq, Bool.and_eq_true]
  constructor
  · intro h
    constructor
    · have := congrArg (fun t => t.testBit i) h
      simpa [Nat.testBit_and, Nat.testBit_or, Nat.testBit_two_pow_self] using this
    · have := congrArg (fun t => t.testBit j) h
      simpa [Nat.testBit_and, Nat.testBit_or, Nat.testBit_two_pow_self] using this
  · rintro ⟨h1, h2⟩
    apply Nat.eq_of_testBit_eq
    intro k
    rw [Nat.testBit_and, Nat.testBit_or, Nat.testBit_two_pow, Nat.testBit_two_pow]
    by_cases e1 : i = k
    · subst e1; simp [h1]
    · by_cases e2 : j = k
      · subst e2; simp [h2]
      · simp [e1, e2]

set_option maxHeartbeats 400000 in
theorem hasBoth_any (s i j : Nat) (w : World) (hs : s < 512) (hi : i < 9) (hj : j < 9) :
    Calls Try.prog 168 #[.int .u64 s, .int .u64 ((2^i ||| 2^j : Nat) : Int)] w fun e w' => e = .returned (.bool (s.testBit i && s.testBit j)) ∧ w = w' := by
  have ht : 2^i ||| 2^j < 512 := Nat.or_lt_two_pow (n := 9) (Nat.pow_lt_pow_right (by omega) hi) (Nat.pow_lt_pow_right (by omega) hj)
  have HP := Lib.hid (both_part s i j)
  generalize 2^i ||| 2^j = t at *
  have hb : bits BinOp.and IntKind.u64 (s : Int) (t : Int) = ((s &&& t : Nat) : Int) := u64_and_nat s t (by omega) (by omega)
  have HB := Lib.hid hb
  clear hb
  go_enter Try.func168, Try.ntmps168
  go_wp2
  go_ret
  refine ⟨ret_bool ?_, rfl⟩
  rw [HB.out, ← HP.out, Bool.eq_iff_iff]
  simp
  omega

set_option maxHeartbeats 1000000 in
theorem quaWins_any (q : Int) (b off n cap : Nat) (ws : List Int) (i j s : Nat) (w : World) (hn : n < 10) (hs : s < 512) (hi : i < 9) (hj : j < 9) (hok : InK 0 1000 ws n) (hsl : Sl w b off n ws) :
    Calls Try.prog 136 #[.agg #[.int .i64 q, .slice (some ⟨b, off, none⟩) n cap, .int .u64 ((2^i ||| 2^j : Nat) : Int)], .int .u64 s] w fun e w' => e = .returned (.bool (quaP (winB q ws n) i j s)) ∧ Below w.heap.size w w' := by
  have HOK := Lib.hid hok
  have HSL := Lib.hid hsl
  clear hok hsl
  have HP := Lib.hid (show quaP (winB q ws n) i j s = (decide (q ≤ wtK ws s n) && !(s.testBit i && s.testBit j)) from rfl)
  have HB := Lib.hid (fun W => hasBoth_any s i j W hs hi hj)
  obtain ⟨t, ht⟩ : ∃ t, t = 2^i ||| 2^j := ⟨_, rfl⟩
  rw [← ht] at HB ⊢
  clear ht
  have hx := Box3.new 79 w (.int .i64 q) (.slice (some ⟨b, off, none⟩) n cap) (.int .u64 t)
  have hb0 := below1 w (.cells #[.int .i64 q, .slice (some ⟨b, off, none⟩) n cap, .int .u64 t] 79)
  cases hd : decide (q ≤ wtK ws s n)
  · have HD := Lib.hid hd
    clear hd
    go_enter Try.func136, Try.ntmps136
    go_wp2_with fail
    refine (wins_any q b off n cap ws s _ hn hs HOK.out (HSL.out.now hb0)).mono ?_
    rintro e w1 ⟨rfl, hb⟩
    rw [HD.out]
    go_wp2
    go_ret
    exact ⟨by rw [HP.out, HD.out]; rfl, bfrom hb0 hb⟩
  · have HD := Lib.hid hd
    clear hd
    go_enter Try.func136, Try.ntmps136
    go_wp2_with fail
    refine (wins_any q b off n cap ws s _ hn hs HOK.out (HSL.out.now hb0)).mono ?_
    rintro e w1 ⟨rfl, hb⟩
    rw [HD.out]
    obtain ⟨c0, c1, c2⟩ := (hx.now hb).cells
    go_wp2_with (go_at_call 168; refine (HB.out _).mono ?_; rintro e w2 ⟨rfl, rfl⟩)
    go_ret
    exact ⟨by rw [HP.out, HD.out]; simp, bfrom hb0 hb⟩
theorem qua_asks (q : Int) (b off n cap : Nat) (ws : List Int) (i j : Nat) (w : World) (hn : n < 10) (hi : i < n) (hj : j < n) (hok : InK 0 1000 ws n) (hsl : Sl w b off n ws) :
    Asks (quaP (winB q ws n) i j) 136 #[.agg #[.int .i64 q, .slice (some ⟨b, off, none⟩) n cap, .int .u64 ((2^i ||| 2^j : Nat) : Int)]] #[] n w :=
  ⟨enters_of Try.func136 (by kernel_rfl) rfl, fun W s hs hb => quaWins_any q b off n cap ws i j s W hn (by have := pow_lt (n := n) (by omega); omega) (by omega) (by omega) hok (hsl.now hb)⟩

set_option maxHeartbeats 1000000 in
theorem quaSwings_any (q : Int) (b off n cap : Nat) (ws : List Int) (i j : Nat) (w : World) (hn : n < 10) (hi : i < n) (hj : j < n) (hok : InK 0 1000 ws n) (hsl : Sl w b off n ws) :
    Calls Try.prog 80 #[.agg #[.int .i64 q, .slice (some ⟨b, off, none⟩) n cap, .int .u64 ((2^i ||| 2^j : Nat) : Int)]] w fun e w' => IntsAt (perL (fun k => cnt (swP (quaP (winB q ws n) i j) k) (2^n)) n) w w' e := by
  have hx := Box3.new 79 w (.int .i64 q) (.slice (some ⟨b, off, none⟩) n cap) (.int .u64 ((2^i ||| 2^j : Nat) : Int))
  have hb0 := below1 w (.cells #[.int .i64 q, .slice (some ⟨b, off, none⟩) n cap, .int .u64 ((2^i ||| 2^j : Nat) : Int)] 79)
  have HSE := Lib.hid (fun W (hb : Below w.heap.size w W) => swingsOfEach_any (quaP (winB q ws n) i j) _ _ _ n W hn (qua_asks q b off n cap ws i j W hn hi hj hok (hsl.now hb)))
  simp only [IntsAt, perL_len] at HSE
  have HLE := Lib.hid (perL_len (fun k => cnt (swP (quaP (winB q ws n) i j) k) (2^n)) n)
  obtain ⟨t, ht⟩ : ∃ t, t = 2^i ||| 2^j := ⟨_, rfl⟩
  rw [← ht] at hx hb0 HSE ⊢
  clear ht hok hsl
  go_enter Try.func80, Try.ntmps80
  go_wp2_with fail
  go_region_held3 (fun w' => w'.cell? ⟨w.heap.size, 0, none⟩ = some (.int .i64 q) ∧ w'.cell? ⟨w.heap.size, 1, none⟩ = some (.slice (some ⟨b, off, none⟩) n cap) ∧ w'.cell? ⟨w.heap.size, 2, none⟩ = some (.int .u64 t))
    (first | exact hd | exact hd2 | exact hx.cells | go_keep)
    (first
      | (go_at_call 135; refine (members_any _ _ n cap _).mono ?_; rintro e w1 ⟨rfl, hb1⟩; have hd := (hx.drew.now hb1).cells)
      | (go_at_call 134; refine (HSE.out _ (bfrom hb0.drew hb1)).mono ?_; rintro e w2 ⟨B, cB, rfl, hown, hb2⟩; have HO := Lib.hid hown; clear hown; have hd2 := ((hx.drew.now hb1).now hb2).cells)
      | fail)
  all_goals
    have g1 := bfrom hb0.drew hb1
    have hz := g1.size
    go_wp2
    go_ret
    exact ⟨B, cB, by rw [HLE.out]; rfl, by rw [HLE.out]; exact owns_less HO.out hz, bfrom g1 hb2⟩

theorem or_pow0 (k : Nat) (hk : k < 10) : bits BinOp.or IntKind.u64 0 (IntKind.u64.wrap (2 ^ k)) = ((2 ^ k : Nat) : Int) := by
  have h := or_pow 0 k hk (by omega)
  rw [Nat.zero_or] at h
  exact h
set_option maxHeartbeats 400000 in
theorem with0_any (k : Nat) (w : World) (hk : k < 10) :
    Calls Try.prog 133 #[.int .u64 0, .int .i64 k] w fun e w' => e = .returned (.int .u64 ((2 ^ k : Nat) : Int)) ∧ w = w' := by
  go_enter Try.func133, Try.ntmps133
  go_wp2
  go_ret
  exact ⟨ret_int (or_pow0 k hk), rfl⟩
theorem frozen_box3 {t : TypeId} {w : World} {g : Nat} {a b c : Value} (h : Box3 t w g a b c) : w.frozen? ⟨g, 0, none⟩ = false ∧ w.frozen? ⟨g, 1, none⟩ = false ∧ w.frozen? ⟨g, 2, none⟩ = false := by
  unfold Box3 at h; exact ⟨by simp [World.frozen?, h], by simp [World.frozen?, h], by simp [World.frozen?, h]⟩

theorem Box3.put {t : TypeId} {w : World} {g : Nat} {x y z : Value} (h : Box3 t w g x y z) (a b c : Value) : Box3 t (((w.setCell ⟨g, 0, none⟩ a).setCell ⟨g, 1, none⟩ b).setCell ⟨g, 2, none⟩ c) g a b c := by
  unfold Box3 at *
  simp [World.setCell, Array.getElem?_modify, h]
theorem kept3 {t t' : TypeId} {w : World} {p g : Nat} {u v x y z a b c : Value} (hx : BoxT t w p u v) (hr : Box3 t' w g x y z) (hne : p ≠ g) :
    (((w.setCell ⟨g, 0, none⟩ a).setCell ⟨g, 1, none⟩ b).setCell ⟨g, 2, none⟩ c).cell? ⟨p, 0, none⟩ = some u ∧ (((w.setCell ⟨g, 0, none⟩ a).setCell ⟨g, 1, none⟩ b).setCell ⟨g, 2, none⟩ c).cell? ⟨p, 1, none⟩ = some v ∧
    ((((w.setCell ⟨g, 0, none⟩ a).setCell ⟨g, 1, none⟩ b).setCell ⟨g, 2, none⟩ c).cell? ⟨g, 0, none⟩).isSome = true ∧ ((((w.setCell ⟨g, 0, none⟩ a).setCell ⟨g, 1, none⟩ b).setCell ⟨g, 2, none⟩ c).cell? ⟨g, 1, none⟩).isSome = true ∧ ((((w.setCell ⟨g, 0, none⟩ a).setCell ⟨g, 1, none⟩ b).setCell ⟨g, 2, none⟩ c).cell? ⟨g, 2, none⟩).isSome = true ∧
    (((w.setCell ⟨g, 0, none⟩ a).setCell ⟨g, 1, none⟩ b).setCell ⟨g, 2, none⟩ c).frozen? ⟨g, 0, none⟩ = false ∧ (((w.setCell ⟨g, 0, none⟩ a).setCell ⟨g, 1, none⟩ b).setCell ⟨g, 2, none⟩ c).frozen? ⟨g, 1, none⟩ = false ∧ (((w.setCell ⟨g, 0, none⟩ a).setCell ⟨g, 1, none⟩ b).setCell ⟨g, 2, none⟩ c).frozen? ⟨g, 2, none⟩ = false := by
  have h1 := ((hx.far (p := ⟨g, 0, none⟩) hne a).far (p := ⟨g, 1, none⟩) hne b).far (p := ⟨g, 2, none⟩) hne c
  have h2 := hr.put a b c
  obtain ⟨a0, a1⟩ := h1.cells
  obtain ⟨b0, b1, b2⟩ := h2.cells
  obtain ⟨f0, f1, f2⟩ := frozen_box3 h2
  exact ⟨a0, a1, by rw [b0]; rfl, by rw [b1]; rfl, by rw [b2]; rfl, f0, f1, f2⟩
theorem kept3a {t t' : TypeId} {w : World} {p g : Nat} {u v x y z : Value} (hx : BoxT t w p u v) (hr : Box3 t' w g x y z) :
    w.cell? ⟨p, 0, none⟩ = some u ∧ w.cell? ⟨p, 1, none⟩ = some v ∧ (w.cell? ⟨g, 0, none⟩).isSome = true ∧ (w.cell? ⟨g, 1, none⟩).isSome = true ∧ (w.cell? ⟨g, 2, none⟩).isSome = true ∧
    w.frozen? ⟨g, 0, none⟩ = false ∧ w.frozen? ⟨g, 1, none⟩ = false ∧ w.frozen? ⟨g, 2, none⟩ = false := by
  obtain ⟨a0, a1⟩ := hx.cells
  obtain ⟨b0, b1, b2⟩ := hr.cells
  obtain ⟨f0, f1, f2⟩ := frozen_box3 hr
  exact ⟨a0, a1, by rw [b0]; rfl, by rw [b1]; rfl, by rw [b2]; rfl, f0, f1, f2⟩

set_option maxRecDepth 20000 in
set_option maxHeartbeats 600000 in
theorem readQuarrel_yes (q : Int) (A : Option Addr) (n cap : Nat) (ws : List Int) (i j : Nat) (w : World) (hm : n ≤ 9223372036854775807) (hk : Known w A n ws) (hok : pairOk q ws n i j = true) :
    Calls Try.prog 79 #[.agg #[.int .i64 q, .slice A n cap], .int .i64 i, .int .i64 j] w fun e w' => e = .returned (.tuple #[.agg #[.int .i64 q, .slice A n cap, .int .u64 ((2^i ||| 2^j : Nat) : Int)], .bool true]) ∧ Below w.heap.size w w' := by
  have HK := Lib.hid hk
  obtain ⟨hg, hi, hj, hne⟩ := pairOk_parts hok
  have hn9 := hg.hi
  have HM1 := Lib.hid (show memOk q ws n i = true from by unfold pairOk at hok; simp at hok; exact hok.1.1)
  have HM2 := Lib.hid (show memOk q ws n j = true from by unfold pairOk at hok; simp at hok; exact hok.1.2)
  have hne' : ((i : Int) == (j : Int)) = false := by simp; omega
  have hi9 : i < 9 := by omega
  have hj9 : j < 9 := by omega
  have HW1 := Lib.hid (fun W => with0_any i W (by omega))
  have HW2 := Lib.hid (fun W => with_any (2^i) j W (by omega) (Nat.pow_lt_pow_right (n := 9) (by omega) hi9))
  clear hk hok hg
  have hb0 : Below w.heap.size w ((w.alloc (.cells #[.int .i64 q, .slice A n cap] 29)).alloc (.cells #[.int .i64 0, .slice none 0 0, .int .u64 0] 79)) := (below1 w _).alloc (by simp) _
  have hx := (Box.new w (.int .i64 q) (.slice A n cap)).alloc (.cells #[.int .i64 0, .slice none 0 0, .int .u64 0] 79)
  have hr := Box3.new 79 (w.alloc (.cells #[.int .i64 q, .slice A n cap] 29)) (.int .i64 0) (.slice none 0 0) (.int .u64 0)
  simp only [World.size_alloc] at hr
  generalize 2^i = x at *
  generalize x ||| 2^j = y at *
  go_enter Try.func79, Try.ntmps79
  go_wp2_with fail
  refine (hasMember_any q A n cap ws i _ hm (HK.out.now hb0)).mono ?_
  rintro e w1 ⟨rfl, hb1⟩
  rw [HM1.out]
  have g1 := bfrom hb0 hb1
  have hx1 := hx.now hb1
  have hr1 := hr.now hb1
  clear hx hr hb0 hb1
  obtain ⟨c0, c1⟩ := hx1.cells
  go_wp2_with fail
  refine (hasMember_any q A n cap ws j _ hm (HK.out.now g1)).mono ?_
  rintro e w2 ⟨rfl, hb2⟩
  rw [HM2.out]
  have g2 := bfrom g1 hb2
  have hx2 := hx1.now hb2
  have hr2 := hr1.now hb2
  clear hx1 hr1 g1 hb2 c0 c1
  obtain ⟨c0, c1⟩ := hx2.cells
  obtain ⟨d0, d1, d2⟩ := hr2.cells
  obtain ⟨f0, f1, f2⟩ := frozen_box3 hr2
  go_wp2_with fail
  go_region_with (first
        | (go_at_call 133; with_reducible refine (HW1.out _).mono ?_; rintro e w3 ⟨rfl, rfl⟩)
        | (go_at_call 133; with_reducible refine (HW2.out _).mono ?_; rintro e w4 ⟨rfl, rfl⟩))
  all_goals
    have hr3 := (hr2.put (.int .i64 q) (.slice A n cap) (.int .u64 y)).drew
    obtain ⟨e0, e1, e2⟩ := hr3.cells
    have g3 := (((g2.setCell (p := ⟨w.heap.size + 1, 0, none⟩) (Nat.le_succ _) (.int .i64 q)).setCell (p := ⟨w.heap.size + 1, 1, none⟩) (Nat.le_succ _) (.slice A n cap)).setCell (p := ⟨w.heap.size + 1, 2, none⟩) (Nat.le_succ _) (.int .u64 y)).drew
    go_wp2
    refine bodyPost_ret (v := .tuple #[.agg #[.int .i64 q, .slice A n cap, .int .u64 y], .bool true]) (by simp [results, Try.results79, go_sem, e0, e1, e2]) rfl ⟨rfl, ?_⟩
    exact g3

set_option maxRecDepth 20000 in
set_option maxHeartbeats 2000000 in
theorem readQuarrel_no (q : Int) (A : Option Addr) (n cap : Nat) (ws : List Int) (x y : Int) (w : World) (hm : n ≤ 9223372036854775807) (hk : Known w A n ws) (hok : pairOk q ws n x y = false) :
    Calls Try.prog 79 #[.agg #[.int .i64 q, .slice A n cap], .int .i64 x, .int .i64 y] w fun e w' => e = .returned (.tuple #[.agg #[.int .i64 0, .slice none 0 0, .int .u64 0], .bool false]) ∧ Below w.heap.size w w' := by
  have HK := Lib.hid hk
  clear hk
  have hb0 : Below w.heap.size w ((w.alloc (.cells #[.int .i64 q, .slice A n cap] 29)).alloc (.cells #[.int .i64 0, .slice none 0 0, .int .u64 0] 79)) := (below1 w _).alloc (by simp) _
  have hx := (Box.new w (.int .i64 q) (.slice A n cap)).alloc (.cells #[.int .i64 0, .slice none 0 0, .int .u64 0] 79)
  have hr := Box3.new 79 (w.alloc (.cells #[.int .i64 q, .slice A n cap] 29)) (.int .i64 0) (.slice none 0 0) (.int .u64 0)
  simp only [World.size_alloc] at hr
  cases h1 : memOk q ws n x with
  | false =>
    have HM1 := Lib.hid h1
    clear h1 hok
    go_enter Try.func79, Try.ntmps79
    go_wp2_with fail
    refine (hasMember_any q A n cap ws x _ hm (HK.out.now hb0)).mono ?_
    rintro e w1 ⟨rfl, hb1⟩
    rw [HM1.out]
    have g1 := bfrom hb0 hb1
    have hr1 := hr.now hb1
    obtain ⟨d0, d1, d2⟩ := hr1.cells
    obtain ⟨f0, f1, f2⟩ := frozen_box3 hr1
    clear hr hb0 hb1 hx
    go_wp2
    have hr3 := hr1.put (.int .i64 0) (.slice none 0 0) (.int .u64 0)
    obtain ⟨e0, e1, e2⟩ := hr3.cells
    refine bodyPost_ret (v := .tuple #[.agg #[.int .i64 0, .slice none 0 0, .int .u64 0], .bool false]) (by simp [results, Try.results79, go_sem, e0, e1, e2]) rfl ⟨rfl, ?_⟩
    exact ((g1.setCell (by simp) _).setCell (by simp) _).setCell (by simp) _
  | true =>
    cases h2 : memOk q ws n y with
    | false =>
      have HM1 := Lib.hid h1
      have HM2 := Lib.hid h2
      clear h1 h2 hok
      go_enter Try.func79, Try.ntmps79
      go_wp2_with fail
      refine (hasMember_any q A n cap ws x _ hm (HK.out.now hb0)).mono ?_
      rintro e w1 ⟨rfl, hb1⟩
      rw [HM1.out]
      have g1 := bfrom hb0 hb1
      obtain ⟨c0, c1⟩ := (hx.now hb1).cells
      go_wp2_with fail
      refine (hasMember_any q A n cap ws y _ hm (HK.out.now g1)).mono ?_
      rintro e w2 ⟨rfl, hb2⟩
      rw [HM2.out]
      have g2 := bfrom g1 hb2
      have hr1 := (hr.now hb1).now hb2
      obtain ⟨d0, d1, d2⟩ := hr1.cells
      obtain ⟨f0, f1, f2⟩ := frozen_box3 hr1
      clear hr hb0 hb1 hx c0 c1 g1
      go_wp2
      have hr3 := hr1.put (.int .i64 0) (.slice none 0 0) (.int .u64 0)
      obtain ⟨e0, e1, e2⟩ := hr3.cells
      refine bodyPost_ret (v := .tuple #[.agg #[.int .i64 0, .slice none 0 0, .int .u64 0], .bool false]) (by simp [results, Try.results79, go_sem, e0, e1, e2]) rfl ⟨rfl, ?_⟩
      exact ((g2.setCell (by simp) _).setCell (by simp) _).setCell (by simp) _
    | true =>
      have hxy : x = y := by unfold pairOk at hok; rw [h1, h2] at hok; simpa using hok
      subst hxy
      have HM1 := Lib.hid h1
      clear h1 h2 hok
      go_enter Try.func79, Try.ntmps79
      go_wp2_with fail
      refine (hasMember_any q A n cap ws x _ hm (HK.out.now hb0)).mono ?_
      rintro e w1 ⟨rfl, hb1⟩
      rw [HM1.out]
      have g1 := bfrom hb0 hb1
      obtain ⟨c0, c1⟩ := (hx.now hb1).cells
      go_wp2_with fail
      refine (hasMember_any q A n cap ws x _ hm (HK.out.now g1)).mono ?_
      rintro e w2 ⟨rfl, hb2⟩
      rw [HM1.out]
      have g2 := bfrom g1 hb2
      have hr1 := (hr.now hb1).now hb2
      obtain ⟨d0, d1, d2⟩ := hr1.cells
      obtain ⟨f0, f1, f2⟩ := frozen_box3 hr1
      clear hr hb0 hb1 hx c0 c1 g1
      go_wp2
      have hr3 := hr1.put (.int .i64 0) (.slice none 0 0) (.int .u64 0)
      obtain ⟨e0, e1, e2⟩ := hr3.cells
      refine bodyPost_ret (v := .tuple #[.agg #[.int .i64 0, .slice none 0 0, .int .u64 0], .bool false]) (by simp [results, Try.results79, go_sem, e0, e1, e2]) rfl ⟨rfl, ?_⟩
      exact ((g2.setCell (by simp) _).setCell (by simp) _).setCell (by simp) _
end Go.Proofs.Ytlnlkfldlgchhab
