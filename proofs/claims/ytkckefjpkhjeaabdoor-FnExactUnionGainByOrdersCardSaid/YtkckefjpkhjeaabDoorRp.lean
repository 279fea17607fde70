/- Contracts of UnionGain, the program's and the model's. For the seats of tied cards. -/
import Derived.Test.YtkckefjpkhjeaabDoorRm
import Derived.Test.YtkckefjpkhjeaabDoorPu
import Derived.Deep.RegionHeld3
import Derived.Outline
namespace Go.Proofs.YtkckefjpkhjeaabDoor
open Go.RowKit Vo

def ugV (q : Int) (ws : List Int) (n : Nat) (xs : List Int) (m : Nat) : Int := if uniB q ws n xs m then gainV q ws n (okS q ws n xs m) q (uniL ws n (okS q ws n xs m)) (uniL ws n (okS q ws n xs m)).length (2^firstN (okS q ws n xs m)) else 0
theorem uni_good {q : Int} {ws : List Int} {n : Nat} {xs : List Int} {m : Nat} (h : uniB q ws n xs m = true) :
    okB q ws n xs m = true ∧ 1 ≤ m ∧ Vo.Good q ws n ∧ RiseK n xs m ∧ okS q ws n xs m = ofK xs m ∧ Vo.Good q (uniL ws n (ofK xs m)) (uniL ws n (ofK xs m)).length ∧ 0 < ofK xs m ∧ ofK xs m < 512 ∧ firstN (ofK xs m) < 9 := by
  have hB : okB q ws n xs m = true := by
    cases h' : okB q ws n xs m with
    | true => rfl
    | false => rw [uniB_no1 h'] at h; cases h
  have hm1 : 1 ≤ m := by
    rcases Nat.eq_zero_or_pos m with e | e
    · rw [e, uniB_none] at h; cases h
    · exact e
  obtain ⟨hg, hr, hS, hU⟩ := uniB_all hB hm1
  rw [h] at hU
  have h5 : ofK xs m < 512 := by have := ofK_lt hr; have := pow_lt hg.hi; omega
  have h0 := (set_first hg.hi hr hm1).1
  exact ⟨hB, hm1, hg, hr, hS, of_decide_eq_true hU, h0, h5, (first_in h0 h5).1⟩

set_option maxHeartbeats 2000000 in
theorem unionGain_ans (q : Int) (A : Option Addr) (n cap : Nat) (ws : List Int) (b2 off2 m cap2 : Nat) (xs : List Int) (w : World) (hm : n ≤ 9223372036854775807) (hk : Known w A n ws) (hm2 : m ≤ 9223372036854775807) (hs : Sl w b2 off2 m xs) (hT : Tab w) (hcap : n = cap := by exact rfl) :
    Calls Tryd.prog 18 #[.agg #[.int .i64 q, .slice A n cap], .slice (some ⟨b2, off2, none⟩) m cap2] w fun e w' => e = .returned (.tuple #[.int .i64 (ugV q ws n xs m), .bool (uniB q ws n xs m)]) ∧ Below w.heap.size w w' := by
  subst hcap
  have hx := Box.new w (.int .i64 q) (.slice A n n)
  have hb0 := below1 w (.cells #[.int .i64 q, .slice A n n] 26)
  obtain ⟨c0, c1⟩ := hx.cells
  have HU := Lib.hid (unionGain_any 31 (gainV q ws n (okS q ws n xs m) q (uniL ws n (okS q ws n xs m)) (uniL ws n (okS q ws n xs m)).length (2^firstN (okS q ws n xs m))) q A n ws b2 off2 m cap2 xs _ hm (hk.now hb0) hm2 (hs.now hb0) (hT.now hb0)
    (fun h A' cp' W hb hk' => by
      obtain ⟨_, _, hg, _, hS, hg', h0, h5, hf⟩ := uni_good h
      rw [hS] at hk' ⊢
      exact gainSwings_any q q A A' n n _ cp' _ _ ws _ W hg hg' h5 (Nat.pow_lt_pow_right (n := 9) (by omega) hf) ((hk.now hb0).now hb) hk'))
  have HV := Lib.hid (show ugV q ws n xs m = (if uniB q ws n xs m then gainV q ws n (okS q ws n xs m) q (uniL ws n (okS q ws n xs m)) (uniL ws n (okS q ws n xs m)).length (2^firstN (okS q ws n xs m)) else 0) from rfl)
  rw [← HV.out] at HU
  clear HV
  go_enter Tryd.func18, Tryd.ntmps18
  go_wp2_with fail
  refine HU.out.mono ?_
  rintro e w1 ⟨rfl, hb1⟩
  go_wp2
  go_ret2
  exact ⟨rfl, bfrom hb0 hb1⟩

theorem rise_len {n : Nat} {xs : List Int} {m : Nat} (h : RiseK n xs m) : m ≤ n := by
  have H : ∀ k, k < m → (k : Int) ≤ xs.getD k 0 := by
    intro k
    induction k with
    | zero => intro hk; exact (h 0 hk).1
    | succ k ih =>
      intro hk
      have h1 := ih (by omega)
      have h2 := (h (k+1) hk).2.2 (by omega)
      rw [Nat.add_sub_cancel] at h2
      omega
  rcases Nat.eq_zero_or_pos m with e | e
  · omega
  · have h1 := H (m-1) (by omega)
    have h2 := (h (m-1) (by omega)).2.1
    omega
/-- The first member of a list, alone. -/
theorem sl_head {w : World} {b off m : Nat} {xs : List Int} (h : Sl w b off m xs) (hm : 1 ≤ m) : Sl w b off 1 xs := ⟨h.lt, fun j hj => h.cell j (by omega)⟩
theorem setN_head (f : Nat → Nat) (xs : List Int) : setN f xs 1 = f (xs.getD 0 0).toNat := by simp [setN, sumN]
theorem rise_lt {n : Int} {xs : List Int} {m : Nat} (h : RiseK n xs m) : ∀ k, k < m → ∀ j, j < k → xs.getD j 0 < xs.getD k 0 := by
  intro k
  induction k with
  | zero => intro _ j hj; omega
  | succ k ih =>
    intro hk j hj
    have h2 := (h (k+1) hk).2.2 (by omega)
    rw [Nat.add_sub_cancel] at h2
    by_cases e : j = k
    · subst e; exact h2
    · have := ih (by omega) j (by omega); omega
theorem partN_or (f : Nat → Nat) {s x n : Nat} (hx : x < n) (hb : s.testBit x = false) : partN f (s ||| 2^x) n = partN f s n + f x := by
  have hbit : ∀ j, (s ||| 2^x).testBit j = (s.testBit j || decide (x = j)) := fun j => by rw [Nat.testBit_or, Nat.testBit_two_pow]
  unfold partN
  induction n with
  | zero => omega
  | succ n ih =>
    simp only [sumN]
    by_cases e : x = n
    · subst e
      rw [sumN_congr (f := fun j => if (s ||| 2^x).testBit j then f j else 0) (g := fun j => if s.testBit j then f j else 0) (fun j hj => by simp only [hbit]; rw [decide_eq_false (show ¬ x = j by omega), Bool.or_false])]
      rw [hbit, hb]; simp
    · rw [ih (by omega), hbit n, decide_eq_false e, Bool.or_false]; omega
theorem partN_none (f : Nat → Nat) (n : Nat) : partN f 0 n = 0 := by
  unfold partN
  induction n with
  | zero => rfl
  | succ n ih => simp only [sumN]; rw [ih, Nat.zero_testBit]; rfl
theorem partN_single (f : Nat → Nat) {k n : Nat} (h : k < n) : partN f (2^k) n = f k := by
  have := partN_or f (s := 0) h (Nat.zero_testBit _)
  rwa [Nat.zero_or, partN_none, Nat.zero_add] at this
theorem setN_part (f : Nat → Nat) {n : Nat} {xs : List Int} {m : Nat} (h : RiseK n xs m) : setN f xs m = partN f (ofK xs m) n := by
  induction m with
  | zero => rw [show ofK xs 0 = 0 from rfl, partN_none]; rfl
  | succ m ih =>
    have h' := h.mono (show m ≤ m + 1 by omega)
    have hm := h m (by omega)
    obtain ⟨x, hx⟩ : ∃ x : Nat, xs.getD m 0 = (x : Int) := ⟨(xs.getD m 0).toNat, by omega⟩
    have hb : (ofK xs m).testBit x = false := by
      cases e : (ofK xs m).testBit x with
      | false => rfl
      | true =>
        rw [ofU_has (rise_in h'), hasU_iff] at e
        obtain ⟨k, hk, e⟩ := e
        have := rise_lt h m (by omega) k hk
        omega
    rw [show setN f xs (m+1) = setN f xs m + f (xs.getD m 0).toNat from rfl, ih h', show ofK xs (m+1) = ofK xs m ||| 2 ^ (xs.getD m 0).toNat from rfl, hx, Int.toNat_natCast, partN_or f (by omega) hb]
theorem mrgL_mono (ws : List Int) (s f : Nat) (W : Int) (i d : Nat) : (mrgL ws s f W i).length ≤ (mrgL ws s f W (i + d)).length := by
  induction d with
  | zero => exact Nat.le_refl _
  | succ d ih =>
    rw [show i + (d + 1) = (i + d) + 1 from rfl, mrgL_step, List.length_append]
    omega
theorem first_place {ws : List Int} {s n : Nat} (h0 : 0 < s) (h5 : s < 512) (hn : firstN s < n) : firstN s < (uniL ws n s).length := by
  have h1 : (mrgL ws s (firstN s) (wtK ws s n) (firstN s + 1)).length = firstN s + 1 := by
    rw [mrgL_at, mrgL_head h0 h5 (Nat.le_refl _)]; simp
  have h2 := mrgL_mono ws s (firstN s) (wtK ws s n) (firstN s + 1) (n - (firstN s + 1))
  rw [show firstN s + 1 + (n - (firstN s + 1)) = n by omega, h1] at h2
  exact h2

set_option maxRecDepth 20000 in
set_option maxHeartbeats 4000000 in
theorem sUnionGain_any (q : Int) (A : Option Addr) (n cap : Nat) (ws : List Int) (b2 off2 m cap2 : Nat) (xs : List Int) (w : World) (hm : n ≤ 9223372036854775807) (hk : Known w A n ws) (hm2 : m ≤ 9223372036854775807) (hs : Sl w b2 off2 m xs) (hcap : n = cap := by exact rfl) (hcap2 : m = cap2 := by exact rfl) :
    Calls Tryd.prog 17 #[.agg #[.int .i64 q, .slice A n cap], .slice (some ⟨b2, off2, none⟩) m cap2] w fun e w' => e = .returned (.tuple #[.int .i64 (ugV q ws n xs m), .bool (uniB q ws n xs m)]) ∧ Below w.heap.size w w' := by
  subst hcap hcap2
  have hx := Box.new w (.int .i64 q) (.slice A n n)
  have hb0 := below1 w (.cells #[.int .i64 q, .slice A n n] 26)
  obtain ⟨c0, c1⟩ := hx.cells
  have HUS := Lib.hid (unSet_any q A n ws b2 off2 m m xs _ hm (hk.now hb0) hm2 (hs.now hb0))
  have HK := Lib.hid hk
  have HS := Lib.hid hs
  clear hk hs
  cases hU : uniB q ws n xs m with
  | false =>
    have HU := Lib.hid hU
    have HV := Lib.hid (show ugV q ws n xs m = 0 from by unfold ugV; rw [hU]; rfl)
    clear hU
    rw [HV.out]
    go_enter Tryd.func17, Tryd.ntmps17
    go_wp2_with fail
    refine HUS.out.mono ?_
    rintro e w1 ⟨rfl, hb1⟩
    rw [HU.out]
    go_wp2
    go_ret2
    exact ⟨rfl, bfrom hb0 hb1⟩
  | true =>
    have HU := Lib.hid hU
    obtain ⟨hB, hm1, hg, hr, hS, hg', h0, h5, hf⟩ := uni_good hU
    have hn9 := hg.hi
    have hm9 : m ≤ 9 := by
      have := rise_len hr
      omega
    obtain ⟨b, off, rfl, hsl⟩ := HK.out.get hg.lo
    have HSL := Lib.hid hsl
    have hfst := (set_first hn9 hr hm1).2
    have hfp := first_place (ws := ws) (n := n) h0 h5 (first_lt h0 hn9 (ofK_lt hr))
    have HSW1 := Lib.hid (fun W (hb : Below w.heap.size w W) => unSwings_any q (some ⟨b, off, none⟩) n n ws b2 off2 m m xs W hg (HK.out.now hb) hm9 (HS.out.now hb) (fun j hj => ⟨(hr j hj).1, (hr j hj).2.1⟩))
    have HUM := Lib.hid (fun W (hb : Below w.heap.size w W) => unMerge_any q b off n b2 off2 m m ws xs W hg hr hm1 hm2 (HSL.out.now hb) (HS.out.now hb))
    have HSW2 := Lib.hid (fun g cp W (hb : Below w.heap.size w W) (h : Ints W g (uniL ws n (ofK xs m)).length (uniL ws n (ofK xs m))) => unSwings_any q (some ⟨g, 0, none⟩) (uniL ws n (ofK xs m)).length cp (uniL ws n (ofK xs m)) b2 off2 1 m xs W hg' (Known.of (Ints.sl h)) (by omega) (sl_head (HS.out.now hb) hm1) (fun j hj => by
      have e : j = 0 := by omega
      subst e; rw [hfst]; omega))
    have hp1 := part_swings hg h5
    have hp2 := part_swings hg' (Nat.pow_lt_pow_right (a := 2) (n := 9) (by omega) hf)
    have hv : ugV q ws n xs m = sgn ((setN (swingN q (uniL ws n (ofK xs m)) (uniL ws n (ofK xs m)).length) xs 1 : Nat) * (swS q ws n : Nat) - (setN (swingN q ws n) xs m : Nat) * (swS q (uniL ws n (ofK xs m)) (uniL ws n (ofK xs m)).length : Nat) : Int) := by
      unfold ugV
      rw [if_pos hU, hS]
      unfold gainV
      rw [setN_part _ hr, setN_head, hfst, Int.toNat_natCast, partN_single _ hfp]
    rw [hv]
    have ha1 : setN (swingN q ws n) xs m ≤ 1000000 := by rw [setN_part _ hr]; have := hp1.le; have := hp1.few; omega
    have hb1' : swS q ws n ≤ 1000000 := hp1.few
    have ha2 : setN (swingN q (uniL ws n (ofK xs m)) (uniL ws n (ofK xs m)).length) xs 1 ≤ 1000000 := by
      rw [setN_head, hfst, Int.toNat_natCast, ← partN_single (swingN q (uniL ws n (ofK xs m)) (uniL ws n (ofK xs m)).length) hfp]
      have := hp2.le; have := hp2.few; omega
    have hb2' : swS q (uniL ws n (ofK xs m)) (uniL ws n (ofK xs m)).length ≤ 1000000 := hp2.few
    simp only [ComV] at HUM
    clear hv hp1 hp2 hU hB hS hr hg hg' h0 h5 hf hfst hfp hsl
    generalize setN (swingN q ws n) xs m = va at *
    generalize swS q ws n = vb at *
    generalize setN (swingN q (uniL ws n (ofK xs m)) (uniL ws n (ofK xs m)).length) xs 1 = vc at *
    generalize swS q (uniL ws n (ofK xs m)) (uniL ws n (ofK xs m)).length = vd at *
    generalize uniL ws n (ofK xs m) = L at *
    obtain ⟨mm, hmm⟩ : ∃ z, z = L.length := ⟨_, rfl⟩
    simp only [← hmm] at HUM HSW2
    clear hmm
    have HUG := Lib.hid (fun W => unGain_any va vb vc vd W ha1 hb1' ha2 hb2')
    have hm1i : (1 : Int) ≤ (m : Int) := by omega
    go_enter Tryd.func17, Tryd.ntmps17
    go_wp2_with fail
    refine HUS.out.mono ?_
    rintro e w1 ⟨rfl, hb1⟩
    rw [HU.out]
    have g1 := bfrom hb0 hb1
    have hx1 := hx.now hb1
    obtain ⟨d0, d1⟩ := hx1.cells
    clear hx c0 c1 hb0 hb1
    go_wp2_with (first
      | (go_at_call 28; refine (HSW1.out _ g1).mono ?_; rintro e w2 ⟨rfl, hb2⟩)
      | fail)
    have g2 := bfrom g1 hb2
    have hx2 := hx1.now hb2
    obtain ⟨k0, k1⟩ := hx2.cells
    have K := Lib.hid (show ∀ W, Below w2.heap.size w2 W → W.cell? ⟨w.heap.size, 0, none⟩ = some (.int .i64 q) ∧ W.cell? ⟨w.heap.size, 1, none⟩ = some (.slice (some ⟨b, off, none⟩) n n) from fun W hb => (hx2.now hb).cells)
    go_region_held3 (fun w' => w'.cell? ⟨w.heap.size, 0, none⟩ = some (.int .i64 q) ∧ w'.cell? ⟨w.heap.size, 1, none⟩ = some (.slice (some ⟨b, off, none⟩) n n))
      (first | exact ⟨k0, k1⟩ | exact ⟨l0, l1⟩ | exact ⟨l2, l3⟩ | go_keep)
      (first
        | (go_at_call 26; refine (HUM.out _ (bfrom g2 (Below.refl _ _).drew)).mono ?_; rintro e w3 ⟨g, cp, rfl, hgl, hI, hb3⟩; have HI := Lib.hid hI; clear hI; have b3 := bfrom (Below.refl _ w2).drew hb3; obtain ⟨l0, l1⟩ := K.out _ b3)
        | (go_at_call 28; refine (HSW2.out g cp _ (bfrom g2 b3) HI.out).mono ?_; rintro e w4 ⟨rfl, hb4⟩; have b4 := bfrom b3 hb4; obtain ⟨l2, l3⟩ := K.out _ b4)
        | fail)
    all_goals
      go_wp2_with (first
        | (go_at_call 29; refine (HUG.out _).mono ?_; rintro e w5 ⟨rfl, rfl⟩)
        | fail)
      go_ret2
      exact ⟨rfl, bfrom g2 b4⟩

/- The same by OrderPowers. -/
def ugP (q : Int) (ws : List Int) (n : Nat) (xs : List Int) (m : Nat) : Int := if uniB q ws n xs m then gainP q ws n (okS q ws n xs m) q (uniL ws n (okS q ws n xs m)) (uniL ws n (okS q ws n xs m)).length (2^firstN (okS q ws n xs m)) else 0
set_option maxHeartbeats 2000000 in
theorem unionGainByOrders_ans (q : Int) (A : Option Addr) (n cap : Nat) (ws : List Int) (b2 off2 m cap2 : Nat) (xs : List Int) (w : World) (hm : n ≤ 9223372036854775807) (hk : Known w A n ws) (hm2 : m ≤ 9223372036854775807) (hs : Sl w b2 off2 m xs) (hT : Tab w) (hcap : n = cap := by exact rfl) :
    Calls Tryd.prog 20 #[.agg #[.int .i64 q, .slice A n cap], .slice (some ⟨b2, off2, none⟩) m cap2] w fun e w' => e = .returned (.tuple #[.int .i64 (ugP q ws n xs m), .bool (uniB q ws n xs m)]) ∧ Below w.heap.size w w' := by
  subst hcap
  have hx := Box.new w (.int .i64 q) (.slice A n n)
  have hb0 := below1 w (.cells #[.int .i64 q, .slice A n n] 26)
  obtain ⟨c0, c1⟩ := hx.cells
  have HU := Lib.hid (unionGain_any 33 (gainP q ws n (okS q ws n xs m) q (uniL ws n (okS q ws n xs m)) (uniL ws n (okS q ws n xs m)).length (2^firstN (okS q ws n xs m))) q A n ws b2 off2 m cap2 xs _ hm (hk.now hb0) hm2 (hs.now hb0) (hT.now hb0)
    (fun h A' cp' W hb hk' => by
      obtain ⟨_, _, hg, _, hS, hg', h0, h5, hf⟩ := uni_good h
      rw [hS] at hk' ⊢
      exact gainPivots_any q q A A' n n _ cp' _ _ ws _ W hg hg' h5 (Nat.pow_lt_pow_right (n := 9) (by omega) hf) ((hk.now hb0).now hb) hk'))
  have HV := Lib.hid (show ugP q ws n xs m = (if uniB q ws n xs m then gainP q ws n (okS q ws n xs m) q (uniL ws n (okS q ws n xs m)) (uniL ws n (okS q ws n xs m)).length (2^firstN (okS q ws n xs m)) else 0) from rfl)
  rw [← HV.out] at HU
  clear HV
  go_enter Tryd.func20, Tryd.ntmps20
  go_wp2_with fail
  refine HU.out.mono ?_
  rintro e w1 ⟨rfl, hb1⟩
  go_wp2
  go_ret2
  exact ⟨rfl, bfrom hb0 hb1⟩

set_option maxRecDepth 20000 in
set_option maxHeartbeats 4000000 in
theorem sUnionGainByOrders_any (q : Int) (A : Option Addr) (n cap : Nat) (ws : List Int) (b2 off2 m cap2 : Nat) (xs : List Int) (w : World) (hm : n ≤ 9223372036854775807) (hk : Known w A n ws) (hm2 : m ≤ 9223372036854775807) (hs : Sl w b2 off2 m xs) (hcap : n = cap := by exact rfl) (hcap2 : m = cap2 := by exact rfl) :
    Calls Tryd.prog 19 #[.agg #[.int .i64 q, .slice A n cap], .slice (some ⟨b2, off2, none⟩) m cap2] w fun e w' => e = .returned (.tuple #[.int .i64 (ugP q ws n xs m), .bool (uniB q ws n xs m)]) ∧ Below w.heap.size w w' := by
  subst hcap hcap2
  have hx := Box.new w (.int .i64 q) (.slice A n n)
  have hb0 := below1 w (.cells #[.int .i64 q, .slice A n n] 26)
  obtain ⟨c0, c1⟩ := hx.cells
  have HUS := Lib.hid (unSet_any q A n ws b2 off2 m m xs _ hm (hk.now hb0) hm2 (hs.now hb0))
  have HK := Lib.hid hk
  have HS := Lib.hid hs
  clear hk hs
  cases hU : uniB q ws n xs m with
  | false =>
    have HU := Lib.hid hU
    have HV := Lib.hid (show ugP q ws n xs m = 0 from by unfold ugP; rw [hU]; rfl)
    clear hU
    rw [HV.out]
    go_enter Tryd.func19, Tryd.ntmps19
    go_wp2_with fail
    refine HUS.out.mono ?_
    rintro e w1 ⟨rfl, hb1⟩
    rw [HU.out]
    go_wp2
    go_ret2
    exact ⟨rfl, bfrom hb0 hb1⟩
  | true =>
    have HU := Lib.hid hU
    obtain ⟨hB, hm1, hg, hr, hS, hg', h0, h5, hf⟩ := uni_good hU
    have hn9 := hg.hi
    have hm9 : m ≤ 9 := by
      have := rise_len hr
      omega
    obtain ⟨b, off, rfl, hsl⟩ := HK.out.get hg.lo
    have HSL := Lib.hid hsl
    have hfst := (set_first hn9 hr hm1).2
    have hfp := first_place (ws := ws) (n := n) h0 h5 (first_lt h0 hn9 (ofK_lt hr))
    have HSW1 := Lib.hid (fun W (hb : Below w.heap.size w W) => unPivots_any q (some ⟨b, off, none⟩) n n ws b2 off2 m m xs W hg (HK.out.now hb) hm9 (HS.out.now hb) (fun j hj => ⟨(hr j hj).1, (hr j hj).2.1⟩))
    have HUM := Lib.hid (fun W (hb : Below w.heap.size w W) => unMerge_any q b off n b2 off2 m m ws xs W hg hr hm1 hm2 (HSL.out.now hb) (HS.out.now hb))
    have HSW2 := Lib.hid (fun g cp W (hb : Below w.heap.size w W) (h : Ints W g (uniL ws n (ofK xs m)).length (uniL ws n (ofK xs m))) => unPivots_any q (some ⟨g, 0, none⟩) (uniL ws n (ofK xs m)).length cp (uniL ws n (ofK xs m)) b2 off2 1 m xs W hg' (Known.of (Ints.sl h)) (by omega) (sl_head (HS.out.now hb) hm1) (fun j hj => by
      have e : j = 0 := by omega
      subst e; rw [hfst]; omega))
    have hp1 := part_pivots hg h5
    have hp2 := part_pivots hg' (Nat.pow_lt_pow_right (a := 2) (n := 9) (by omega) hf)
    have hv : ugP q ws n xs m = sgn ((setN (pivotN q (uniL ws n (ofK xs m)) (uniL ws n (ofK xs m)).length) xs 1 : Nat) * (pivS q ws n : Nat) - (setN (pivotN q ws n) xs m : Nat) * (pivS q (uniL ws n (ofK xs m)) (uniL ws n (ofK xs m)).length : Nat) : Int) := by
      unfold ugP
      rw [if_pos hU, hS]
      unfold gainP
      rw [setN_part _ hr, setN_head, hfst, Int.toNat_natCast, partN_single _ hfp]
    rw [hv]
    have ha1 : setN (pivotN q ws n) xs m ≤ 1000000 := by rw [setN_part _ hr]; have := hp1.le; have := hp1.few; omega
    have hb1' : pivS q ws n ≤ 1000000 := hp1.few
    have ha2 : setN (pivotN q (uniL ws n (ofK xs m)) (uniL ws n (ofK xs m)).length) xs 1 ≤ 1000000 := by
      rw [setN_head, hfst, Int.toNat_natCast, ← partN_single (pivotN q (uniL ws n (ofK xs m)) (uniL ws n (ofK xs m)).length) hfp]
      have := hp2.le; have := hp2.few; omega
    have hb2' : pivS q (uniL ws n (ofK xs m)) (uniL ws n (ofK xs m)).length ≤ 1000000 := hp2.few
    simp only [ComV] at HUM
    clear hv hp1 hp2 hU hB hS hr hg hg' h0 h5 hf hfst hfp hsl
    generalize setN (pivotN q ws n) xs m = va at *
    generalize pivS q ws n = vb at *
    generalize setN (pivotN q (uniL ws n (ofK xs m)) (uniL ws n (ofK xs m)).length) xs 1 = vc at *
    generalize pivS q (uniL ws n (ofK xs m)) (uniL ws n (ofK xs m)).length = vd at *
    generalize uniL ws n (ofK xs m) = L at *
    obtain ⟨mm, hmm⟩ : ∃ z, z = L.length := ⟨_, rfl⟩
    simp only [← hmm] at HUM HSW2
    clear hmm
    have HUG := Lib.hid (fun W => unGain_any va vb vc vd W ha1 hb1' ha2 hb2')
    have hm1i : (1 : Int) ≤ (m : Int) := by omega
    go_enter Tryd.func19, Tryd.ntmps19
    go_wp2_with fail
    refine HUS.out.mono ?_
    rintro e w1 ⟨rfl, hb1⟩
    rw [HU.out]
    have g1 := bfrom hb0 hb1
    have hx1 := hx.now hb1
    obtain ⟨d0, d1⟩ := hx1.cells
    clear hx c0 c1 hb0 hb1
    go_wp2_with (first
      | (go_at_call 32; refine (HSW1.out _ g1).mono ?_; rintro e w2 ⟨rfl, hb2⟩)
      | fail)
    have g2 := bfrom g1 hb2
    have hx2 := hx1.now hb2
    obtain ⟨k0, k1⟩ := hx2.cells
    have K := Lib.hid (show ∀ W, Below w2.heap.size w2 W → W.cell? ⟨w.heap.size, 0, none⟩ = some (.int .i64 q) ∧ W.cell? ⟨w.heap.size, 1, none⟩ = some (.slice (some ⟨b, off, none⟩) n n) from fun W hb => (hx2.now hb).cells)
    go_region_held3 (fun w' => w'.cell? ⟨w.heap.size, 0, none⟩ = some (.int .i64 q) ∧ w'.cell? ⟨w.heap.size, 1, none⟩ = some (.slice (some ⟨b, off, none⟩) n n))
      (first | exact ⟨k0, k1⟩ | exact ⟨l0, l1⟩ | exact ⟨l2, l3⟩ | go_keep)
      (first
        | (go_at_call 26; refine (HUM.out _ (bfrom g2 (Below.refl _ _).drew)).mono ?_; rintro e w3 ⟨g, cp, rfl, hgl, hI, hb3⟩; have HI := Lib.hid hI; clear hI; have b3 := bfrom (Below.refl _ w2).drew hb3; obtain ⟨l0, l1⟩ := K.out _ b3)
        | (go_at_call 32; refine (HSW2.out g cp _ (bfrom g2 b3) HI.out).mono ?_; rintro e w4 ⟨rfl, hb4⟩; have b4 := bfrom b3 hb4; obtain ⟨l2, l3⟩ := K.out _ b4)
        | fail)
    all_goals
      go_wp2_with (first
        | (go_at_call 29; refine (HUG.out _).mono ?_; rintro e w5 ⟨rfl, rfl⟩)
        | fail)
      go_ret2
      exact ⟨rfl, bfrom g2 b4⟩
