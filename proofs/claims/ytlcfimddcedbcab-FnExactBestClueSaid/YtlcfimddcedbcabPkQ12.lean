/- Texts of T12, Gb. -/
import Derived.Test.YtlcfimddcedbcabPkQ11
import Derived.Test.YtlcfimddcedbcabPkQ04
import Derived.Test.YtlcfimddcedbcabPkQ07
import Derived.Outline
import Derived.Test.YtlcfimddcedbcabPkQ06
import Derived.Deep.RegionHeld3
namespace Go.Proofs.Ytlcfimddcedbcab
open Go.RowKit Vo

set_option maxHeartbeats 400000 in
theorem isMember_any (n : Nat) (x : Int) (w : World) (_hn : n ≤ 9223372036854775807) :
    Calls Try.prog 162 #[.int .i64 n, .int .i64 x] w fun e w' => e = .returned (.bool (inB x 0 ((n : Int) - 1))) ∧ w = w' := by
  by_cases h1 : 0 ≤ x
  · by_cases h2 : x < n
    · have H := Lib.hid (inB_yes (x := x) (lo := 0) (hi := (n : Int) - 1) h1 (by omega))
      go_enter Try.func162, Try.ntmps162
      go_wp2
      go_ret
      exact ⟨by rw [H.out]; rfl, rfl⟩
    · have H := Lib.hid (inB_no (x := x) (lo := 0) (hi := (n : Int) - 1) (by omega))
      go_enter Try.func162, Try.ntmps162
      go_wp2
      go_ret
      exact ⟨by rw [H.out]; rfl, rfl⟩
  · have H := Lib.hid (inB_no (x := x) (lo := 0) (hi := (n : Int) - 1) (by omega))
    have hd : decide (0 ≤ x) = false := by simpa using h1
    go_enter Try.func162, Try.ntmps162
    go_wp2
    go_ret
    exact ⟨by rw [H.out]; simp, rfl⟩


/-- Is z among the first k? -/
def hasK (xs : List Int) (z : Int) : Nat → Bool
  | 0 => false
  | k+1 => hasK xs z k || decide (xs.getD k 0 = z)
theorem hasK_yes {xs : List Int} {z : Int} {k m : Nat} (hk : k < m) (h : xs.getD k 0 = z) : hasK xs z m = true := by
  induction m with
  | zero => omega
  | succ m ih =>
    simp only [hasK]
    by_cases e : k = m
    · subst e; rw [h]; simp
    · rw [ih (by omega)]; rfl
/-- No two of the first m are the same. -/
def onceK (xs : List Int) (m : Nat) : Bool := allK (fun i => !hasK xs (xs.getD i 0) i) m
def orderB (n : Nat) (xs : List Int) (m : Nat) : Bool := decide (m = n) && (allB 0 ((n : Int) - 1) xs m && onceK xs m)
theorem onceK_succ {xs : List Int} {j : Nat} (h : onceK xs j = true) (h2 : hasK xs (xs.getD j 0) j = false) : onceK xs (j+1) = true := by
  unfold onceK at *
  simp only [allK]; rw [h, h2]; rfl
theorem onceK_no {xs : List Int} {j m : Nat} (hj : j < m) (h : hasK xs (xs.getD j 0) j = true) : onceK xs m = false := allK_false (k := m) j hj (by rw [h]; rfl)
theorem ofK_small {n : Nat} {xs : List Int} {j : Nat} (_hn : n ≤ 9) (h : InK 0 ((n : Int) - 1) xs j) : ofK xs j < 2^n := by
  induction j with
  | zero => exact Nat.two_pow_pos n
  | succ j ih =>
    have h1 := h j (by omega)
    exact Nat.or_lt_two_pow (ih fun i hi => h i (by omega)) (Nat.pow_lt_pow_right (by omega) (by omega))
theorem ofK_has {n : Nat} {xs : List Int} {j z : Nat} (h : InK 0 ((n : Int) - 1) xs j) : (ofK xs j).testBit z = hasK xs (z : Int) j := by
  induction j with
  | zero => simp [ofK, hasK]
  | succ j ih =>
    have h1 := h j (by omega)
    simp only [ofK, hasK]
    rw [Nat.testBit_or, ih fun i hi => h i (by omega), Nat.testBit_two_pow]
    congr 1
    by_cases e : xs.getD j 0 = z
    · rw [e]; simp
    · rw [decide_eq_false e, decide_eq_false (by omega)]

end Go.Proofs.Ytlcfimddcedbcab

namespace Go.Proofs.Ytlcfimddcedbcab
open Go.RowKit Vo

theorem testBit_orp {s z k : Nat} : (s ||| 2^z).testBit k = (s.testBit k || decide (z = k)) := by rw [Nat.testBit_or, Nat.testBit_two_pow]
theorem wtK_orp {ws : List Int} {s z : Nat} (h : s.testBit z = false) (n : Nat) : wtK ws (s ||| 2^z) n = wtK ws s n + if z < n then ws.getD z 0 else 0 := by
  induction n with
  | zero => simp [wtK]
  | succ n ih =>
    simp only [wtK]; rw [ih, testBit_orp]
    by_cases e : z = n
    · subst e; rw [h]; simp
    · rw [decide_eq_false e, Bool.or_false]
      by_cases h1 : z < n
      · rw [if_pos h1, if_pos (show z < n + 1 by omega)]; omega
      · rw [if_neg h1, if_neg (show ¬ z < n + 1 by omega)]; omega
theorem mem_orp {s z : Nat} (h : s.testBit z = false) (n : Nat) : (mem (s ||| 2^z) n).length = (mem s n).length + if z < n then 1 else 0 := by
  induction n with
  | zero => simp [mem]
  | succ n ih =>
    simp only [mem, List.length_append]; rw [ih, testBit_orp]
    by_cases e : z = n
    · subst e; rw [h]; simp
    · rw [decide_eq_false e, Bool.or_false]
      by_cases h1 : z < n
      · rw [if_pos h1, if_pos (show z < n + 1 by omega)]; omega
      · rw [if_neg h1, if_neg (show ¬ z < n + 1 by omega)]; omega
theorem mem_all {s : Nat} (n : Nat) (h : (mem s n).length = n) (ws : List Int) : wtK ws s n = sumK ws n := by
  induction n with
  | zero => rfl
  | succ n ih =>
    have h1 := mem_len s n
    simp only [mem, List.length_append] at h
    cases hb : s.testBit n
    · rw [hb] at h; simp at h; omega
    · rw [hb] at h
      simp only [wtK, sumK]
      rw [hb, ih (by simpa using h)]
      simp
theorem onceK_at {xs : List Int} {m i : Nat} (h : onceK xs m = true) (hi : i < m) : hasK xs (xs.getD i 0) i = false := by
  have := allK_iff.1 h i hi
  simpa using this
theorem ofK_len {n : Nat} {xs : List Int} {m j : Nat} (h : InK 0 ((n : Int) - 1) xs m) (h2 : onceK xs m = true) (hj : j ≤ m) : (mem (ofK xs j) n).length = j := by
  induction j with
  | zero =>
    have : ∀ k, mem 0 k = [] := mem_zero
    simp [ofK, this]
  | succ j ih =>
    have h1 := h j (by omega)
    obtain ⟨z, hz⟩ : ∃ z : Nat, xs.getD j 0 = z := ⟨(xs.getD j 0).toNat, by omega⟩
    have hb : (ofK xs j).testBit z = false := by rw [ofK_has (h.mono (show j ≤ m by omega)), ← hz]; exact onceK_at h2 (by omega)
    simp only [ofK]
    rw [hz, Int.toNat_natCast, mem_orp hb, ih (by omega), if_pos (by omega)]
theorem wtK_next {n : Nat} {xs ws : List Int} {m j z : Nat} (h : InK 0 ((n : Int) - 1) xs m) (h2 : onceK xs m = true) (hj : j < m) (hz : xs.getD j 0 = z) : wtK ws (ofK xs (j+1)) n = wtK ws (ofK xs j) n + ws.getD z 0 := by
  have h1 := h j (by omega)
  have hb : (ofK xs j).testBit z = false := by rw [ofK_has (h.mono (show j ≤ m by omega)), ← hz]; exact onceK_at h2 (by omega)
  simp only [ofK]
  rw [hz, Int.toNat_natCast, wtK_orp hb, if_pos (by omega)]

/-- The first number from k on, of so many, with p. -/
def pivF (p : Nat → Bool) : Nat → Nat → Nat
  | 0, k => k
  | f+1, k => if p k then k else pivF p f (k+1)
theorem pivF_at {p : Nat → Bool} {k : Nat} : ∀ {f j : Nat}, j ≤ k → k < j + f → (∀ i, j ≤ i → i < k → p i = false) → p k = true → pivF p f j = k := by
  intro f
  induction f with
  | zero => intro j h1 h2; omega
  | succ f ih =>
    intro j h1 h2 h3 h4
    by_cases e : j = k
    · subst e; simp [pivF, h4]
    · simp only [pivF]
      rw [h3 j (Nat.le_refl _) (by omega)]
      exact ih (by omega) (by omega) (fun i h5 h6 => h3 i (by omega) h6) h4
def ordOk (q : Int) (ws : List Int) (n : Nat) (xs : List Int) (m : Nat) : Bool := goodB q ws n && orderB n xs m
def pivV (q : Int) (ws : List Int) (n : Nat) (xs : List Int) (m : Nat) : Int := if ordOk q ws n xs m then xs.getD (pivF (fun i => winB q ws n (ofK xs (i+1))) m 0) 0 else 0
theorem pivV_no {q ws n xs m} (h : ordOk q ws n xs m = false) : pivV q ws n xs m = 0 := if_neg (by rw [h]; simp)
theorem pivV_at {q ws n xs m} {k : Nat} (h : ordOk q ws n xs m = true) (hk : k < m) (h1 : ∀ i, i < k → winB q ws n (ofK xs (i+1)) = false) (h2 : winB q ws n (ofK xs (k+1)) = true) : pivV q ws n xs m = xs.getD k 0 := by
  rw [pivV, if_pos h, pivF_at (p := fun i => winB q ws n (ofK xs (i+1))) (k := k) (Nat.zero_le _) (by omega) (fun i _ hi => h1 i hi) h2]
structure Ord (q : Int) (ws : List Int) (n : Nat) (xs : List Int) (m : Nat) : Prop where
  good : Vo.Good q ws n
  len : m = n
  inr : InK 0 ((n : Int) - 1) xs m
  once : onceK xs m = true
theorem ordOk_parts {q ws n xs m} (h : ordOk q ws n xs m = true) : Ord q ws n xs m := by
  unfold ordOk orderB goodB allB at h
  simp at h
  exact ⟨h.1, h.2.1, h.2.2.1, h.2.2.2⟩
theorem Ord.all {q ws n xs m} (h : Ord q ws n xs m) : winB q ws n (ofK xs m) = true := by
  have h1 := ofK_len h.inr h.once (Nat.le_refl m)
  have h2 := mem_all n (s := ofK xs m) (by rw [h1, h.len]) ws
  unfold winB
  rw [h2]
  exact decide_eq_true h.good.q2
theorem Ord.none {q ws n xs m} (h : Ord q ws n xs m) : winB q ws n (ofK xs 0) = false := by
  have : ∀ k, wtK ws 0 k = 0 := by
    intro k
    induction k with
    | zero => rfl
    | succ k ih => simp only [wtK]; rw [ih]; simp
  unfold winB
  rw [show ofK xs 0 = 0 from rfl, this n]
  have := h.good.q1
  exact decide_eq_false (by omega)
end Go.Proofs.Ytlcfimddcedbcab

namespace Go.Proofs.Ytlcfimddcedbcab
open Go.RowKit Vo

/-- Is there a clue of a game of n members? -/
def clueB (n : Nat) (c : Clu) : Bool :=
  if c.1 = 0 then inB c.2.1 0 ((2^n - 1 : Nat) : Int) && inB c.2.2 0 1
  else if c.1 = 1 then inB c.2.1 1 15 && decide (c.2.2 = 0)
  else if c.1 = 2 then inB c.2.1 0 ((n : Int) - 1) && inB c.2.2 0 1
  else if c.1 = 3 then inB c.2.1 0 ((n : Int) - 1) && inB c.2.2 0 8
  else if c.1 = 4 ∨ c.1 = 5 then inB c.2.1 0 1 && decide (c.2.2 = 0)
  else false
theorem clueB_no {n : Nat} {k a b : Int} (h : ¬ (0 ≤ k ∧ k ≤ 5)) : clueB n (k, a, b) = false := by
  unfold clueB
  simp only
  rw [if_neg (by omega), if_neg (by omega), if_neg (by omega), if_neg (by omega), if_neg (by omega)]

set_option maxHeartbeats 400000 in
theorem isNoOrYes_any (x : Int) (w : World) :
    Calls Try.prog 161 #[.int .i64 x] w fun e w' => e = .returned (.bool (inB x 0 1)) ∧ w = w' := by
  by_cases h0 : x = 0
  · subst h0
    have H := Lib.hid (inB_yes (x := 0) (lo := 0) (hi := 1) (by omega) (by omega))
    go_enter Try.func161, Try.ntmps161
    go_wp2
    go_ret
    exact ⟨by rw [H.out]; rfl, rfl⟩
  · by_cases h1 : x = 1
    · subst h1
      have H := Lib.hid (inB_yes (x := 1) (lo := 0) (hi := 1) (by omega) (by omega))
      go_enter Try.func161, Try.ntmps161
      go_wp2
      go_ret
      exact ⟨by rw [H.out]; rfl, rfl⟩
    · have H := Lib.hid (inB_no (x := x) (lo := 0) (hi := 1) (by omega))
      go_enter Try.func161, Try.ntmps161
      go_wp2
      go_ret
      exact ⟨by rw [H.out]; first | rfl | simp [h0, h1], rfl⟩
set_option maxHeartbeats 400000 in
theorem isHidden_any (x : Int) (w : World) :
    Calls Try.prog 144 #[.int .i64 x] w fun e w' => e = .returned (.bool (inB x 1 4)) ∧ w = w' := by
  by_cases h1 : 1 ≤ x
  · by_cases h2 : x ≤ 4
    · have H := Lib.hid (inB_yes h1 h2)
      go_enter Try.func144, Try.ntmps144
      go_wp2
      go_ret
      exact ⟨by rw [H.out]; rfl, rfl⟩
    · have H := Lib.hid (inB_no (x := x) (lo := 1) (hi := 4) (fun h => h2 h.2))
      go_enter Try.func144, Try.ntmps144
      go_wp2
      go_ret
      exact ⟨by rw [H.out]; rfl, rfl⟩
  · have H := Lib.hid (inB_no (x := x) (lo := 1) (hi := 4) (fun h => h1 h.1))
    go_enter Try.func144, Try.ntmps144
    go_wp2
    go_ret
    exact ⟨by rw [H.out]; rfl, rfl⟩

/-- The function value (k, first, cap), called with the i-th one of these clues, answers p i; it writes nothing that was there. -/
structure AsksU (p : Clu → Bool) (k : Nat) (first cap : Array Value) (w : World) : Prop where
  enters : ∀ args W, (callFunc k args).run Try.prog W = .ok (.enter k args) W
  gives : ∀ (W : World) (x y z : Int), Below w.heap.size w W → Calls Try.prog k (first.push (.agg #[.int .i64 x, .int .i64 y, .int .i64 z]) ++ cap) W fun e W' => e = .returned (.bool (p (x, y, z))) ∧ Below W.heap.size W W'
theorem AsksU.now {p k first cap} {w w' : World} (h : AsksU p k first cap w) (hb : Below w.heap.size w w') : AsksU p k first cap w' :=
  ⟨h.enters, fun W x y z hW => h.gives W x y z (bfrom hb hW)⟩
def anyU (p : Clu → Bool) (C : List Clu) : Nat → Bool
  | 0 => false
  | k+1 => anyU p C k || p (cAt C k)
theorem anyU_yes {p : Clu → Bool} {C : List Clu} {k j : Nat} (hj : j < k) (h : p (cAt C j) = true) : anyU p C k = true := by
  induction k with
  | zero => omega
  | succ k ih =>
    unfold anyU
    by_cases e : j = k
    · subst e; rw [h, Bool.or_true]
    · rw [ih (by omega), Bool.true_or]
theorem anyU_no {p : Clu → Bool} {C : List Clu} {k : Nat} (h : ∀ j, j < k → p (cAt C j) = false) : anyU p C k = false := by
  induction k with
  | zero => rfl
  | succ k ih =>
    unfold anyU
    rw [ih fun j hj => h j (by omega), h k (by omega)]; rfl

set_option maxRecDepth 20000 in
set_option maxHeartbeats 1000000 in
theorem indexU_any (p : Clu → Bool) (k : Nat) (first cap : Array Value) (A : Option Addr) (n cp : Nat) (C : List Clu) (w : World) (hm : n ≤ 9223372036854775807) (hk : KCl w A n C) (ha : AsksU p k first cap w) :
    Calls Try.prog 126 #[.slice A n cp, .func (.func k) first cap] w fun e w' => ((∃ j : Nat, j < n ∧ e = .returned (.int .i64 j) ∧ anyU p C n = true) ∨ (e = .returned (.int .i64 (-1)) ∧ anyU p C n = false)) ∧ Below w.heap.size w w' := by
  have HK := Lib.hid hk
  have HA := Lib.hid ha
  have eg := ha.enters
  clear hk ha
  go_enter Try.func126, Try.ntmps126
  go_wp2_with fail
  go_loopw [5, 8] (fun _ i wr => ∃ j : Nat, j ≤ n ∧ i = .int .i64 j ∧ (∀ t, t < j → p (cAt C t) = false) ∧ Below w.heap.size w wr) (fun _ i _ => n - (intOf i).toNat)
  case atStart => exact ⟨0, Nat.zero_le _, rfl, fun _ h => by omega, Below.refl _ _⟩
  case round =>
    obtain ⟨j, hj, rfl, hno, hb⟩ := hrel
    have HS := Lib.hid hno
    clear hno
    by_cases hlt : j < n
    · obtain ⟨b, off, rfl, hcl⟩ := (HK.out.now hb).get (by omega)
      obtain ⟨hc0, hc1, hc2⟩ := hcl.at hlt
      have hbl := hcl.lt
      have HC := Lib.hid (HA.out.gives wr (cAt C j).1 (cAt C j).2.1 (cAt C j).2.2 hb)
      have HP := Lib.hid (show p ((cAt C j).1, (cAt C j).2.1, (cAt C j).2.2) = p (cAt C j) from rfl)
      clear hcl
      rw [HP.out] at HC
      obtain ⟨c, hc⟩ : ∃ c, c = cAt C j := ⟨_, rfl⟩
      rw [← hc] at HC hc0 hc1 hc2
      have HCC := Lib.hid hc
      clear hc HP
      obtain ⟨x, y, z⟩ := c
      simp only at hc0 hc1 hc2 HC
      cases hp : p (x, y, z) with
      | true =>
        have HW := Lib.hid (anyU_yes (C := C) hlt (by rw [← HCC.out]; exact hp))
        rw [hp] at HC
        clear hp
        go_wp2_with (go_at_fn k; refine HC.out.mono ?_; rintro e w' ⟨rfl, hb'⟩)
        go_ret
        exact ⟨Or.inl ⟨j, hlt, rfl, HW.out⟩, bfrom hb hb'⟩
      | false =>
        have HW := Lib.hid (show ∀ t, t < j + 1 → p (cAt C t) = false from fun t ht => by
          by_cases e : t = j
          · subst e; rw [← HCC.out]; exact hp
          · exact HS.out t (by omega))
        rw [hp] at HC
        clear hp
        go_wp2_with (go_at_fn k; refine HC.out.mono ?_; rintro e w' ⟨rfl, hb'⟩)
        go_roundw
        case rel => exact ⟨j + 1, by omega, by go_num, HW.out, bfrom hb hb'⟩
        case measure => simp [intOf]; omega
    · obtain rfl : j = n := by omega
      have HW := Lib.hid (anyU_no (C := C) HS.out)
      go_wp2
      go_ret
      exact ⟨Or.inr ⟨rfl, HW.out⟩, hb⟩

set_option maxHeartbeats 1000000 in
theorem containsU_any (p : Clu → Bool) (k : Nat) (first cap : Array Value) (A : Option Addr) (n cp : Nat) (C : List Clu) (w : World) (hm : n ≤ 9223372036854775807) (hk : KCl w A n C) (ha : AsksU p k first cap w) :
    Calls Try.prog 95 #[.slice A n cp, .func (.func k) first cap] w fun e w' => e = .returned (.bool (anyU p C n)) ∧ Below w.heap.size w w' := by
  have HI := Lib.hid (indexU_any p k first cap A n cp C w hm hk ha)
  clear hk ha
  go_enter Try.func95, Try.ntmps95
  go_wp2_with fail
  refine HI.out.mono ?_
  rintro e w1 ⟨h, hb⟩
  rcases h with ⟨j, hj, rfl, hw⟩ | ⟨rfl, hw⟩
  · have HW := Lib.hid hw
    clear hw
    have h0 : (0 : Int) ≤ (j : Int) := by omega
    go_wp2
    go_ret
    exact ⟨by rw [HW.out]; first | rfl | simp, hb⟩
  · have HW := Lib.hid hw
    clear hw
    go_wp2
    go_ret
    exact ⟨by rw [HW.out]; rfl, hb⟩

set_option maxHeartbeats 1000000 in
theorem question0_any (a b : Int) (w : World) :
    Calls Try.prog 160 #[.agg #[.int .i64 0, .int .i64 a, .int .i64 b]] w fun e w' => e = .returned (.iface 172 (.agg #[.int .u64 (IntKind.u64.wrap a)])) ∧ Below w.heap.size w w' := by
  have b0 := below1 w (.cells #[.int .i64 0, .int .i64 a, .int .i64 b] 90)
  go_enter Try.func160, Try.ntmps160
  go_wp2
  go_ret
  exact ⟨rfl, b0⟩
set_option maxHeartbeats 1000000 in
theorem question1_any (a b : Int) (w : World) :
    Calls Try.prog 160 #[.agg #[.int .i64 1, .int .i64 a, .int .i64 b]] w fun e w' => e = .returned (.iface 174 (.agg #[])) ∧ Below w.heap.size w w' := by
  have b0 := below1 w (.cells #[.int .i64 1, .int .i64 a, .int .i64 b] 90)
  go_enter Try.func160, Try.ntmps160
  go_wp2
  go_ret
  exact ⟨rfl, b0⟩
set_option maxHeartbeats 1000000 in
theorem question2_any (a b : Int) (w : World) :
    Calls Try.prog 160 #[.agg #[.int .i64 2, .int .i64 a, .int .i64 b]] w fun e w' => e = .returned (.iface 176 (.agg #[.int .i64 a])) ∧ Below w.heap.size w w' := by
  have b0 := below1 w (.cells #[.int .i64 2, .int .i64 a, .int .i64 b] 90)
  go_enter Try.func160, Try.ntmps160
  go_wp2
  go_ret
  exact ⟨rfl, b0⟩
set_option maxHeartbeats 1000000 in
theorem question3_any (a b : Int) (w : World) :
    Calls Try.prog 160 #[.agg #[.int .i64 3, .int .i64 a, .int .i64 b]] w fun e w' => e = .returned (.iface 178 (.agg #[.int .i64 a])) ∧ Below w.heap.size w w' := by
  have b0 := below1 w (.cells #[.int .i64 3, .int .i64 a, .int .i64 b] 90)
  go_enter Try.func160, Try.ntmps160
  go_wp2
  go_ret
  exact ⟨rfl, b0⟩
set_option maxHeartbeats 1000000 in
theorem question4_any (a b : Int) (w : World) :
    Calls Try.prog 160 #[.agg #[.int .i64 4, .int .i64 a, .int .i64 b]] w fun e w' => e = .returned (.iface 179 (.agg #[])) ∧ Below w.heap.size w w' := by
  have b0 := below1 w (.cells #[.int .i64 4, .int .i64 a, .int .i64 b] 90)
  go_enter Try.func160, Try.ntmps160
  go_wp2
  go_ret
  exact ⟨rfl, b0⟩
set_option maxHeartbeats 1000000 in
theorem question5_any (a b : Int) (w : World) :
    Calls Try.prog 160 #[.agg #[.int .i64 5, .int .i64 a, .int .i64 b]] w fun e w' => e = .returned (.iface 180 (.agg #[])) ∧ Below w.heap.size w w' := by
  have b0 := below1 w (.cells #[.int .i64 5, .int .i64 a, .int .i64 b] 90)
  go_enter Try.func160, Try.ntmps160
  go_wp2
  go_ret
  exact ⟨rfl, b0⟩
set_option maxHeartbeats 1000000 in
theorem questionN_any (k a b : Int) (w : World) (h : ¬ (0 ≤ k ∧ k ≤ 5)) :
    Calls Try.prog 160 #[.agg #[.int .i64 k, .int .i64 a, .int .i64 b]] w fun e w' => e = .returned .nilIface ∧ Below w.heap.size w w' := by
  have b0 := below1 w (.cells #[.int .i64 k, .int .i64 a, .int .i64 b] 90)
  have h0 : ¬ k = 0 := by omega
  have h1 : ¬ k = 1 := by omega
  have h2 : ¬ k = 2 := by omega
  have h3 : ¬ k = 3 := by omega
  have h4 : ¬ k = 4 := by omega
  have h5 : ¬ k = 5 := by omega
  go_enter Try.func160, Try.ntmps160
  go_wp2
  go_ret
  exact ⟨rfl, b0⟩

/-- 'x.(T)' at a struct type T, with the second result: x's dynamic type is T, is another one, is none. -/
theorem run_assert_yes {t : TypeId} {fs : Array Field} (h : Try.prog.underlying t = some (.struct fs)) (v : Value) (xT : TypeId) (w : World) :
    (Instr.typeAssert (.iface t v) xT t true).run Try.prog w = .ok (.tuple #[v, .bool true]) w := by
  simp [Instr.typeAssert, run_underlying h, go_sem, Result.andThen]
theorem run_assert_no {t a : TypeId} {fs : Array Field} {z : Value} (h : Try.prog.underlying a = some (.struct fs)) (hne : t ≠ a) (hz : (Try.prog.info? a).map (·.zero) = some (some z)) (v : Value) (xT : TypeId) (w : World) :
    (Instr.typeAssert (.iface t v) xT a true).run Try.prog w = .ok (.tuple #[z, .bool false]) w := by
  obtain ⟨j, hj, hz'⟩ := Option.map_eq_some_iff.1 hz
  simp [Instr.typeAssert, run_underlying h, go_sem, Result.andThen, hne, typeInfo, zeroValue, hj, hz']
theorem run_assert_nil {a : TypeId} {fs : Array Field} {z : Value} (h : Try.prog.underlying a = some (.struct fs)) (hz : (Try.prog.info? a).map (·.zero) = some (some z)) (xT : TypeId) (w : World) :
    (Instr.typeAssert .nilIface xT a true).run Try.prog w = .ok (.tuple #[z, .bool false]) w := by
  obtain ⟨j, hj, hz'⟩ := Option.map_eq_some_iff.1 hz
  simp [Instr.typeAssert, run_underlying h, go_sem, Result.andThen, typeInfo, zeroValue, hj, hz']
theorem zeroSQ : (Try.prog.info? 172).map (·.zero) = some (some (.agg #[.int .u64 0])) := by kernel_rfl
theorem zeroCQ : (Try.prog.info? 174).map (·.zero) = some (some (.agg #[])) := by kernel_rfl
theorem zeroVQ : (Try.prog.info? 176).map (·.zero) = some (some (.agg #[.int .i64 0])) := by kernel_rfl
theorem zeroWQ : (Try.prog.info? 178).map (·.zero) = some (some (.agg #[.int .i64 0])) := by kernel_rfl
theorem zeroPQ : (Try.prog.info? 179).map (·.zero) = some (some (.agg #[])) := by kernel_rfl
theorem zeroTQ : (Try.prog.info? 180).map (·.zero) = some (some (.agg #[])) := by kernel_rfl

/-- Block g is the box of a struct of three cells. -/
def Bx3 (t : TypeId) (w : World) (g : Nat) (a b c : Value) : Prop := w.heap[g]? = some (.cells #[a, b, c] t (0, 0))
namespace Bx3
variable {t : TypeId} {w w' : World} {g : Nat} {a b c : Value}
theorem lt (h : Bx3 t w g a b c) : g < w.heap.size := (Array.getElem?_eq_some_iff.1 h).1
theorem cells (h : Bx3 t w g a b c) : w.cell? ⟨g, 0, none⟩ = some a ∧ w.cell? ⟨g, 1, none⟩ = some b ∧ w.cell? ⟨g, 2, none⟩ = some c := by
  unfold Bx3 at h; exact ⟨by simp [World.cell?, h], by simp [World.cell?, h], by simp [World.cell?, h]⟩
theorem soft (h : Bx3 t w g a b c) : w.frozen? ⟨g, 0, none⟩ = false ∧ w.frozen? ⟨g, 1, none⟩ = false ∧ w.frozen? ⟨g, 2, none⟩ = false := by
  unfold Bx3 at h; exact ⟨by simp [World.frozen?, h], by simp [World.frozen?, h], by simp [World.frozen?, h]⟩
theorem now (h : Bx3 t w g a b c) (hb : Below w.heap.size w w') : Bx3 t w' g a b c := (hb.block g h.lt).trans h
theorem drew (h : Bx3 t w g a b c) : Bx3 t w.drew g a b c := h
theorem alloc (h : Bx3 t w g a b c) (o : Obj) : Bx3 t (w.alloc o) g a b c := h.now ((Below.refl _ _).alloc (Nat.le_refl _) _)
theorem far (h : Bx3 t w g a b c) {p : Addr} (hp : g ≠ p.block) (x : Value) : Bx3 t (w.setCell p x) g a b c := (Below.heap_setCell w p x g hp).trans h
theorem new (t : TypeId) (w : World) (a b c : Value) : Bx3 t (w.alloc (.cells #[a, b, c] t)) w.heap.size a b c := heap_alloc_new w _
end Bx3





set_option maxRecDepth 20000 in
set_option maxHeartbeats 4000000 in
theorem isFor0_any (n : Nat) (a b : Int) (w : World) (h1 : 1 ≤ n) (hn : n ≤ 4) :
    Calls Try.prog 143 #[.agg #[.int .i64 0, .int .i64 a, .int .i64 b], .int .i64 n] w fun e w' => e = .returned (.bool (clueB n (0, a, b))) ∧ Below w.heap.size w w' := by
  have b0 := below1 w (.cells #[.int .i64 0, .int .i64 a, .int .i64 b] 90)
  have hx := Bx3.new 90 w (.int .i64 0) (.int .i64 a) (.int .i64 b)
  have HQ := Lib.hid (fun W => question0_any a b W)
  have HN := Lib.hid (fun (x : Int) W => isNoOrYes_any x W)
  have HM := Lib.hid (fun (x : Int) W => isMember_any n x W (by omega))
  have t0 := fun v W => run_assert_yes Try.underlying172 v 169 W
  have HR := Lib.hid (show clueB n (0, a, b) = (inB a 0 ((2^n - 1 : Nat) : Int) && inB b 0 1) from rfl)
  obtain ⟨P, hP, hP2⟩ : ∃ P : Nat, P = 2^n ∧ P ≤ 16 := ⟨2^n, rfl, Nat.pow_le_pow_right (n := 2) (by omega) hn⟩
  have hpc : (2 : Int)^n = (P : Int) := by rw [hP]; simp
  have hpos : 1 ≤ P := by rw [hP]; exact Nat.two_pow_pos n
  have hwr : IntKind.i64.wrap (P : Int) = (P : Int) := IntWalk.i64_in _ (by omega)
  rw [← hP] at HR
  rw [HR.out]
  clear hP HR
  by_cases ha0 : 0 ≤ a
  · by_cases ha1 : a < P
    · have HA := Lib.hid (inB_yes (x := a) (lo := 0) (hi := ((P - 1 : Nat) : Int)) ha0 (by omega))
      rw [HA.out, Bool.true_and]
      go_enter Try.func143, Try.ntmps143
      go_wp2_with fail
      refine (HQ.out _).mono ?_
      rintro e w1 ⟨rfl, hb1⟩
      obtain ⟨c0, c1, c2⟩ := (hx.now hb1).cells
      clear hx
      go_wp2_with fail
      go_region_held3 (fun w' => w'.cell? ⟨w.heap.size, 1, none⟩ = some (.int .i64 a) ∧ w'.cell? ⟨w.heap.size, 2, none⟩ = some (.int .i64 b))
        (first | exact ⟨c1, c2⟩ | go_keep)
        (first | (go_at_call 161; refine (HN.out b _).mono ?_; rintro e w2 ⟨rfl, rfl⟩) | fail)
      go_wp2
      go_ret
      exact ⟨rfl, (bfrom b0 hb1).drew⟩
    · have HA := Lib.hid (inB_no (x := a) (lo := 0) (hi := ((P - 1 : Nat) : Int)) (by omega))
      rw [HA.out, Bool.false_and]
      have hd : decide (a < IntKind.i64.wrap (P : Int)) = false := by rw [hwr]; exact decide_eq_false ha1
      clear hwr
      go_enter Try.func143, Try.ntmps143
      go_wp2_with fail
      refine (HQ.out _).mono ?_
      rintro e w1 ⟨rfl, hb1⟩
      obtain ⟨c0, c1, c2⟩ := (hx.now hb1).cells
      clear hx
      go_wp2_with fail
      first | (go_region_with fail) | fail
      all_goals
        go_wp2
        go_ret
        exact ⟨rfl, (bfrom b0 hb1).drew⟩
  · have HA := Lib.hid (inB_no (x := a) (lo := 0) (hi := ((P - 1 : Nat) : Int)) (by omega))
    rw [HA.out, Bool.false_and]
    go_enter Try.func143, Try.ntmps143
    go_wp2_with fail
    refine (HQ.out _).mono ?_
    rintro e w1 ⟨rfl, hb1⟩
    obtain ⟨c0, c1, c2⟩ := (hx.now hb1).cells
    clear hx
    go_wp2_with fail
    first | (go_region_with fail) | fail
    all_goals
      go_wp2
      go_ret
      exact ⟨rfl, (bfrom b0 hb1).drew⟩

set_option maxRecDepth 20000 in
set_option maxHeartbeats 4000000 in
theorem isFor1_any (n : Nat) (a b : Int) (w : World) (h1 : 1 ≤ n) (hn : n ≤ 4) :
    Calls Try.prog 143 #[.agg #[.int .i64 1, .int .i64 a, .int .i64 b], .int .i64 n] w fun e w' => e = .returned (.bool (clueB n (1, a, b))) ∧ Below w.heap.size w w' := by
  have b0 := below1 w (.cells #[.int .i64 1, .int .i64 a, .int .i64 b] 90)
  have hx := Bx3.new 90 w (.int .i64 1) (.int .i64 a) (.int .i64 b)
  have HQ := Lib.hid (fun W => question1_any a b W)
  have HN := Lib.hid (fun (x : Int) W => isNoOrYes_any x W)
  have HM := Lib.hid (fun (x : Int) W => isMember_any n x W (by omega))
  have t0 := fun v W => run_assert_no (t := 174) Try.underlying172 (by decide) zeroSQ v 169 W
  have t1 := fun v W => run_assert_yes Try.underlying174 v 169 W
  have HR := Lib.hid (show clueB n (1, a, b) = (inB a 1 15 && decide (b = 0)) from rfl)
  rw [HR.out]
  clear HR HN HM
  by_cases ha0 : 1 ≤ a
  · by_cases ha1 : a ≤ 15
    · rw [inB_yes ha0 ha1, Bool.true_and]
      by_cases hb : b = 0
      · subst hb
        go_enter Try.func143, Try.ntmps143
        go_wp2_with fail
        refine (HQ.out _).mono ?_
        rintro e w1 ⟨rfl, hb1⟩
        obtain ⟨c0, c1, c2⟩ := (hx.now hb1).cells
        clear hx
        go_wp2
        go_ret
        exact ⟨rfl, bfrom b0 hb1⟩
      · rw [decide_eq_false hb]
        go_enter Try.func143, Try.ntmps143
        go_wp2_with fail
        refine (HQ.out _).mono ?_
        rintro e w1 ⟨rfl, hb1⟩
        obtain ⟨c0, c1, c2⟩ := (hx.now hb1).cells
        clear hx
        go_wp2
        go_ret
        exact ⟨by first | rfl | simp [hb], bfrom b0 hb1⟩
    · rw [inB_no (x := a) (lo := 1) (hi := 15) (by omega), Bool.false_and]
      go_enter Try.func143, Try.ntmps143
      go_wp2_with fail
      refine (HQ.out _).mono ?_
      rintro e w1 ⟨rfl, hb1⟩
      obtain ⟨c0, c1, c2⟩ := (hx.now hb1).cells
      clear hx
      go_wp2
      go_ret
      exact ⟨rfl, bfrom b0 hb1⟩
  · rw [inB_no (x := a) (lo := 1) (hi := 15) (by omega), Bool.false_and]
    go_enter Try.func143, Try.ntmps143
    go_wp2_with fail
    refine (HQ.out _).mono ?_
    rintro e w1 ⟨rfl, hb1⟩
    obtain ⟨c0, c1, c2⟩ := (hx.now hb1).cells
    clear hx
    go_wp2
    go_ret
    exact ⟨rfl, bfrom b0 hb1⟩

set_option maxRecDepth 20000 in
set_option maxHeartbeats 4000000 in
theorem isFor2_any (n : Nat) (a b : Int) (w : World) (h1 : 1 ≤ n) (hn : n ≤ 4) :
    Calls Try.prog 143 #[.agg #[.int .i64 2, .int .i64 a, .int .i64 b], .int .i64 n] w fun e w' => e = .returned (.bool (clueB n (2, a, b))) ∧ Below w.heap.size w w' := by
  have b0 := below1 w (.cells #[.int .i64 2, .int .i64 a, .int .i64 b] 90)
  have hx := Bx3.new 90 w (.int .i64 2) (.int .i64 a) (.int .i64 b)
  have HQ := Lib.hid (fun W => question2_any a b W)
  have HN := Lib.hid (fun (x : Int) W => isNoOrYes_any x W)
  have HM := Lib.hid (fun (x : Int) W => isMember_any n x W (by omega))
  have t0 := fun v W => run_assert_no (t := 176) Try.underlying172 (by decide) zeroSQ v 169 W
  have t1 := fun v W => run_assert_no (t := 176) Try.underlying174 (by decide) zeroCQ v 169 W
  have t2 := fun v W => run_assert_yes Try.underlying176 v 169 W
  have HR := Lib.hid (show clueB n (2, a, b) = (inB a 0 ((n : Int) - 1) && inB b 0 1) from rfl)
  rw [HR.out]
  clear HR
  cases hm : inB a 0 ((n : Int) - 1) with
  | true =>
    have HMM := Lib.hid (HM.out a)
    rw [hm] at HMM
    rw [Bool.true_and]
    clear hm HM
    go_enter Try.func143, Try.ntmps143
    go_wp2_with fail
    refine (HQ.out _).mono ?_
    rintro e w1 ⟨rfl, hb1⟩
    obtain ⟨c0, c1, c2⟩ := (hx.now hb1).cells
    clear hx
    go_wp2_with fail
    refine (HMM.out _).mono ?_
    rintro e w2 ⟨rfl, rfl⟩
    go_wp2_with fail
    refine (HN.out b _).mono ?_
    rintro e w2 ⟨rfl, rfl⟩
    go_wp2
    go_ret
    exact ⟨rfl, bfrom b0 hb1⟩
  | false =>
    have HMM := Lib.hid (HM.out a)
    rw [hm] at HMM
    rw [Bool.false_and]
    clear hm HM
    go_enter Try.func143, Try.ntmps143
    go_wp2_with fail
    refine (HQ.out _).mono ?_
    rintro e w1 ⟨rfl, hb1⟩
    obtain ⟨c0, c1, c2⟩ := (hx.now hb1).cells
    clear hx
    go_wp2_with fail
    refine (HMM.out _).mono ?_
    rintro e w2 ⟨rfl, rfl⟩
    go_wp2
    go_ret
    exact ⟨rfl, bfrom b0 hb1⟩

set_option maxRecDepth 20000 in
set_option maxHeartbeats 4000000 in
theorem isFor3_any (n : Nat) (a b : Int) (w : World) (h1 : 1 ≤ n) (hn : n ≤ 4) :
    Calls Try.prog 143 #[.agg #[.int .i64 3, .int .i64 a, .int .i64 b], .int .i64 n] w fun e w' => e = .returned (.bool (clueB n (3, a, b))) ∧ Below w.heap.size w w' := by
  have b0 := below1 w (.cells #[.int .i64 3, .int .i64 a, .int .i64 b] 90)
  have hx := Bx3.new 90 w (.int .i64 3) (.int .i64 a) (.int .i64 b)
  have HQ := Lib.hid (fun W => question3_any a b W)
  have HN := Lib.hid (fun (x : Int) W => isNoOrYes_any x W)
  have HM := Lib.hid (fun (x : Int) W => isMember_any n x W (by omega))
  have t0 := fun v W => run_assert_no (t := 178) Try.underlying172 (by decide) zeroSQ v 169 W
  have t1 := fun v W => run_assert_no (t := 178) Try.underlying174 (by decide) zeroCQ v 169 W
  have t2 := fun v W => run_assert_no (t := 178) Try.underlying176 (by decide) zeroVQ v 169 W
  have t3 := fun v W => run_assert_yes Try.underlying178 v 169 W
  have HR := Lib.hid (show clueB n (3, a, b) = (inB a 0 ((n : Int) - 1) && inB b 0 8) from rfl)
  rw [HR.out]
  clear HR HN
  cases hm : inB a 0 ((n : Int) - 1) with
  | true =>
    have HMM := Lib.hid (HM.out a)
    rw [hm] at HMM
    rw [Bool.true_and]
    clear hm HM
    by_cases hb0 : 0 ≤ b
    · by_cases hb8 : b ≤ 8
      · rw [inB_yes hb0 hb8]
        go_enter Try.func143, Try.ntmps143
        go_wp2_with fail
        refine (HQ.out _).mono ?_
        rintro e w1 ⟨rfl, hb1⟩
        obtain ⟨c0, c1, c2⟩ := (hx.now hb1).cells
        clear hx
        go_wp2_with fail
        refine (HMM.out _).mono ?_
        rintro e w2 ⟨rfl, rfl⟩
        go_wp2
        go_ret
        exact ⟨rfl, bfrom b0 hb1⟩
      · rw [inB_no (x := b) (lo := 0) (hi := 8) (by omega)]
        go_enter Try.func143, Try.ntmps143
        go_wp2_with fail
        refine (HQ.out _).mono ?_
        rintro e w1 ⟨rfl, hb1⟩
        obtain ⟨c0, c1, c2⟩ := (hx.now hb1).cells
        clear hx
        go_wp2_with fail
        refine (HMM.out _).mono ?_
        rintro e w2 ⟨rfl, rfl⟩
        go_wp2
        go_ret
        exact ⟨by first | rfl | simp [hb8], bfrom b0 hb1⟩
    · rw [inB_no (x := b) (lo := 0) (hi := 8) (by omega)]
      go_enter Try.func143, Try.ntmps143
      go_wp2_with fail
      refine (HQ.out _).mono ?_
      rintro e w1 ⟨rfl, hb1⟩
      obtain ⟨c0, c1, c2⟩ := (hx.now hb1).cells
      clear hx
      go_wp2_with fail
      refine (HMM.out _).mono ?_
      rintro e w2 ⟨rfl, rfl⟩
      go_wp2
      go_ret
      exact ⟨rfl, bfrom b0 hb1⟩
  | false =>
    have HMM := Lib.hid (HM.out a)
    rw [hm] at HMM
    rw [Bool.false_and]
    clear hm HM
    go_enter Try.func143, Try.ntmps143
    go_wp2_with fail
    refine (HQ.out _).mono ?_
    rintro e w1 ⟨rfl, hb1⟩
    obtain ⟨c0, c1, c2⟩ := (hx.now hb1).cells
    clear hx
    go_wp2_with fail
    refine (HMM.out _).mono ?_
    rintro e w2 ⟨rfl, rfl⟩
    go_wp2
    go_ret
    exact ⟨rfl, bfrom b0 hb1⟩

set_option maxRecDepth 20000 in
set_option maxHeartbeats 4000000 in
theorem isFor4_any (n : Nat) (a b : Int) (w : World) (h1 : 1 ≤ n) (hn : n ≤ 4) :
    Calls Try.prog 143 #[.agg #[.int .i64 4, .int .i64 a, .int .i64 b], .int .i64 n] w fun e w' => e = .returned (.bool (clueB n (4, a, b))) ∧ Below w.heap.size w w' := by
  have b0 := below1 w (.cells #[.int .i64 4, .int .i64 a, .int .i64 b] 90)
  have hx := Bx3.new 90 w (.int .i64 4) (.int .i64 a) (.int .i64 b)
  have HQ := Lib.hid (fun W => question4_any a b W)
  have HN := Lib.hid (fun (x : Int) W => isNoOrYes_any x W)
  have HM := Lib.hid (fun (x : Int) W => isMember_any n x W (by omega))
  have t0 := fun v W => run_assert_no (t := 179) Try.underlying172 (by decide) zeroSQ v 169 W
  have t1 := fun v W => run_assert_no (t := 179) Try.underlying174 (by decide) zeroCQ v 169 W
  have t2 := fun v W => run_assert_no (t := 179) Try.underlying176 (by decide) zeroVQ v 169 W
  have t3 := fun v W => run_assert_no (t := 179) Try.underlying178 (by decide) zeroWQ v 169 W
  have t4 := fun v W => run_assert_yes Try.underlying179 v 169 W
  have t5 := fun v W => run_assert_no (t := 179) Try.underlying180 (by decide) zeroTQ v 169 W
  have HR := Lib.hid (show clueB n (4, a, b) = (inB a 0 1 && decide (b = 0)) from rfl)
  rw [HR.out]
  clear HR HM
  have HNN := Lib.hid (HN.out a)
  clear HN
  generalize inB a 0 1 = r at *
  cases r with
  | true =>
    rw [Bool.true_and]
    by_cases hb : b = 0
    · subst hb
      go_enter Try.func143, Try.ntmps143
      go_wp2_with fail
      refine (HQ.out _).mono ?_
      rintro e w1 ⟨rfl, hb1⟩
      obtain ⟨c0, c1, c2⟩ := (hx.now hb1).cells
      clear hx
      go_wp2_with fail
      refine (HNN.out _).mono ?_
      rintro e w2 ⟨rfl, rfl⟩
      go_wp2
      go_ret
      exact ⟨rfl, bfrom b0 hb1⟩
    · rw [decide_eq_false hb]
      go_enter Try.func143, Try.ntmps143
      go_wp2_with fail
      refine (HQ.out _).mono ?_
      rintro e w1 ⟨rfl, hb1⟩
      obtain ⟨c0, c1, c2⟩ := (hx.now hb1).cells
      clear hx
      go_wp2_with fail
      refine (HNN.out _).mono ?_
      rintro e w2 ⟨rfl, rfl⟩
      go_wp2
      go_ret
      exact ⟨by first | rfl | simp [hb], bfrom b0 hb1⟩
  | false =>
    rw [Bool.false_and]
    go_enter Try.func143, Try.ntmps143
    go_wp2_with fail
    refine (HQ.out _).mono ?_
    rintro e w1 ⟨rfl, hb1⟩
    obtain ⟨c0, c1, c2⟩ := (hx.now hb1).cells
    clear hx
    go_wp2_with fail
    refine (HNN.out _).mono ?_
    rintro e w2 ⟨rfl, rfl⟩
    go_wp2
    go_ret
    exact ⟨rfl, bfrom b0 hb1⟩

set_option maxRecDepth 20000 in
set_option maxHeartbeats 4000000 in
theorem isFor5_any (n : Nat) (a b : Int) (w : World) (h1 : 1 ≤ n) (hn : n ≤ 4) :
    Calls Try.prog 143 #[.agg #[.int .i64 5, .int .i64 a, .int .i64 b], .int .i64 n] w fun e w' => e = .returned (.bool (clueB n (5, a, b))) ∧ Below w.heap.size w w' := by
  have b0 := below1 w (.cells #[.int .i64 5, .int .i64 a, .int .i64 b] 90)
  have hx := Bx3.new 90 w (.int .i64 5) (.int .i64 a) (.int .i64 b)
  have HQ := Lib.hid (fun W => question5_any a b W)
  have HN := Lib.hid (fun (x : Int) W => isNoOrYes_any x W)
  have HM := Lib.hid (fun (x : Int) W => isMember_any n x W (by omega))
  have t0 := fun v W => run_assert_no (t := 180) Try.underlying172 (by decide) zeroSQ v 169 W
  have t1 := fun v W => run_assert_no (t := 180) Try.underlying174 (by decide) zeroCQ v 169 W
  have t2 := fun v W => run_assert_no (t := 180) Try.underlying176 (by decide) zeroVQ v 169 W
  have t3 := fun v W => run_assert_no (t := 180) Try.underlying178 (by decide) zeroWQ v 169 W
  have t4 := fun v W => run_assert_no (t := 180) Try.underlying179 (by decide) zeroPQ v 169 W
  have t5 := fun v W => run_assert_yes Try.underlying180 v 169 W
  have HR := Lib.hid (show clueB n (5, a, b) = (inB a 0 1 && decide (b = 0)) from rfl)
  rw [HR.out]
  clear HR HM
  have HNN := Lib.hid (HN.out a)
  clear HN
  generalize inB a 0 1 = r at *
  cases r with
  | true =>
    rw [Bool.true_and]
    by_cases hb : b = 0
    · subst hb
      go_enter Try.func143, Try.ntmps143
      go_wp2_with fail
      refine (HQ.out _).mono ?_
      rintro e w1 ⟨rfl, hb1⟩
      obtain ⟨c0, c1, c2⟩ := (hx.now hb1).cells
      clear hx
      go_wp2_with fail
      refine (HNN.out _).mono ?_
      rintro e w2 ⟨rfl, rfl⟩
      go_wp2
      go_ret
      exact ⟨rfl, bfrom b0 hb1⟩
    · rw [decide_eq_false hb]
      go_enter Try.func143, Try.ntmps143
      go_wp2_with fail
      refine (HQ.out _).mono ?_
      rintro e w1 ⟨rfl, hb1⟩
      obtain ⟨c0, c1, c2⟩ := (hx.now hb1).cells
      clear hx
      go_wp2_with fail
      refine (HNN.out _).mono ?_
      rintro e w2 ⟨rfl, rfl⟩
      go_wp2
      go_ret
      exact ⟨by first | rfl | simp [hb], bfrom b0 hb1⟩
  | false =>
    rw [Bool.false_and]
    go_enter Try.func143, Try.ntmps143
    go_wp2_with fail
    refine (HQ.out _).mono ?_
    rintro e w1 ⟨rfl, hb1⟩
    obtain ⟨c0, c1, c2⟩ := (hx.now hb1).cells
    clear hx
    go_wp2_with fail
    refine (HNN.out _).mono ?_
    rintro e w2 ⟨rfl, rfl⟩
    go_wp2
    go_ret
    exact ⟨rfl, bfrom b0 hb1⟩

set_option maxRecDepth 20000 in
set_option maxHeartbeats 4000000 in
theorem isFor_any (n : Nat) (k a b : Int) (w : World) (h1 : 1 ≤ n) (hn : n ≤ 4) :
    Calls Try.prog 143 #[.agg #[.int .i64 k, .int .i64 a, .int .i64 b], .int .i64 n] w fun e w' => e = .returned (.bool (clueB n (k, a, b))) ∧ Below w.heap.size w w' := by
  by_cases hk : 0 ≤ k ∧ k ≤ 5
  · have h : k = 0 ∨ k = 1 ∨ k = 2 ∨ k = 3 ∨ k = 4 ∨ k = 5 := by omega
    rcases h with rfl | rfl | rfl | rfl | rfl | rfl
    · exact isFor0_any n a b w h1 hn
    · exact isFor1_any n a b w h1 hn
    · exact isFor2_any n a b w h1 hn
    · exact isFor3_any n a b w h1 hn
    · exact isFor4_any n a b w h1 hn
    · exact isFor5_any n a b w h1 hn
  · rw [clueB_no hk]
    have b0 := below1 w (.cells #[.int .i64 k, .int .i64 a, .int .i64 b] 90)
    have hx := Bx3.new 90 w (.int .i64 k) (.int .i64 a) (.int .i64 b)
    have HQ := Lib.hid (fun W => questionN_any k a b W hk)
    have t0 := fun W => run_assert_nil Try.underlying172 zeroSQ 169 W
    have t1 := fun W => run_assert_nil Try.underlying174 zeroCQ 169 W
    have t2 := fun W => run_assert_nil Try.underlying176 zeroVQ 169 W
    have t3 := fun W => run_assert_nil Try.underlying178 zeroWQ 169 W
    have t4 := fun W => run_assert_nil Try.underlying179 zeroPQ 169 W
    have t5 := fun W => run_assert_nil Try.underlying180 zeroTQ 169 W
    clear hk
    go_enter Try.func143, Try.ntmps143
    go_wp2_with fail
    refine (HQ.out _).mono ?_
    rintro e w1 ⟨rfl, hb1⟩
    obtain ⟨c0, c1, c2⟩ := (hx.now hb1).cells
    clear hx
    go_wp2
    go_ret
    exact ⟨rfl, bfrom b0 hb1⟩
end Go.Proofs.Ytlcfimddcedbcab
