/- Texts of T12. -/
import Derived.Test.YtnldodnpakpeeaaPkQ11
import Derived.Test.YtnldodnpakpeeaaPkQ04
import Derived.Test.YtnldodnpakpeeaaPkQ07
import Derived.Outline
namespace Go.Proofs.Ytnldodnpakpeeaa
open Go.RowKit Vo

set_option maxHeartbeats 400000 in
theorem isMember_any (n : Nat) (x : Int) (w : World) (_hn : n ≤ 9223372036854775807) :
    Calls Try.prog 178 #[.int .i64 n, .int .i64 x] w fun e w' => e = .returned (.bool (inB x 0 ((n : Int) - 1))) ∧ w = w' := by
  by_cases h1 : 0 ≤ x
  · by_cases h2 : x < n
    · have H := Lib.hid (inB_yes (x := x) (lo := 0) (hi := (n : Int) - 1) h1 (by omega))
      go_enter Try.func178, Try.ntmps178
      go_wp2
      go_ret
      exact ⟨by rw [H.out]; rfl, rfl⟩
    · have H := Lib.hid (inB_no (x := x) (lo := 0) (hi := (n : Int) - 1) (by omega))
      go_enter Try.func178, Try.ntmps178
      go_wp2
      go_ret
      exact ⟨by rw [H.out]; rfl, rfl⟩
  · have H := Lib.hid (inB_no (x := x) (lo := 0) (hi := (n : Int) - 1) (by omega))
    have hd : decide (0 ≤ x) = false := by simpa using h1
    go_enter Try.func178, Try.ntmps178
    go_wp2
    go_ret
    exact ⟨by rw [H.out]; simp, rfl⟩


/-- Is z among the first k? -/
def hasK (xs : List Int) (z : Int) : Nat → Bool
  | 0 => false
  | k+1 => hasK xs z k || decide (xs.getD k 0 = z)
theorem hasK_yes {xs : List Int} {z : Int} {k m : Nat} (hk : k < m) (h : xs.getD k 0 = z) : hasK xs z m = true := by
  induction m with
  | zero => omega
  | succ m ih =>
    simp only [hasK]
    by_cases e : k = m
    · subst e; rw [h]; simp
    · rw [ih (by omega)]; rfl
/-- No two of the first m are the same. -/
def onceK (xs : List Int) (m : Nat) : Bool := allK (fun i => !hasK xs (xs.getD i 0) i) m
def orderB (n : Nat) (xs : List Int) (m : Nat) : Bool := decide (m = n) && (allB 0 ((n : Int) - 1) xs m && onceK xs m)
theorem onceK_succ {xs : List Int} {j : Nat} (h : onceK xs j = true) (h2 : hasK xs (xs.getD j 0) j = false) : onceK xs (j+1) = true := by
  unfold onceK at *
  simp only [allK]; rw [h, h2]; rfl
theorem onceK_no {xs : List Int} {j m : Nat} (hj : j < m) (h : hasK xs (xs.getD j 0) j = true) : onceK xs m = false := allK_false (k := m) j hj (by rw [h]; rfl)
theorem ofK_small {n : Nat} {xs : List Int} {j : Nat} (_hn : n ≤ 9) (h : InK 0 ((n : Int) - 1) xs j) : ofK xs j < 2^n := by
  induction j with
  | zero => exact Nat.two_pow_pos n
  | succ j ih =>
    have h1 := h j (by omega)
    exact Nat.or_lt_two_pow (ih fun i hi => h i (by omega)) (Nat.pow_lt_pow_right (by omega) (by omega))
theorem ofK_has {n : Nat} {xs : List Int} {j z : Nat} (h : InK 0 ((n : Int) - 1) xs j) : (ofK xs j).testBit z = hasK xs (z : Int) j := by
  induction j with
  | zero => simp [ofK, hasK]
  | succ j ih =>
    have h1 := h j (by omega)
    simp only [ofK, hasK]
    rw [Nat.testBit_or, ih fun i hi => h i (by omega), Nat.testBit_two_pow]
    congr 1
    by_cases e : xs.getD j 0 = z
    · rw [e]; simp
    · rw [decide_eq_false e, decide_eq_false (by omega)]

set_option maxHeartbeats 1000000 in
theorem l1Has_any (b off m cap : Nat) (xs : List Int) (z : Int) (w : World) (hm : m ≤ 9223372036854775807) (hsl : Sl w b off m xs) :
    Calls Try.prog 118 #[.slice (some ⟨b, off, none⟩) m cap, .int .i64 z] w fun e w' => e = .returned (.bool (hasK xs z m)) ∧ w = w' := by
  have HSL := Lib.hid hsl
  clear hsl
  have hlt0 := HSL.out.lt
  go_enter Try.func118, Try.ntmps118
  go_wp2
  go_loop [6, 9] (fun _ i => ∃ k : Nat, k ≤ m ∧ i = .int .i64 k ∧ hasK xs z k = false) (fun _ i => m - (intOf i).toNat)
  case atStart => exact ⟨0, Nat.zero_le _, rfl, rfl⟩
  case round =>
    obtain ⟨k, hk, rfl, hin⟩ := hrel
    have HIN := Lib.hid hin
    clear hin
    by_cases hlt : k < m
    · have hcell : w.cell? ⟨b, off + k, none⟩ = some (.int .i64 (xs.getD k 0)) := HSL.out.cell k hlt
      by_cases hw : xs.getD k 0 = z
      · have HY := Lib.hid (hasK_yes hlt hw)
        rw [hw] at hcell
        clear hw
        go_wp2
        go_ret
        exact ⟨by rw [HY.out]; rfl, rfl⟩
      · have HS := Lib.hid (show hasK xs z (k+1) = false from by simp only [hasK]; rw [HIN.out, decide_eq_false hw]; rfl)
        have hbe : (xs.getD k 0 == z) = false := by simpa using hw
        clear hw
        generalize xs.getD k 0 = x at *
        go_wp2
        go_round
        case rel => exact ⟨k + 1, by omega, by go_num, HS.out⟩
        case measure => simp [intOf]; omega
    · obtain rfl : k = m := by omega
      go_wp2
      go_ret
      exact ⟨by rw [HIN.out]; rfl, rfl⟩

end Go.Proofs.Ytnldodnpakpeeaa

namespace Go.Proofs.Ytnldodnpakpeeaa
open Go.RowKit Vo

theorem testBit_orp {s z k : Nat} : (s ||| 2^z).testBit k = (s.testBit k || decide (z = k)) := by rw [Nat.testBit_or, Nat.testBit_two_pow]
theorem wtK_orp {ws : List Int} {s z : Nat} (h : s.testBit z = false) (n : Nat) : wtK ws (s ||| 2^z) n = wtK ws s n + if z < n then ws.getD z 0 else 0 := by
  induction n with
  | zero => simp [wtK]
  | succ n ih =>
    simp only [wtK]; rw [ih, testBit_orp]
    by_cases e : z = n
    · subst e; rw [h]; simp
    · rw [decide_eq_false e, Bool.or_false]
      by_cases h1 : z < n
      · rw [if_pos h1, if_pos (show z < n + 1 by omega)]; omega
      · rw [if_neg h1, if_neg (show ¬ z < n + 1 by omega)]; omega
theorem mem_orp {s z : Nat} (h : s.testBit z = false) (n : Nat) : (mem (s ||| 2^z) n).length = (mem s n).length + if z < n then 1 else 0 := by
  induction n with
  | zero => simp [mem]
  | succ n ih =>
    simp only [mem, List.length_append]; rw [ih, testBit_orp]
    by_cases e : z = n
    · subst e; rw [h]; simp
    · rw [decide_eq_false e, Bool.or_false]
      by_cases h1 : z < n
      · rw [if_pos h1, if_pos (show z < n + 1 by omega)]; omega
      · rw [if_neg h1, if_neg (show ¬ z < n + 1 by omega)]; omega
theorem mem_all {s : Nat} (n : Nat) (h : (mem s n).length = n) (ws : List Int) : wtK ws s n = sumK ws n := by
  induction n with
  | zero => rfl
  | succ n ih =>
    have h1 := mem_len s n
    simp only [mem, List.length_append] at h
    cases hb : s.testBit n
    · rw [hb] at h; simp at h; omega
    · rw [hb] at h
      simp only [wtK, sumK]
      rw [hb, ih (by simpa using h)]
      simp
theorem onceK_at {xs : List Int} {m i : Nat} (h : onceK xs m = true) (hi : i < m) : hasK xs (xs.getD i 0) i = false := by
  have := allK_iff.1 h i hi
  simpa using this
theorem ofK_len {n : Nat} {xs : List Int} {m j : Nat} (h : InK 0 ((n : Int) - 1) xs m) (h2 : onceK xs m = true) (hj : j ≤ m) : (mem (ofK xs j) n).length = j := by
  induction j with
  | zero =>
    have : ∀ k, mem 0 k = [] := mem_zero
    simp [ofK, this]
  | succ j ih =>
    have h1 := h j (by omega)
    obtain ⟨z, hz⟩ : ∃ z : Nat, xs.getD j 0 = z := ⟨(xs.getD j 0).toNat, by omega⟩
    have hb : (ofK xs j).testBit z = false := by rw [ofK_has (h.mono (show j ≤ m by omega)), ← hz]; exact onceK_at h2 (by omega)
    simp only [ofK]
    rw [hz, Int.toNat_natCast, mem_orp hb, ih (by omega), if_pos (by omega)]
theorem wtK_next {n : Nat} {xs ws : List Int} {m j z : Nat} (h : InK 0 ((n : Int) - 1) xs m) (h2 : onceK xs m = true) (hj : j < m) (hz : xs.getD j 0 = z) : wtK ws (ofK xs (j+1)) n = wtK ws (ofK xs j) n + ws.getD z 0 := by
  have h1 := h j (by omega)
  have hb : (ofK xs j).testBit z = false := by rw [ofK_has (h.mono (show j ≤ m by omega)), ← hz]; exact onceK_at h2 (by omega)
  simp only [ofK]
  rw [hz, Int.toNat_natCast, wtK_orp hb, if_pos (by omega)]

/-- The first number from k on, of so many, with p. -/
def pivF (p : Nat → Bool) : Nat → Nat → Nat
  | 0, k => k
  | f+1, k => if p k then k else pivF p f (k+1)
theorem pivF_at {p : Nat → Bool} {k : Nat} : ∀ {f j : Nat}, j ≤ k → k < j + f → (∀ i, j ≤ i → i < k → p i = false) → p k = true → pivF p f j = k := by
  intro f
  induction f with
  | zero => intro j h1 h2; omega
  | succ f ih =>
    intro j h1 h2 h3 h4
    by_cases e : j = k
    · subst e; simp [pivF, h4]
    · simp only [pivF]
      rw [h3 j (Nat.le_refl _) (by omega)]
      exact ih (by omega) (by omega) (fun i h5 h6 => h3 i (by omega) h6) h4
def ordOk (q : Int) (ws : List Int) (n : Nat) (xs : List Int) (m : Nat) : Bool := goodB q ws n && orderB n xs m
def pivV (q : Int) (ws : List Int) (n : Nat) (xs : List Int) (m : Nat) : Int := if ordOk q ws n xs m then xs.getD (pivF (fun i => winB q ws n (ofK xs (i+1))) m 0) 0 else 0
theorem pivV_no {q ws n xs m} (h : ordOk q ws n xs m = false) : pivV q ws n xs m = 0 := if_neg (by rw [h]; simp)
theorem pivV_at {q ws n xs m} {k : Nat} (h : ordOk q ws n xs m = true) (hk : k < m) (h1 : ∀ i, i < k → winB q ws n (ofK xs (i+1)) = false) (h2 : winB q ws n (ofK xs (k+1)) = true) : pivV q ws n xs m = xs.getD k 0 := by
  rw [pivV, if_pos h, pivF_at (p := fun i => winB q ws n (ofK xs (i+1))) (k := k) (Nat.zero_le _) (by omega) (fun i _ hi => h1 i hi) h2]
structure Ord (q : Int) (ws : List Int) (n : Nat) (xs : List Int) (m : Nat) : Prop where
  good : Vo.Good q ws n
  len : m = n
  inr : InK 0 ((n : Int) - 1) xs m
  once : onceK xs m = true
theorem ordOk_parts {q ws n xs m} (h : ordOk q ws n xs m = true) : Ord q ws n xs m := by
  unfold ordOk orderB goodB allB at h
  simp at h
  exact ⟨h.1, h.2.1, h.2.2.1, h.2.2.2⟩
theorem Ord.all {q ws n xs m} (h : Ord q ws n xs m) : winB q ws n (ofK xs m) = true := by
  have h1 := ofK_len h.inr h.once (Nat.le_refl m)
  have h2 := mem_all n (s := ofK xs m) (by rw [h1, h.len]) ws
  unfold winB
  rw [h2]
  exact decide_eq_true h.good.q2
theorem Ord.none {q ws n xs m} (h : Ord q ws n xs m) : winB q ws n (ofK xs 0) = false := by
  have : ∀ k, wtK ws 0 k = 0 := by
    intro k
    induction k with
    | zero => rfl
    | succ k ih => simp only [wtK]; rw [ih]; simp
  unfold winB
  rw [show ofK xs 0 = 0 from rfl, this n]
  have := h.good.q1
  exact decide_eq_false (by omega)
end Go.Proofs.Ytnldodnpakpeeaa
