/- Contracts of members asked for, and of SwingsBySize, the program's and the model's. -/
import Derived.Test.YtipplbcjdcdapabN7
import Derived.Outline
namespace Go.Proofs.Ytipplbcjdcdapab
open Go.RowKit Vo

/-- There are a committee and a member of it. -/
def memOk (q : Int) (ws : List Int) (n : Nat) (x : Int) : Bool := goodB q ws n && inB x 0 ((n : Int) - 1)
theorem memOk_parts {q ws n x} (h : memOk q ws n x = true) : Vo.Good q ws n ∧ 0 ≤ x ∧ x < n := by
  unfold memOk goodB inB at h
  simp at h
  exact ⟨h.1, h.2.1, by omega⟩

set_option maxHeartbeats 400000 in
theorem isMember_any (n : Nat) (x : Int) (w : World) (_hn : n ≤ 9223372036854775807) :
    Calls Try.prog 76 #[.int .i64 n, .int .i64 x] w fun e w' => e = .returned (.bool (inB x 0 ((n : Int) - 1))) ∧ w = w' := by
  by_cases h1 : 0 ≤ x
  · by_cases h2 : x < n
    · have H := Lib.hid (inB_yes (x := x) (lo := 0) (hi := (n : Int) - 1) h1 (by omega))
      go_enter Try.func76, Try.ntmps76
      go_wp2
      go_ret
      exact ⟨by rw [H.out]; rfl, rfl⟩
    · have H := Lib.hid (inB_no (x := x) (lo := 0) (hi := (n : Int) - 1) (by omega))
      go_enter Try.func76, Try.ntmps76
      go_wp2
      go_ret
      exact ⟨by rw [H.out]; rfl, rfl⟩
  · have H := Lib.hid (inB_no (x := x) (lo := 0) (hi := (n : Int) - 1) (by omega))
    have hd : decide (0 ≤ x) = false := by simpa using h1
    go_enter Try.func76, Try.ntmps76
    go_wp2
    go_ret
    exact ⟨by rw [H.out]; simp, rfl⟩

set_option maxHeartbeats 1000000 in
theorem pwMember_any (q : Int) (A : Option Addr) (n cap : Nat) (ws : List Int) (x : Int) (w : World) (hm : n ≤ 9223372036854775807) (hk : Known w A n ws) :
    Calls Try.prog 72 #[.agg #[.int .i64 q, .slice A n cap], .int .i64 x] w fun e w' => e = .returned (.bool (memOk q ws n x)) ∧ Below w.heap.size w w' := by
  have HK := Lib.hid hk
  clear hk
  have hx := Box.new w (.int .i64 q) (.slice A n cap)
  have hb0 := below1 w (.cells #[.int .i64 q, .slice A n cap] 41)
  by_cases hg : Vo.Good q ws n
  · have HGB := Lib.hid (goodB_true hg)
    have hn9 := hg.hi
    clear hg
    go_enter Try.func72, Try.ntmps72
    go_wp2_with fail
    refine (voGood_any q A n cap ws _ hm (HK.out.now hb0)).mono ?_
    rintro e w1 ⟨rfl, hb⟩
    rw [HGB.out]
    obtain ⟨hc0, hc1⟩ := (hx.now hb).cells
    go_wp2_with (go_at_call 62; refine (l1In_any x 0 _ _).mono ?_; rintro e w2 ⟨rfl, rfl⟩)
    go_ret
    exact ⟨by unfold memOk; rw [HGB.out]; simp, bfrom hb0 hb⟩
  · have HGB := Lib.hid (goodB_false hg)
    clear hg
    go_enter Try.func72, Try.ntmps72
    go_wp2_with fail
    refine (voGood_any q A n cap ws _ hm (HK.out.now hb0)).mono ?_
    rintro e w1 ⟨rfl, hb⟩
    rw [HGB.out]
    go_wp2
    go_ret
    exact ⟨by unfold memOk; rw [HGB.out]; simp, bfrom hb0 hb⟩

theorem Ans.none_ {w w' : World} (hb : Below w.heap.size w w') : Ans (RS []) false w w' (.returned (.tuple #[.slice none 0 0, .bool false])) :=
  ⟨_, rfl, RS.lies ⟨none, 0, rfl, Or.inl rfl⟩ (Nat.le_refl _), hb⟩

/-- How many swings of a member have 0, 1, .. members. -/
def bySizeL (q : Int) (ws : List Int) (n : Nat) (x : Int) : List Int := okL (memOk q ws n x) (perL (sizN (winB q ws n) x.toNat (2^n)) n)
theorem bySizeL_len (q : Int) (ws : List Int) (n : Nat) (x : Int) : (bySizeL q ws n x).length ≤ 1048576 := by
  cases h : memOk q ws n x with
  | true => exact okL_len (by rw [perL_len]; have := (memOk_parts h).1.hi; omega)
  | false => unfold bySizeL; rw [okL_no h]; simp

/-- How many of these sets have a size. -/
def sizL (L : List Nat) (z : Nat) : Nat := (L.filter fun s => decide (sz s = z)).length
theorem sizL_swL (p : Nat → Bool) (k N z : Nat) : sizL (swL p k N) z = sizN p k N z := by
  induction N with
  | zero => rfl
  | succ N ih =>
    rw [sizN_succ, ← ih, swL_succ]
    unfold sizL
    rw [List.filter_append, List.length_append]
    congr 1
    cases swP p k N
    · simp
    · by_cases h : sz N = z
      · simp [h]
      · simp [h]
theorem sizL_take {L : List Nat} {j : Nat} (z : Nat) (h : j < L.length) : sizL (L.take (j+1)) z = sizL (L.take j) z + if sz (L.getD j 0) = z then 1 else 0 := by
  unfold sizL
  rw [List.take_add_one, List.filter_append, List.length_append, List.getElem?_eq_getElem h, List.getD_eq_getElem?_getD, List.getElem?_eq_getElem h]
  congr 1
  by_cases e : sz L[j] = z
  · simp [e]
  · simp [e]
theorem sizL_le (L : List Nat) (j z : Nat) : sizL (L.take j) z ≤ j := Nat.le_trans (List.length_filter_le _ _) (List.length_take_le j L)

end Go.Proofs.Ytipplbcjdcdapab
