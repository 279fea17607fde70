/- The best of some numbers; contracts of the program's bestOf of integers, of QuotasOfPower. -/
import Derived.Test.YtlnlkfldlgchhabPd
import Derived.Test.YtlnlkfldlgchhabN7
import Derived.Test.YtlnlkfldlgchhabD1
import Derived.Outline
namespace Go.Proofs.Ytlnlkfldlgchhab.Vo

/-- The greatest value of the numbers 1 .. j, and where it is. -/
def bstM (f : Nat → Nat) : Nat → Nat
  | 0 => 0
  | j+1 => if j = 0 ∨ bstM f j < f (j+1) then f (j+1) else bstM f j
def bstL (f : Nat → Nat) : Nat → List Int
  | 0 => []
  | j+1 => if j = 0 ∨ bstM f j < f (j+1) then [((j+1 : Nat) : Int)] else if f (j+1) = bstM f j then bstL f j ++ [((j+1 : Nat) : Int)] else bstL f j
theorem bstL_le (f : Nat → Nat) (j : Nat) : (bstL f j).length ≤ j := by
  induction j with
  | zero => exact Nat.le_refl _
  | succ j ih =>
    simp only [bstL]
    split
    · simp
    · split
      · simp; omega
      · omega
theorem bstL_pos (f : Nat → Nat) {j : Nat} (h : 0 < j) : 0 < (bstL f j).length := by
  induction j with
  | zero => omega
  | succ j ih =>
    simp only [bstL]
    split
    · simp
    · rename_i h'
      split
      · simp
      · exact ih (by omega)
theorem bst_new {f : Nat → Nat} {j : Nat} (h : j = 0 ∨ bstM f j < f (j+1)) : bstM f (j+1) = f (j+1) ∧ bstL f (j+1) = [((j+1 : Nat) : Int)] := by
  constructor
  · simp only [bstM]; rw [if_pos h]
  · simp only [bstL]; rw [if_pos h]
theorem bst_same {f : Nat → Nat} {j : Nat} (h0 : j ≠ 0) (h : f (j+1) = bstM f j) : bstM f (j+1) = bstM f j ∧ bstL f (j+1) = bstL f j ++ [((j+1 : Nat) : Int)] := by
  constructor
  · simp only [bstM]; rw [if_neg (by omega)]
  · simp only [bstL]; rw [if_neg (by omega), if_pos h]
theorem bst_less {f : Nat → Nat} {j : Nat} (h0 : j ≠ 0) (h : f (j+1) < bstM f j) : bstM f (j+1) = bstM f j ∧ bstL f (j+1) = bstL f j := by
  constructor
  · simp only [bstM]; rw [if_neg (by omega)]
  · simp only [bstL]; rw [if_neg (by omega), if_neg (by omega)]
theorem bstM_le {f : Nat → Nat} {B : Nat} (h : ∀ j, f j ≤ B) (j : Nat) : bstM f j ≤ B := by
  induction j with
  | zero => exact Nat.zero_le _
  | succ j ih => simp only [bstM]; split <;> simp [h, ih]
end Go.Proofs.Ytlnlkfldlgchhab.Vo

namespace Go.Proofs.Ytlnlkfldlgchhab
open Go.RowKit Vo

/-- -1, 0 or 1. -/
def cmpI (x y : Int) : Int := if x < y then -1 else if x = y then 0 else 1
theorem cmpI_lt {x y : Int} (h : x < y) : cmpI x y = -1 := if_pos h
theorem cmpI_eq (x : Int) : cmpI x x = 0 := by unfold cmpI; rw [if_neg (by omega), if_pos rfl]
theorem cmpI_gt {x y : Int} (h : y < x) : cmpI x y = 1 := by unfold cmpI; rw [if_neg (by omega), if_neg (by omega)]
set_option maxHeartbeats 1000000 in
theorem isNaNI_any (x : Int) (w : World) : Calls Try.prog 146 #[.int .i64 x] w fun e w' => e = .returned (.bool false) ∧ w = w' := by
  go_enter Try.func146, Try.ntmps146
  go_wp2
  go_ret
  exact ⟨by simp, rfl⟩
set_option maxHeartbeats 1000000 in
theorem compareI_any (x y : Int) (w : World) : Calls Try.prog 95 #[.int .i64 x, .int .i64 y] w fun e w' => e = .returned (.int .i64 (cmpI x y)) ∧ w = w' := by
  rcases Int.lt_trichotomy x y with h | h | h
  · have HC := Lib.hid (cmpI_lt h)
    go_enter Try.func95, Try.ntmps95
    go_wp2_with (go_at_call 146; refine (isNaNI_any _ _).mono ?_; rintro e w' ⟨rfl, rfl⟩)
    go_ret
    exact ⟨by rw [HC.out]; rfl, rfl⟩
  · subst h
    have HC := Lib.hid (cmpI_eq x)
    go_enter Try.func95, Try.ntmps95
    go_wp2_with (go_at_call 146; refine (isNaNI_any _ _).mono ?_; rintro e w' ⟨rfl, rfl⟩)
    go_ret
    exact ⟨by rw [HC.out]; rfl, rfl⟩
  · have HC := Lib.hid (cmpI_gt h)
    have h2 : ¬ x < y := by omega
    go_enter Try.func95, Try.ntmps95
    go_wp2_with (go_at_call 146; refine (isNaNI_any _ _).mono ?_; rintro e w' ⟨rfl, rfl⟩)
    go_ret
    exact ⟨by rw [HC.out]; rfl, rfl⟩

/-- The function value (k, cap), called with a number of 1 .. T, answers its value. -/
structure Vals (f : Nat → Nat) (T : Nat) (k : Nat) (cap : Array Value) (w : World) : Prop where
  enters : ∀ args W, (callFunc k args).run Try.prog W = .ok (.enter k args) W
  gives : ∀ (W : World) (j : Nat), 1 ≤ j → j ≤ T → Below w.heap.size w W → Calls Try.prog k ((#[] : Array Value).push (.int .i64 j) ++ cap) W fun e W' => e = .returned (.tuple #[.int .i64 (f j : Nat), .bool true]) ∧ Below W.heap.size W W'
theorem Vals.now {f T k cap} {w w' : World} (h : Vals f T k cap w) (hb : Below w.heap.size w w') : Vals f T k cap w' := ⟨h.enters, fun W j h1 h2 hb' => h.gives W j h1 h2 (bfrom hb hb')⟩

set_option maxRecDepth 20000 in
set_option maxHeartbeats 4000000 in
theorem bestOfI_any (f : Nat → Nat) (T k : Nat) (cap : Array Value) (w : World) (hT : T ≤ 1000) (hf : ∀ j, f j ≤ 100000000000000) (hv : Vals f T k cap w) :
    Calls Try.prog 94 #[.int .i64 1, .int .i64 T, .func (.func k) #[] cap, .func (.func 95) #[] #[]] w fun e w' => IntsAt (bstL f T) w w' e := by
  obtain ⟨i0, hi0, hz0, hz1, hz2⟩ := infoIntParts
  have HV := Lib.hid hv
  have HF := Lib.hid hf
  have eg := hv.enters
  have eg2 : ∀ args W, (callFunc 95 args).run Try.prog W = .ok (.enter 95 args) W := enters_of Try.func95 (by kernel_rfl) rfl
  have HCP := Lib.hid compareI_any
  have HM := Lib.hid (bstM_le hf)
  clear hv hf
  go_enter Try.func94, Try.ntmps94
  go_wp2_with fail
  go_loopw [9, 10, 11, 12, 13] (fun u m i _ _ wr => ∃ (j : Nat) (A : Option Addr) (cp : Nat), j ≤ T ∧ i = .int .i64 ((j : Int) + 1) ∧ m = .int .i64 (bstM f j : Nat) ∧ u = .slice A (bstL f j).length cp ∧ wr.ownsRow w.heap.size 3 1 (.slice A (bstL f j).length cp) (bstL f j).length ((bstL f j).map (Value.int .i64)) ∧ Below w.heap.size w wr) (fun _ _ i _ _ _ => T + 1 - (intOf i).toNat)
  case atStart => exact ⟨0, none, 0, Nat.zero_le _, rfl, rfl, rfl, World.ownsRow_nil _ _ _ _, Below.refl _ _⟩
  case round =>
    obtain ⟨j, A, cp, hj, rfl, rfl, rfl, hown, hbr⟩ := hrel
    have HO := Lib.hid hown
    have hszr := hbr.size
    have hlen := bstL_le f j
    clear hown
    by_cases hlt : j < T
    · have hj1 : ((j + 1 : Nat) : Int) = (j : Int) + 1 := by omega
      have HG := Lib.hid (HV.out.gives wr (j+1) (by omega) (by omega) hbr)
      rw [hj1] at HG
      have hv1 := HF.out (j+1)
      have hm1 := HM.out j
      have hTi : (j : Int) + 1 ≤ T := by omega
      obtain ⟨v, hvv⟩ : ∃ v, v = f (j+1) := ⟨_, rfl⟩
      obtain ⟨m, hmm⟩ : ∃ m, m = bstM f j := ⟨_, rfl⟩
      obtain ⟨ln, hln⟩ : ∃ ln, ln = (bstL f j).length := ⟨_, rfl⟩
      rw [← hvv] at HG hv1
      rw [← hmm] at hm1
      rw [← hln] at HO hlen
      rw [← hmm, ← hln]
      by_cases hnew : j = 0 ∨ bstM f j < f (j+1)
      · obtain ⟨eM, eL⟩ := bst_new hnew
        have HEM := Lib.hid (show bstM f (j+1) = v from eM.trans hvv.symm)
        have HEL := Lib.hid eL
        rw [hj1] at HEL
        have HCE := Lib.hid (cmpI_eq (v : Int))
        clear eM eL
        by_cases h0 : j = 0
        · have hl0 : ln = 0 := by rw [hln, h0]; rfl
          clear hvv hmm hln hnew h0
          subst hl0
          go_wp2_with (first
            | (go_at_fn k; refine HG.out.mono ?_; rintro e w5 ⟨rfl, hb5⟩)
            | (go_at_fn 95; (with_reducible refine (HCP.out (v : Int) (v : Int) _).mono ?_); rintro e w7 ⟨rfl, rfl⟩; rw [HCE.out])
            | (at_builtin; refine wpList_append_lies _ rfl _ _ _ rfl w.heap.size 3 i0 _ 1 8 Try.underlying22 hi0 hz0 hz1 hz2 rfl (by decide) (.slice none 0 0) 0 [] rfl (World.ownsRow_nil _ _ _ _) ⟨w5.heap.size, 0, none⟩ 1 1 [.int .i64 ((j : Int) + 1)] rfl rfl (World.news_of_block (cs := #[.int .i64 ((j : Int) + 1)]) (t := 3) (fr := (0, 0)) (heap_alloc_new w5 _)) (by simp [Value.oneCell']) (by omega) (by unfold maxLen; omega) (by omega) (by have := hb5.size; simp; omega) (w5.heap.size + 1) (by simp) ?_; intro gg cap4 w6 hown6 hgrow6 hat hlt6)
            | fail)
          have b5 := hbr.trans (hb5.mono hszr)
          have b6 : Below w.heap.size w w6 := (b5.alloc b5.size (.cells #[.int .i64 ((j : Int) + 1)] 3)).grown hgrow6 (by have := b5.size; simp; omega) fun i hi => by cases hi
          go_roundw
          case rel => exact ⟨j + 1, some ⟨gg, 0, none⟩, cap4, by omega, by go_num, by rw [HEM.out], by rw [HEL.out]; simp, by rw [HEL.out]; simpa using hown6, b6⟩
          case measure => simp [intOf]; omega
        · have hlp : 0 < ln := by rw [hln]; exact bstL_pos f (by omega)
          have hlt2 : m < v := by rw [hmm, hvv]; omega
          have HCG := Lib.hid (cmpI_gt (show (m : Int) < v by omega))
          have hln0 : ((ln : Int) == 0) = false := by simp; omega
          clear hvv hmm hln hnew
          go_wp2_with (first
            | (go_at_fn k; refine HG.out.mono ?_; rintro e w5 ⟨rfl, hb5⟩)
            | (go_at_fn 95; (with_reducible refine (HCP.out (v : Int) (m : Int) _).mono ?_); rintro e w7 ⟨rfl, rfl⟩; rw [HCG.out])
            | (go_at_fn 95; (with_reducible refine (HCP.out (v : Int) (v : Int) _).mono ?_); rintro e w7 ⟨rfl, rfl⟩; rw [HCE.out])
            | (at_builtin; refine wpList_append_lies _ rfl _ _ _ rfl w.heap.size 3 i0 _ 1 8 Try.underlying22 hi0 hz0 hz1 hz2 rfl (by decide) (.slice none 0 0) 0 [] rfl (World.ownsRow_nil _ _ _ _) ⟨w5.heap.size, 0, none⟩ 1 1 [.int .i64 ((j : Int) + 1)] rfl rfl (World.news_of_block (cs := #[.int .i64 ((j : Int) + 1)]) (t := 3) (fr := (0, 0)) (heap_alloc_new w5 _)) (by simp [Value.oneCell']) (by omega) (by unfold maxLen; omega) (by omega) (by have := hb5.size; simp; omega) (w5.heap.size + 1) (by simp) ?_; intro gg cap4 w6 hown6 hgrow6 hat hlt6)
            | fail)
          have b5 := hbr.trans (hb5.mono hszr)
          have b6 : Below w.heap.size w w6 := (b5.alloc b5.size (.cells #[.int .i64 ((j : Int) + 1)] 3)).grown hgrow6 (by have := b5.size; simp; omega) fun i hi => by cases hi
          go_roundw
          case rel => exact ⟨j + 1, some ⟨gg, 0, none⟩, cap4, by omega, by go_num, by rw [HEM.out], by rw [HEL.out]; simp, by rw [HEL.out]; simpa using hown6, b6⟩
          case measure => simp [intOf]; omega
      · have h0 : j ≠ 0 := by omega
        have hlp : 0 < ln := by rw [hln]; exact bstL_pos f (by omega)
        have hln0 : ((ln : Int) == 0) = false := by simp; omega
        by_cases hsame : f (j+1) = bstM f j
        · obtain ⟨eM, eL⟩ := bst_same h0 hsame
          have HEM := Lib.hid (show bstM f (j+1) = m from eM.trans hmm.symm)
          have HEL := Lib.hid eL
          rw [hj1] at HEL
          have HLN := Lib.hid hln
          obtain rfl : v = m := by rw [hvv, hmm]; exact hsame
          have HCE := Lib.hid (cmpI_eq (v : Int))
          clear eM eL hvv hmm hln hnew hsame
          go_wp2_with (first
            | (go_at_fn k; refine HG.out.mono ?_; rintro e w5 ⟨rfl, hb5⟩; have HO5 := Lib.hid (owns_now HO.out hb5))
            | (go_at_fn 95; (with_reducible refine (HCP.out (v : Int) (v : Int) _).mono ?_); rintro e w7 ⟨rfl, rfl⟩; rw [HCE.out])
            | (at_builtin; refine wpList_append_lies _ rfl _ _ _ rfl w.heap.size 3 i0 _ 1 8 Try.underlying22 hi0 hz0 hz1 hz2 rfl (by decide) (.slice A ln cp) ln ((bstL f j).map (Value.int .i64)) rfl (HO5.out.alloc _) ⟨w5.heap.size, 0, none⟩ 1 1 [.int .i64 ((j : Int) + 1)] rfl rfl (World.news_of_block (cs := #[.int .i64 ((j : Int) + 1)]) (t := 3) (fr := (0, 0)) (heap_alloc_new w5 _)) (by simp [Value.oneCell']) (by omega) (by unfold maxLen; omega) (by omega) (by have := hb5.size; simp; omega) (w5.heap.size + 1) (by simp) ?_; intro gg cap4 w6 hown6 hgrow6 hat hlt6)
            | fail)
          have b5 := hbr.trans (hb5.mono hszr)
          have b6 : Below w.heap.size w w6 := (b5.alloc b5.size (.cells #[.int .i64 ((j : Int) + 1)] 3)).grown hgrow6 (by have := b5.size; simp; omega) fun i hi => owns_le HO5.out hi
          go_roundw
          case rel => exact ⟨j + 1, some ⟨gg, 0, none⟩, cap4, by omega, by go_num, by rw [HEM.out], by rw [HEL.out, HLN.out]; simp, by rw [HEL.out]; simpa [HLN.out] using hown6, b6⟩
          case measure => simp [intOf]; omega
        · obtain ⟨eM, eL⟩ := bst_less h0 (show f (j+1) < bstM f j by omega)
          have HEM := Lib.hid (show bstM f (j+1) = m from eM.trans hmm.symm)
          have HEL := Lib.hid eL
          have HLN := Lib.hid hln
          have hlt2 : v < m := by rw [hmm, hvv]; omega
          have HCL := Lib.hid (cmpI_lt (show (v : Int) < m by omega))
          clear eM eL hvv hmm hln hnew hsame
          go_wp2_with (first
            | (go_at_fn k; refine HG.out.mono ?_; rintro e w5 ⟨rfl, hb5⟩; have HO5 := Lib.hid (owns_now HO.out hb5))
            | (go_at_fn 95; (with_reducible refine (HCP.out (v : Int) (m : Int) _).mono ?_); rintro e w7 ⟨rfl, rfl⟩; rw [HCL.out])
            | fail)
          have b5 := hbr.trans (hb5.mono hszr)
          go_roundw
          case rel => exact ⟨j + 1, A, cp, by omega, by go_num, by rw [HEM.out], by rw [HEL.out, HLN.out], by rw [HEL.out, ← HLN.out]; exact HO5.out, b5⟩
          case measure => simp [intOf]; omega
    · obtain rfl : j = T := by omega
      go_wp2
      go_ret
      exact ⟨A, cp, rfl, HO.out, hbr⟩
end Go.Proofs.Ytlnlkfldlgchhab
