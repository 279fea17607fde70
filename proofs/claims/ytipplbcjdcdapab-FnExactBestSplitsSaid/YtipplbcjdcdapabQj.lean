/- Contract of the program's BestSplits. -/
import Derived.Test.YtipplbcjdcdapabPw
import Derived.Outline
import Derived.Test.YtipplbcjdcdapabPz
import Derived.Test.YtipplbcjdcdapabPo
import Derived.Test.YtipplbcjdcdapabN7
import Derived.RegionTactic
import Derived.ChangeAlike
namespace Go.Proofs.Ytipplbcjdcdapab.Vo

/-- Where the greatest value of the first j is, the first of them: c says how two values compare. -/
def bsI (c : Nat → Nat → Int) : Nat → Nat
  | 0 => 0
  | j+1 => if j = 0 ∨ 0 < c j (bsI c j) then j else bsI c j
def bsL (c : Nat → Nat → Int) : Nat → List Int
  | 0 => []
  | j+1 => if j = 0 ∨ 0 < c j (bsI c j) then [(j : Int)] else if c j (bsI c j) = 0 then bsL c j ++ [(j : Int)] else bsL c j
theorem bsL_le (c : Nat → Nat → Int) (j : Nat) : (bsL c j).length ≤ j := by
  induction j with
  | zero => exact Nat.le_refl _
  | succ j ih =>
    simp only [bsL]
    split
    · simp
    · split
      · simp; omega
      · omega
theorem bsL_pos (c : Nat → Nat → Int) {j : Nat} (h : 0 < j) : 0 < (bsL c j).length := by
  induction j with
  | zero => omega
  | succ j ih =>
    simp only [bsL]
    split
    · simp
    · rename_i h'
      split
      · simp
      · exact ih (by omega)
theorem bsI_le (c : Nat → Nat → Int) (j : Nat) : bsI c j ≤ j := by
  induction j with
  | zero => exact Nat.le_refl _
  | succ j ih => simp only [bsI]; split <;> omega
theorem bs_new {c : Nat → Nat → Int} {j : Nat} (h : j = 0 ∨ 0 < c j (bsI c j)) : bsI c (j+1) = j ∧ bsL c (j+1) = [(j : Int)] := by
  constructor
  · simp only [bsI]; rw [if_pos h]
  · simp only [bsL]; rw [if_pos h]
theorem bs_same {c : Nat → Nat → Int} {j : Nat} (h0 : j ≠ 0) (h : c j (bsI c j) = 0) : bsI c (j+1) = bsI c j ∧ bsL c (j+1) = bsL c j ++ [(j : Int)] := by
  constructor
  · simp only [bsI]; rw [if_neg (by omega)]
  · simp only [bsL]; rw [if_neg (by omega), if_pos h]
theorem bs_less {c : Nat → Nat → Int} {j : Nat} (h0 : j ≠ 0) (h : c j (bsI c j) < 0) : bsI c (j+1) = bsI c j ∧ bsL c (j+1) = bsL c j := by
  constructor
  · simp only [bsI]; rw [if_neg (by omega)]
  · simp only [bsL]; rw [if_neg (by omega), if_neg (by omega)]
end Go.Proofs.Ytipplbcjdcdapab.Vo

namespace Go.Proofs.Ytipplbcjdcdapab
open Go.RowKit Vo

/-- The function value (k, cap), called with a number of 0 .. T, answers its share. -/
structure ValsS (P R : Nat → Nat) (T k : Nat) (cap : Array Value) (w : World) : Prop where
  enters : ∀ args W, (callFunc k args).run Try.prog W = .ok (.enter k args) W
  gives : ∀ (W : World) (j : Nat), j ≤ T → Below w.heap.size w W → Calls Try.prog k ((#[] : Array Value).push (.int .i64 j) ++ cap) W fun e W' => e = .returned (.tuple #[.agg #[.int .i64 (P j : Nat), .int .i64 (R j : Nat)], .bool true]) ∧ Below W.heap.size W W'

set_option maxRecDepth 20000 in
set_option maxHeartbeats 4000000 in
theorem bestOfS_any (c : Nat → Nat → Int) (P R : Nat → Nat) (T k : Nat) (cap : Array Value) (w : World) (hT : T ≤ 20) (hc : ∀ i m, i ≤ T → m ≤ T → cmpR (P i : Nat) (R i : Nat) (P m : Nat) (R m : Nat) = c i m) (hz : ∀ i, c i i = 0) (hv : ValsS P R T k cap w) :
    Calls Try.prog 51 #[.int .i64 0, .int .i64 T, .func (.func k) #[] cap, .func (.func 52) #[] #[]] w fun e w' => IntsAt (bsL c (T + 1)) w w' e := by
  obtain ⟨i0, hi0, hz0, hz1, hz2⟩ := infoIntParts
  have HV := Lib.hid hv
  have eg := hv.enters
  have eg2 : ∀ args W, (callFunc 52 args).run Try.prog W = .ok (.enter 52 args) W := enters_of Try.func52 (by kernel_rfl) rfl
  have HC := Lib.hid hc
  have HZ := Lib.hid hz
  clear hv hc hz
  go_enter Try.func51, Try.ntmps51
  go_wp2_with fail
  go_loopw [9, 11, 12, 13] (fun u i _ _ wr => ∃ (j : Nat) (A : Option Addr) (cp pm rm : Nat), j ≤ T + 1 ∧ i = .int .i64 j ∧ u = .slice A (bsL c j).length cp ∧ wr.ownsRow (w.heap.size + 1) 3 1 (.slice A (bsL c j).length cp) (bsL c j).length ((bsL c j).map (Value.int .i64)) ∧ (j ≠ 0 → pm = P (bsI c j) ∧ rm = R (bsI c j)) ∧ BoxT 78 wr w.heap.size (.int .i64 pm) (.int .i64 rm) ∧ Below w.heap.size w wr) (fun _ i _ _ _ => T + 1 - (intOf i).toNat)
  case atStart => exact ⟨0, none, 0, 0, 0, Nat.zero_le _, rfl, rfl, World.ownsRow_nil _ _ _ _, fun h => absurd rfl h, BoxT.new _ _ _ _, below1 _ _⟩
  case round =>
    obtain ⟨j, A, cp, pm, rm, hj, rfl, rfl, hown, hpm, hbm, hbr⟩ := hrel
    have HO := Lib.hid hown
    have hszr := hbr.size
    have hgl := hbm.lt
    have hlen := bsL_le c j
    clear hown
    by_cases hlt : j ≤ T
    · have HG := Lib.hid (HV.out.gives wr j hlt hbr)
      have HCZ := Lib.hid ((HC.out j j hlt hlt).trans (HZ.out j))
      have hmT : bsI c j ≤ T := Nat.le_trans (bsI_le c j) hlt
      have HCM := Lib.hid (HC.out j (bsI c j) hlt hmT)
      obtain ⟨p, hp⟩ : ∃ p, p = P j := ⟨_, rfl⟩
      obtain ⟨r, hr⟩ : ∃ r, r = R j := ⟨_, rfl⟩
      obtain ⟨ln, hln⟩ : ∃ ln, ln = (bsL c j).length := ⟨_, rfl⟩
      rw [← hp, ← hr] at HG HCZ
      rw [← hp, ← hr] at HCM
      rw [← hln] at HO hlen
      rw [← hln]
      have hjT : (j : Int) ≤ T := by omega
      by_cases hnew : j = 0 ∨ 0 < c j (bsI c j)
      · obtain ⟨eM, eL⟩ := bs_new hnew
        have HEM := Lib.hid (show p = P (bsI c (j+1)) ∧ r = R (bsI c (j+1)) from ⟨by rw [eM, hp], by rw [eM, hr]⟩)
        have HEL := Lib.hid eL
        clear eM eL
        by_cases h0 : j = 0
        · have hl0 : ln = 0 := by rw [hln, h0]; rfl
          clear hpm HCM hln hnew h0 hp hr hmT
          subst hl0
          go_wp2_with fail
          go_at_fn k
          refine HG.out.mono ?_
          rintro e w5 ⟨rfl, hb5⟩
          have m5 := (hbm.now hb5).alloc (.cells #[.int .i64 p, .int .i64 r] 78)
          have n5 := BoxT.new 78 w5 (.int .i64 p) (.int .i64 r)
          have O5 := Lib.hid ((owns_now HO.out hb5).alloc (.cells #[.int .i64 p, .int .i64 r] 78))
          have b5 := hbr.trans ((bfrom hb5 (below1 w5 (.cells #[.int .i64 p, .int .i64 r] 78))).mono hszr)
          have hgw : w.heap.size < w5.heap.size := (hbm.now hb5).lt
          obtain ⟨d0, d1⟩ := n5.cells
          obtain ⟨e0, e1⟩ := m5.cells
          go_wp2_with fail
          obtain ⟨W5, hW5⟩ : ∃ W, W = w5.alloc (.cells #[.int .i64 p, .int .i64 r] 78) := ⟨_, rfl⟩
          rw [← hW5] at m5 n5 O5 b5 d0 d1 e0 e1 ⊢
          clear hW5
          have hz5 : w.heap.size + 1 ≤ W5.heap.size := m5.lt
          obtain ⟨f0, f1⟩ := frozen2 m5
          go_region
          have m6 := (box_put2 m5 (.int .i64 p) (.int .i64 r)).drew
          have n6 := ((n5.far (p := ⟨w.heap.size, 0, none⟩) (by simp; omega) (.int .i64 p)).far (p := ⟨w.heap.size, 1, none⟩) (by simp; omega) (.int .i64 r)).drew
          have b6 := ((b5.setCell (p := ⟨w.heap.size, 0, none⟩) (by simp) (.int .i64 p)).setCell (p := ⟨w.heap.size, 1, none⟩) (by simp) (.int .i64 r)).drew
          clear d0 d1 e0 e1 f0 f1 m5 n5
          obtain ⟨W6, hW6⟩ : ∃ W, W = ((W5.setCell ⟨w.heap.size, 0, none⟩ (.int .i64 p)).setCell ⟨w.heap.size, 1, none⟩ (.int .i64 r)).drew := ⟨_, rfl⟩
          rw [← hW6] at m6 n6 b6 ⊢
          have hz6 : w.heap.size + 1 ≤ W6.heap.size := m6.lt
          clear hW6
          obtain ⟨d0, d1⟩ := n6.cells
          obtain ⟨e0, e1⟩ := m6.cells
          go_wp2_with fail
          go_at_fn 52
          refine (compareShares1_any p r p r _).mono ?_
          rintro e w7 ⟨rfl, hb7⟩
          rw [HCZ.out]
          have m7 := m6.now hb7
          have n7 := n6.now hb7
          have b7 := b6.trans (hb7.mono (Nat.le_trans (Nat.le_succ _) hz6))
          have hz7 : w.heap.size + 1 ≤ w7.heap.size := m7.lt
          clear d0 d1 e0 e1
          obtain ⟨d0, d1⟩ := n7.cells
          obtain ⟨e0, e1⟩ := m7.cells
          go_wp2_with (first
            | (at_builtin; refine wpList_append_lies _ rfl _ _ _ rfl (w.heap.size + 1) 3 i0 _ 1 8 Try.underlying26 hi0 hz0 hz1 hz2 rfl (by decide) (.slice none 0 0) 0 [] rfl (World.ownsRow_nil _ _ _ _) ⟨w7.heap.size, 0, none⟩ 1 1 [.int .i64 j] rfl rfl (World.news_of_block (cs := #[.int .i64 j]) (t := 3) (fr := (0, 0)) (heap_alloc_new w7 _)) (by simp [Value.oneCell']) (by omega) (by unfold maxLen; omega) (by omega) (by simp; omega) (w7.heap.size + 1) (by simp) ?_; intro gg cap4 w8 hown8 hgrow8 hat hlt8)
            | fail)
          have b8 : Below w.heap.size w w8 := (b7.alloc b7.size (.cells #[.int .i64 j] 3)).grown hgrow8 (by simp; omega) fun i hi => by cases hi
          have m8 := (m7.alloc (.cells #[.int .i64 j] 3)).of_below (B := w.heap.size + 1) ((Below.refl (w.heap.size + 1) (w7.alloc (.cells #[.int .i64 j] 3))).grown hgrow8 (by simp; omega) fun i hi => by cases hi) (Nat.lt_succ_self _)
          go_roundw
          case rel => exact ⟨j + 1, some ⟨gg, 0, none⟩, cap4, p, r, by omega, by go_num, by rw [HEL.out]; simp, by rw [HEL.out]; simpa using hown8, fun _ => HEM.out, m8, b8⟩
          case measure => simp [intOf]; omega
        · have hlp : 0 < ln := by rw [hln]; exact bsL_pos c (by omega)
          have hln0 : ((ln : Int) == 0) = false := by simp; omega
          obtain ⟨rfl, rfl⟩ := hpm h0
          have hpos : 0 < c j (bsI c j) := by omega
          obtain ⟨v, hv⟩ : ∃ v, v = c j (bsI c j) := ⟨_, rfl⟩
          rw [← hv] at HCM hpos
          generalize P (bsI c j) = pm at *
          generalize R (bsI c j) = rm at *
          clear hln hnew hp hr hmT hv
          go_wp2_with fail
          go_at_fn k
          refine HG.out.mono ?_
          rintro e w5 ⟨rfl, hb5⟩
          have m5 := (hbm.now hb5).alloc (.cells #[.int .i64 p, .int .i64 r] 78)
          have n5 := BoxT.new 78 w5 (.int .i64 p) (.int .i64 r)
          have O5 := Lib.hid ((owns_now HO.out hb5).alloc (.cells #[.int .i64 p, .int .i64 r] 78))
          have b5 := hbr.trans ((bfrom hb5 (below1 w5 (.cells #[.int .i64 p, .int .i64 r] 78))).mono hszr)
          have hgw : w.heap.size < w5.heap.size := (hbm.now hb5).lt
          obtain ⟨d0, d1⟩ := n5.cells
          obtain ⟨e0, e1⟩ := m5.cells
          go_wp2_with fail
          obtain ⟨W5, hW5⟩ : ∃ W, W = w5.alloc (.cells #[.int .i64 p, .int .i64 r] 78) := ⟨_, rfl⟩
          rw [← hW5] at m5 n5 O5 b5 d0 d1 e0 e1 ⊢
          clear hW5
          have hz5 : w.heap.size + 1 ≤ W5.heap.size := m5.lt
          go_at_fn 52
          refine (compareShares1_any p r pm rm _).mono ?_
          rintro e w9 ⟨rfl, hb9⟩
          rw [HCM.out]
          have m9 := m5.now hb9
          have n9 := n5.now hb9
          have b9 := b5.trans (hb9.mono (Nat.le_trans (Nat.le_succ _) hz5))
          have hz9 : w.heap.size + 1 ≤ w9.heap.size := m9.lt
          clear d0 d1 e0 e1
          obtain ⟨d0, d1⟩ := n9.cells
          obtain ⟨e0, e1⟩ := m9.cells
          go_wp2_with fail
          obtain ⟨f0, f1⟩ := frozen2 m9
          go_region
          have m6 := (box_put2 m9 (.int .i64 p) (.int .i64 r)).drew
          have n6 := ((n9.far (p := ⟨w.heap.size, 0, none⟩) (by simp; omega) (.int .i64 p)).far (p := ⟨w.heap.size, 1, none⟩) (by simp; omega) (.int .i64 r)).drew
          have b6 := ((b9.setCell (p := ⟨w.heap.size, 0, none⟩) (by simp) (.int .i64 p)).setCell (p := ⟨w.heap.size, 1, none⟩) (by simp) (.int .i64 r)).drew
          clear d0 d1 e0 e1 f0 f1 m9 n9
          obtain ⟨W6, hW6⟩ : ∃ W, W = ((w9.setCell ⟨w.heap.size, 0, none⟩ (.int .i64 p)).setCell ⟨w.heap.size, 1, none⟩ (.int .i64 r)).drew := ⟨_, rfl⟩
          rw [← hW6] at m6 n6 b6 ⊢
          have hz6 : w.heap.size + 1 ≤ W6.heap.size := m6.lt
          clear hW6
          obtain ⟨d0, d1⟩ := n6.cells
          obtain ⟨e0, e1⟩ := m6.cells
          go_wp2_with fail
          go_at_fn 52
          refine (compareShares1_any p r p r _).mono ?_
          rintro e w7 ⟨rfl, hb7⟩
          rw [HCZ.out]
          have m7 := m6.now hb7
          have n7 := n6.now hb7
          have b7 := b6.trans (hb7.mono (Nat.le_trans (Nat.le_succ _) hz6))
          have hz7 : w.heap.size + 1 ≤ w7.heap.size := m7.lt
          clear d0 d1 e0 e1
          obtain ⟨d0, d1⟩ := n7.cells
          obtain ⟨e0, e1⟩ := m7.cells
          go_wp2_with (first
            | (at_builtin; refine wpList_append_lies _ rfl _ _ _ rfl (w.heap.size + 1) 3 i0 _ 1 8 Try.underlying26 hi0 hz0 hz1 hz2 rfl (by decide) (.slice none 0 0) 0 [] rfl (World.ownsRow_nil _ _ _ _) ⟨w7.heap.size, 0, none⟩ 1 1 [.int .i64 j] rfl rfl (World.news_of_block (cs := #[.int .i64 j]) (t := 3) (fr := (0, 0)) (heap_alloc_new w7 _)) (by simp [Value.oneCell']) (by omega) (by unfold maxLen; omega) (by omega) (by simp; omega) (w7.heap.size + 1) (by simp) ?_; intro gg cap4 w8 hown8 hgrow8 hat hlt8)
            | fail)
          have b8 : Below w.heap.size w w8 := (b7.alloc b7.size (.cells #[.int .i64 j] 3)).grown hgrow8 (by simp; omega) fun i hi => by cases hi
          have m8 := (m7.alloc (.cells #[.int .i64 j] 3)).of_below (B := w.heap.size + 1) ((Below.refl (w.heap.size + 1) (w7.alloc (.cells #[.int .i64 j] 3))).grown hgrow8 (by simp; omega) fun i hi => by cases hi) (Nat.lt_succ_self _)
          go_roundw
          case rel => exact ⟨j + 1, some ⟨gg, 0, none⟩, cap4, p, r, by omega, by go_num, by rw [HEL.out]; simp, by rw [HEL.out]; simpa using hown8, fun _ => HEM.out, m8, b8⟩
          case measure => simp [intOf]; omega
      · have h0 : j ≠ 0 := by omega
        have hlp : 0 < ln := by rw [hln]; exact bsL_pos c (by omega)
        have hln0 : ((ln : Int) == 0) = false := by simp; omega
        obtain ⟨epm, erm⟩ := hpm h0
        rw [← epm, ← erm] at HCM
        by_cases hsame : c j (bsI c j) = 0
        · obtain ⟨eM, eL⟩ := bs_same h0 hsame
          have HEM := Lib.hid (show pm = P (bsI c (j+1)) ∧ rm = R (bsI c (j+1)) from ⟨by rw [eM, epm], by rw [eM, erm]⟩)
          have HEL := Lib.hid eL
          have HLN := Lib.hid hln
          rw [hsame] at HCM
          clear eM eL hln hnew hsame hp hr hmT epm erm hpm
          go_wp2_with fail
          go_at_fn k
          refine HG.out.mono ?_
          rintro e w5 ⟨rfl, hb5⟩
          have m5 := (hbm.now hb5).alloc (.cells #[.int .i64 p, .int .i64 r] 78)
          have n5 := BoxT.new 78 w5 (.int .i64 p) (.int .i64 r)
          have O5 := Lib.hid ((owns_now HO.out hb5).alloc (.cells #[.int .i64 p, .int .i64 r] 78))
          have b5 := hbr.trans ((bfrom hb5 (below1 w5 (.cells #[.int .i64 p, .int .i64 r] 78))).mono hszr)
          have hgw : w.heap.size < w5.heap.size := (hbm.now hb5).lt
          obtain ⟨d0, d1⟩ := n5.cells
          obtain ⟨e0, e1⟩ := m5.cells
          go_wp2_with fail
          obtain ⟨W5, hW5⟩ : ∃ W, W = w5.alloc (.cells #[.int .i64 p, .int .i64 r] 78) := ⟨_, rfl⟩
          rw [← hW5] at m5 n5 O5 b5 d0 d1 e0 e1 ⊢
          clear hW5
          have hz5 : w.heap.size + 1 ≤ W5.heap.size := m5.lt
          go_at_fn 52
          refine (compareShares1_any p r pm rm _).mono ?_
          rintro e w9 ⟨rfl, hb9⟩
          rw [HCM.out]
          have m9 := m5.now hb9
          have n9 := n5.now hb9
          have b9 := b5.trans (hb9.mono (Nat.le_trans (Nat.le_succ _) hz5))
          have hz9 : w.heap.size + 1 ≤ w9.heap.size := m9.lt
          clear d0 d1 e0 e1
          obtain ⟨d0, d1⟩ := n9.cells
          obtain ⟨e0, e1⟩ := m9.cells
          go_wp2_with fail
          go_at_fn 52
          refine (compareShares1_any p r pm rm _).mono ?_
          rintro e w7 ⟨rfl, hb7⟩
          rw [HCM.out]
          have m7 := m9.now hb7
          have n7 := n9.now hb7
          have b7 := b9.trans (hb7.mono (Nat.le_trans (Nat.le_succ _) hz9))
          have hz7 : w.heap.size + 1 ≤ w7.heap.size := m7.lt
          clear d0 d1 e0 e1
          obtain ⟨d0, d1⟩ := n7.cells
          obtain ⟨e0, e1⟩ := m7.cells
          have O9 := Lib.hid (owns_now O5.out hb9)
          have O7 := Lib.hid (owns_now O9.out hb7)
          go_wp2_with (first
            | (at_builtin; refine wpList_append_lies _ rfl _ _ _ rfl (w.heap.size + 1) 3 i0 _ 1 8 Try.underlying26 hi0 hz0 hz1 hz2 rfl (by decide) (.slice A ln cp) ln ((bsL c j).map (Value.int .i64)) rfl (O7.out.alloc _) ⟨w7.heap.size, 0, none⟩ 1 1 [.int .i64 j] rfl rfl (World.news_of_block (cs := #[.int .i64 j]) (t := 3) (fr := (0, 0)) (heap_alloc_new w7 _)) (by simp [Value.oneCell']) (by omega) (by unfold maxLen; omega) (by omega) (by simp; omega) (w7.heap.size + 1) (by simp) ?_; intro gg cap4 w8 hown8 hgrow8 hat hlt8)
            | fail)
          have b8 : Below w.heap.size w w8 := (b7.alloc b7.size (.cells #[.int .i64 j] 3)).grown hgrow8 (by simp; omega) fun i hi => Nat.le_trans (Nat.le_succ _) (owns_le O7.out hi)
          have m8 := (m7.alloc (.cells #[.int .i64 j] 3)).of_below (B := w.heap.size + 1) ((Below.refl (w.heap.size + 1) (w7.alloc (.cells #[.int .i64 j] 3))).grown hgrow8 (by simp; omega) fun i hi => owns_le O7.out hi) (Nat.lt_succ_self _)
          go_roundw
          case rel => exact ⟨j + 1, some ⟨gg, 0, none⟩, cap4, pm, rm, by omega, by go_num, by rw [HEL.out, HLN.out]; simp, by rw [HEL.out]; simpa [HLN.out] using hown8, fun _ => HEM.out, m8, b8⟩
          case measure => simp [intOf]; omega
        · have hneg : c j (bsI c j) < 0 := by omega
          obtain ⟨eM, eL⟩ := bs_less h0 hneg
          have HEM := Lib.hid (show pm = P (bsI c (j+1)) ∧ rm = R (bsI c (j+1)) from ⟨by rw [eM, epm], by rw [eM, erm]⟩)
          have HEL := Lib.hid eL
          have HLN := Lib.hid hln
          obtain ⟨v, hv⟩ : ∃ v, v = c j (bsI c j) := ⟨_, rfl⟩
          rw [← hv] at HCM hneg
          clear eM eL hln hnew hsame hp hr hmT epm erm hpm hv
          go_wp2_with fail
          go_at_fn k
          refine HG.out.mono ?_
          rintro e w5 ⟨rfl, hb5⟩
          have m5 := (hbm.now hb5).alloc (.cells #[.int .i64 p, .int .i64 r] 78)
          have n5 := BoxT.new 78 w5 (.int .i64 p) (.int .i64 r)
          have O5 := Lib.hid ((owns_now HO.out hb5).alloc (.cells #[.int .i64 p, .int .i64 r] 78))
          have b5 := hbr.trans ((bfrom hb5 (below1 w5 (.cells #[.int .i64 p, .int .i64 r] 78))).mono hszr)
          have hgw : w.heap.size < w5.heap.size := (hbm.now hb5).lt
          obtain ⟨d0, d1⟩ := n5.cells
          obtain ⟨e0, e1⟩ := m5.cells
          go_wp2_with fail
          obtain ⟨W5, hW5⟩ : ∃ W, W = w5.alloc (.cells #[.int .i64 p, .int .i64 r] 78) := ⟨_, rfl⟩
          rw [← hW5] at m5 n5 O5 b5 d0 d1 e0 e1 ⊢
          clear hW5
          have hz5 : w.heap.size + 1 ≤ W5.heap.size := m5.lt
          go_at_fn 52
          refine (compareShares1_any p r pm rm _).mono ?_
          rintro e w9 ⟨rfl, hb9⟩
          rw [HCM.out]
          have m9 := m5.now hb9
          have n9 := n5.now hb9
          have b9 := b5.trans (hb9.mono (Nat.le_trans (Nat.le_succ _) hz5))
          have hz9 : w.heap.size + 1 ≤ w9.heap.size := m9.lt
          clear d0 d1 e0 e1
          obtain ⟨d0, d1⟩ := n9.cells
          obtain ⟨e0, e1⟩ := m9.cells
          go_wp2_with fail
          go_at_fn 52
          refine (compareShares1_any p r pm rm _).mono ?_
          rintro e w7 ⟨rfl, hb7⟩
          rw [HCM.out]
          have m7 := m9.now hb7
          have n7 := n9.now hb7
          have b7 := b9.trans (hb7.mono (Nat.le_trans (Nat.le_succ _) hz9))
          have hz7 : w.heap.size + 1 ≤ w7.heap.size := m7.lt
          clear d0 d1 e0 e1
          obtain ⟨d0, d1⟩ := n7.cells
          obtain ⟨e0, e1⟩ := m7.cells
          have O9 := Lib.hid (owns_now O5.out hb9)
          have O7 := Lib.hid (owns_now O9.out hb7)
          go_wp2_with fail
          go_roundw
          case rel => exact ⟨j + 1, A, cp, pm, rm, by omega, by go_num, by rw [HEL.out, HLN.out], by rw [HEL.out, ← HLN.out]; exact O7.out, fun _ => HEM.out, m7, b7⟩
          case measure => simp [intOf]; omega
    · obtain rfl : j = T + 1 := by omega
      have hjT : ¬ (((T + 1 : Nat) : Int) ≤ T) := by omega
      go_wp2
      go_ret
      exact ⟨A, cp, rfl, owns_less HO.out (Nat.le_succ _), hbr⟩
end Go.Proofs.Ytipplbcjdcdapab

namespace Go.Proofs.Ytipplbcjdcdapab
open Go.RowKit Vo

/-- The function value (k, cap), called with a number of 0 .. T, answers that there is none. -/
structure NoVals (T k : Nat) (cap : Array Value) (w : World) : Prop where
  enters : ∀ args W, (callFunc k args).run Try.prog W = .ok (.enter k args) W
  gives : ∀ (W : World) (j : Nat), j ≤ T → Below w.heap.size w W → Calls Try.prog k ((#[] : Array Value).push (.int .i64 j) ++ cap) W fun e W' => e = .returned (.tuple #[.agg #[.int .i64 0, .int .i64 0], .bool false]) ∧ Below W.heap.size W W'

set_option maxRecDepth 20000 in
set_option maxHeartbeats 1000000 in
theorem bestOfS_none (T k : Nat) (cap : Array Value) (w : World) (hT : T ≤ 20) (hv : NoVals T k cap w) :
    Calls Try.prog 51 #[.int .i64 0, .int .i64 T, .func (.func k) #[] cap, .func (.func 52) #[] #[]] w fun e w' => e = .returned (.slice none 0 0) ∧ Below w.heap.size w w' := by
  have HV := Lib.hid hv
  have eg := hv.enters
  clear hv
  go_enter Try.func51, Try.ntmps51
  go_wp2_with fail
  go_loopw [9, 11, 12, 13] (fun u i _ _ wr => ∃ (j : Nat), j ≤ T + 1 ∧ i = .int .i64 j ∧ u = .slice none 0 0 ∧ Below w.heap.size w wr) (fun _ i _ _ _ => T + 1 - (intOf i).toNat)
  case atStart => exact ⟨0, Nat.zero_le _, rfl, rfl, below1 _ _⟩
  case round =>
    obtain ⟨j, hj, rfl, rfl, hbr⟩ := hrel
    have hszr := hbr.size
    by_cases hlt : j ≤ T
    · have HG := Lib.hid (HV.out.gives wr j hlt hbr)
      have hjT : (j : Int) ≤ T := by omega
      go_wp2_with fail
      go_at_fn k
      refine HG.out.mono ?_
      rintro e w5 ⟨rfl, hb5⟩
      have b5 := hbr.trans ((bfrom hb5 (below1 w5 (.cells #[.int .i64 0, .int .i64 0] 78))).mono hszr)
      go_wp2
      go_roundw
      case rel => exact ⟨j + 1, by omega, by go_num, rfl, b5⟩
      case measure => simp [intOf]; omega
    · obtain rfl : j = T + 1 := by omega
      have hjT : ¬ (((T + 1 : Nat) : Int) ≤ T) := by omega
      go_wp2
      go_ret
      exact ⟨rfl, hbr⟩

/-- What both parts have, and all members: their swings. -/
def spA (q : Int) (ws : List Int) (n i j : Nat) : Nat := partN (swingN q (splitL ws n i j) (n + 1)) (twoS i) (n + 1)
def spS (q : Int) (ws : List Int) (n i j : Nat) : Nat := swS q (splitL ws n i j) (n + 1)
def spP (q : Int) (ws : List Int) (n i j : Nat) : Nat := spA q ws n i j / Nat.gcd (spA q ws n i j) (spS q ws n i j)
def spR (q : Int) (ws : List Int) (n i j : Nat) : Nat := spS q ws n i j / Nat.gcd (spA q ws n i j) (spS q ws n i j)
def spC (q : Int) (ws : List Int) (n i : Nat) (j m : Nat) : Int := sgn ((spA q ws n i j : Int) * spS q ws n i m - (spA q ws n i m : Int) * spS q ws n i j)
theorem spC_self (q : Int) (ws : List Int) (n i j : Nat) : spC q ws n i j j = 0 := by unfold spC sgn; simp
theorem sp_good {q : Int} {ws : List Int} {n i j : Nat} (hg : Vo.Good q ws n) (hi : i < n) (h9 : n < 9) (hj : (j : Int) ≤ ws.getD i 0) : Vo.Good q (splitL ws n i j) (n + 1) := by
  have e := split_good (x := (j : Int)) hg hi (by omega) hj
  rw [decide_eq_true h9] at e
  exact of_decide_eq_true e
theorem two_lt {i n : Nat} (hi : i < n) (h9 : n < 9) : twoS i < 512 := Nat.or_lt_two_pow (n := 9) (Nat.pow_lt_pow_right (by omega) (by rw [Int.toNat_natCast]; omega)) (Nat.pow_lt_pow_right (by omega) (by rw [Int.toNat_natCast]; omega))
theorem sp_part {q : Int} {ws : List Int} {n i j : Nat} (hg : Vo.Good q ws n) (hi : i < n) (h9 : n < 9) (hj : (j : Int) ≤ ws.getD i 0) : Part (perL (swingN q (splitL ws n i j) (n + 1)) (n + 1)) (twoS i) (spA q ws n i j) (spS q ws n i j) :=
  part_swings (sp_good hg hi h9 hj) (two_lt hi h9)
theorem sp_cmp {q : Int} {ws : List Int} {n i j m : Nat} (hg : Vo.Good q ws n) (hi : i < n) (h9 : n < 9) (hj : (j : Int) ≤ ws.getD i 0) (hm : (m : Int) ≤ ws.getD i 0) :
    cmpR (spP q ws n i j : Nat) (spR q ws n i j : Nat) (spP q ws n i m : Nat) (spR q ws n i m : Nat) = spC q ws n i j m := by
  have h := sp_part hg hi h9 hj
  have h' := sp_part hg hi h9 hm
  exact cmp_low h.le h.one h.few h'.le h'.one h'.few

theorem sp_ok {q : Int} {ws : List Int} {n i : Nat} (hm : memOk q ws n i = true) (j : Nat) (hj : (j : Int) ≤ ws.getD i 0) : splitOk q ws n i j = decide (n < 9) := by
  unfold splitOk partAsk
  rw [hm, Int.toNat_natCast, show inB (j : Int) 0 (ws.getD i 0) = true from by unfold inB; revert hj; generalize ws.getD i 0 = v; intro hj; simp; omega]
  rfl

set_option maxRecDepth 20000 in
set_option maxHeartbeats 2000000 in
theorem splits1_yes (q : Int) (b off n i j g g2 : Nat) (ws : List Int) (w : World) (hmem : memOk q ws n i = true) (h9 : n < 9) (hj : (j : Int) ≤ ws.getD i 0) (hsl : Sl w b off n ws) (hx : Box w g (.int .i64 q) (.slice (some ⟨b, off, none⟩) n n)) (hk : BoxI w g2 (.int .i64 i)) :
    Calls Try.prog 47 #[.int .i64 j, .pointer (some ⟨g, 0, none⟩), .pointer (some ⟨g2, 0, none⟩)] w fun e w' => e = .returned (.tuple #[.agg #[.int .i64 (spP q ws n i j : Nat), .int .i64 (spR q ws n i j : Nat)], .bool true]) ∧ Below w.heap.size w w' := by
  obtain ⟨hg, hi0, hin⟩ := memOk_parts hmem
  have hi : i < n := by omega
  have hg' := sp_good hg hi h9 hj
  have HP := sp_part hg hi h9 hj
  have hok := sp_ok hmem j hj
  rw [decide_eq_true h9] at hok
  have HS := Lib.hid (fun W (h : Sl W b off n ws) => split_all q (some ⟨b, off, none⟩) n ws i j W (by omega) (Known.of h))
  unfold PartyAt at HS
  rw [hok, Int.toNat_natCast, show nIf true (n + 1) = n + 1 from rfl, show qIf true q = q from rfl, show nIf true (twoS i) = twoS i from rfl] at HS
  have HSH := Lib.hid (fun A' cap' W (h : Known W A' (n + 1) (splitL ws n i j)) => shareOf_any _ 50 q A' (n + 1) cap' (twoS i) _ _ W HP.len HP.set HP.ok HP.own HP.all HP.le HP.one HP.few ((swings_lists q A' (n + 1) cap' _ W h hg').reads (by rw [perL_len]; exact hg'.lo)))
  have HSL := Lib.hid hsl
  obtain ⟨p, hp⟩ : ∃ p, p = spP q ws n i j := ⟨_, rfl⟩
  obtain ⟨r, hr⟩ : ∃ r, r = spR q ws n i j := ⟨_, rfl⟩
  rw [show spA q ws n i j / Nat.gcd (spA q ws n i j) (spS q ws n i j) = p from hp.symm, show spS q ws n i j / Nat.gcd (spA q ws n i j) (spS q ws n i j) = r from hr.symm] at HSH
  rw [← hp, ← hr]
  obtain ⟨L, hL⟩ : ∃ L, L = splitL ws n i j := ⟨_, rfl⟩
  rw [← hL] at HS HSH
  obtain ⟨s, hs⟩ : ∃ s, s = twoS i := ⟨_, rfl⟩
  rw [← hs] at HS HSH
  clear hok hg hg' HP hp hr hL hs hsl hmem
  have hb0 := below1 w (.cells #[.int .i64 0, .int .i64 0] 78)
  have hr0 := BoxT.new 78 w (.int .i64 0) (.int .i64 0)
  obtain ⟨c0, c1⟩ := (hx.alloc (.cells #[.int .i64 0, .int .i64 0] 78)).cells
  have c2 := (hk.now hb0).cell
  go_enter Try.func47, Try.ntmps47
  go_wp2_with fail
  refine (HS.out _ (HSL.out.alloc _)).mono ?_
  rintro e w1 ⟨A1, cap1, rfl, hh1, hb1⟩
  have b1 := below1 w1 (.cells #[.int .i64 q, .slice A1 (n + 1) cap1, .int .u64 s] 80)
  have hp2 := Box3.new 80 w1 (.int .i64 q) (.slice A1 (n + 1) cap1) (.int .u64 s)
  have HK2 := Lib.hid (hh1.known.now b1)
  have hr2 := (hr0.now hb1).alloc (.cells #[.int .i64 q, .slice A1 (n + 1) cap1, .int .u64 s] 80)
  obtain ⟨d0, d1, d2⟩ := hp2.cells
  clear c0 c1 c2
  go_wp2_with fail
  refine (HSH.out A1 cap1 _ HK2.out).mono ?_
  rintro e w3 ⟨rfl, hb3⟩
  have hr3 := hr2.now hb3
  obtain ⟨k0, k1⟩ := hr3.cells
  obtain ⟨f0, f1⟩ := frozen2 hr3
  have g3 := bfrom (bfrom hb0 hb1) (bfrom b1 hb3)
  have hr4 := box_put2 hr3 (.int .i64 p) (.int .i64 r)
  obtain ⟨e0, e1⟩ := hr4.cells
  clear d0 d1 d2
  go_wp2
  refine bodyPost_ret (v := .tuple #[.agg #[.int .i64 p, .int .i64 r], .bool true]) (by simp [results, Try.results47, go_sem, e0, e1]) rfl ⟨rfl, ?_⟩
  exact (g3.setCell (by simp) _).setCell (by simp) _

set_option maxRecDepth 20000 in
set_option maxHeartbeats 2000000 in
theorem splits1_no (q : Int) (b off n i j g g2 : Nat) (ws : List Int) (w : World) (hmem : memOk q ws n i = true) (h9 : ¬ n < 9) (hj : (j : Int) ≤ ws.getD i 0) (hsl : Sl w b off n ws) (hx : Box w g (.int .i64 q) (.slice (some ⟨b, off, none⟩) n n)) (hk : BoxI w g2 (.int .i64 i)) :
    Calls Try.prog 47 #[.int .i64 j, .pointer (some ⟨g, 0, none⟩), .pointer (some ⟨g2, 0, none⟩)] w fun e w' => e = .returned (.tuple #[.agg #[.int .i64 0, .int .i64 0], .bool false]) ∧ Below w.heap.size w w' := by
  obtain ⟨hg, hi0, hin⟩ := memOk_parts hmem
  have hn9 := hg.hi
  have hok := sp_ok hmem j hj
  rw [decide_eq_false h9] at hok
  have HS := Lib.hid (fun W (h : Sl W b off n ws) => split_all q (some ⟨b, off, none⟩) n ws i j W (by omega) (Known.of h))
  unfold PartyAt at HS
  rw [hok, show nIf false (n + 1) = 0 from rfl, show qIf false q = 0 from rfl, show nIf false (twoS i) = 0 from rfl] at HS
  have HSL := Lib.hid hsl
  clear hok hg hsl hmem
  have hb0 := below1 w (.cells #[.int .i64 0, .int .i64 0] 78)
  have hr0 := BoxT.new 78 w (.int .i64 0) (.int .i64 0)
  obtain ⟨c0, c1⟩ := (hx.alloc (.cells #[.int .i64 0, .int .i64 0] 78)).cells
  have c2 := (hk.now hb0).cell
  go_enter Try.func47, Try.ntmps47
  go_wp2_with fail
  refine (HS.out _ (HSL.out.alloc _)).mono ?_
  rintro e w1 ⟨A1, cap1, rfl, hh1, hb1⟩
  have b1 := below1 w1 (.cells #[.int .i64 0, .slice A1 0 cap1, .int .u64 0] 80)
  have hr3 := (hr0.now hb1).alloc (.cells #[.int .i64 0, .slice A1 0 cap1, .int .u64 0] 80)
  obtain ⟨k0, k1⟩ := hr3.cells
  obtain ⟨f0, f1⟩ := frozen2 hr3
  have g3 := bfrom (bfrom hb0 hb1) b1
  have hr4 := box_put2 hr3 (.int .i64 0) (.int .i64 0)
  obtain ⟨e0, e1⟩ := hr4.cells
  clear c0 c1 c2
  go_wp2
  refine bodyPost_ret (v := .tuple #[.agg #[.int .i64 0, .int .i64 0], .bool false]) (by simp [results, Try.results47, go_sem, e0, e1]) rfl ⟨rfl, ?_⟩
  exact (g3.setCell (by simp) _).setCell (by simp) _
/-- Is there a member that may be split, and that is not too heavy? -/
def bspAsk (q : Int) (ws : List Int) (n : Nat) (x : Int) : Bool := memOk q ws n x && decide (ws.getD x.toNat 0 ≤ 20)
def bspOk (q : Int) (ws : List Int) (n : Nat) (x : Int) : Bool := bspAsk q ws n x && decide (n < 9)
def bspL (q : Int) (ws : List Int) (n : Nat) (x : Int) : List Int := okL (bspOk q ws n x) (bsL (spC q ws n x.toNat) ((ws.getD x.toNat 0).toNat + 1))
theorem bspL_len (q : Int) (ws : List Int) (n : Nat) (x : Int) : (bspL q ws n x).length ≤ 1048576 := by
  cases h : bspOk q ws n x with
  | true =>
    refine okL_len (Nat.le_trans (bsL_le _ _) ?_)
    unfold bspOk bspAsk at h
    simp only [Bool.and_eq_true, decide_eq_true_eq] at h
    have := h.1.2
    omega
  | false => unfold bspL; rw [okL_no h]; simp

set_option maxRecDepth 20000 in
set_option maxHeartbeats 2000000 in
theorem bestSplits_core (q : Int) (A : Option Addr) (n : Nat) (ws : List Int) (x : Int) (w : World) (hm : n ≤ 9223372036854775807) (hk : Known w A n ws) :
    Calls Try.prog 21 #[.agg #[.int .i64 q, .slice A n n], .int .i64 x] w fun e w' => PairAt (bspL q ws n x) (bspOk q ws n x) w w' e := by
  have HK := Lib.hid hk
  clear hk
  have hb0 : Below w.heap.size w ((w.alloc (.cells #[.int .i64 q, .slice A n n] 41)).alloc (.cells #[.int .i64 x] 3)) := (below1 w _).alloc (by simp) _
  have hx := (Box.new w (.int .i64 q) (.slice A n n)).alloc (.cells #[.int .i64 x] 3)
  have hi := BoxI.new (w.alloc (.cells #[.int .i64 q, .slice A n n] 41)) (.int .i64 x)
  simp only [World.size_alloc] at hi
  have c2 := hi.cell
  cases hm1 : memOk q ws n x with
  | false =>
    have HM := Lib.hid hm1
    have HO := Lib.hid (show bspOk q ws n x = false from by unfold bspOk bspAsk; rw [hm1]; rfl)
    have HV := Lib.hid (show bspL q ws n x = [] from okL_no HO.out)
    clear hm1
    go_enter Try.func21, Try.ntmps21
    go_wp2_with fail
    refine (hasMember_any q A n n ws x _ hm (HK.out.now hb0)).mono ?_
    rintro e w1 ⟨rfl, hb1⟩
    rw [HM.out]
    go_wp2
    go_ret2
    rw [HV.out, HO.out]
    exact PairAt.none_ (bfrom hb0 hb1)
  | true =>
    obtain ⟨hg, hx0, hxn⟩ := memOk_parts hm1
    have HM := Lib.hid hm1
    obtain ⟨b, off, rfl, hsl⟩ := HK.out.get hg.lo
    obtain ⟨i, rfl⟩ : ∃ i : Nat, x = i := ⟨x.toNat, by omega⟩
    have HSL := Lib.hid hsl
    have hn9 := hg.hi
    have hn1 := hg.lo
    have hin : i < n := by omega
    have hwi := hg.ok i hin
    have HPA := Lib.hid (show bspAsk q ws n i = decide (ws.getD i 0 ≤ 20) from by unfold bspAsk; rw [hm1, Int.toNat_natCast]; rfl)
    have HPO := Lib.hid (show bspOk q ws n i = (decide (ws.getD i 0 ≤ 20) && decide (n < 9)) from by unfold bspOk; rw [HPA.out])
    have HPL := Lib.hid (show ∀ h : bspOk q ws n i = true, bspL q ws n i = bsL (spC q ws n i) ((ws.getD i 0).toNat + 1) from fun h => by unfold bspL; rw [okL_yes h, Int.toNat_natCast])
    have HBY := Lib.hid (fun (h9 : n < 9) (T : Nat) (hT : T ≤ 20) (hTw : (T : Int) = ws.getD i 0) W (h : Sl W b off n ws) (h2 : Box W w.heap.size (.int .i64 q) (.slice (some ⟨b, off, none⟩) n n)) (h3 : BoxI W (w.heap.size + 1) (.int .i64 i)) =>
      bestOfS_any (spC q ws n i) (spP q ws n i) (spR q ws n i) T 47 #[.pointer (some ⟨w.heap.size, 0, none⟩), .pointer (some ⟨w.heap.size + 1, 0, none⟩)] W hT (fun j m hj hm => sp_cmp hg hin h9 (by rw [← hTw]; omega) (by rw [← hTw]; omega)) (fun j => spC_self q ws n i j)
        ⟨enters_of Try.func47 (by kernel_rfl) rfl, fun W' j hj hb => splits1_yes q b off n i j w.heap.size (w.heap.size + 1) ws W' hm1 h9 (by rw [← hTw]; omega) (h.now hb) (h2.now hb) (h3.now hb)⟩)
    have HBN := Lib.hid (fun (h9 : ¬ n < 9) (T : Nat) (hT : T ≤ 20) (hTw : (T : Int) = ws.getD i 0) W (h : Sl W b off n ws) (h2 : Box W w.heap.size (.int .i64 q) (.slice (some ⟨b, off, none⟩) n n)) (h3 : BoxI W (w.heap.size + 1) (.int .i64 i)) =>
      bestOfS_none T 47 #[.pointer (some ⟨w.heap.size, 0, none⟩), .pointer (some ⟨w.heap.size + 1, 0, none⟩)] W hT
        ⟨enters_of Try.func47 (by kernel_rfl) rfl, fun W' j hj hb => splits1_no q b off n i j w.heap.size (w.heap.size + 1) ws W' hm1 h9 (by rw [← hTw]; omega) (h.now hb) (h2.now hb) (h3.now hb)⟩)
    obtain ⟨T, hT⟩ : ∃ T : Nat, ws.getD i 0 = T := ⟨(ws.getD i 0).toNat, by omega⟩
    have HCI := Lib.hid (show ∀ W, Sl W b off n ws → W.cell? ⟨b, off + i, none⟩ = some (.int .i64 T) from fun W h => by rw [← hT]; exact h.cell i hin)
    rw [hT, Int.toNat_natCast] at HPL
    rw [hT] at HPO HBY HBN hwi
    clear HPA hm1 hg hsl hT
    have hT' : T ≤ 1000 := by omega
    by_cases h20 : T ≤ 20
    · have h20' : ¬ ((T : Int) > 20) := by omega
      by_cases h9 : n < 9
      · have HO := Lib.hid (show bspOk q ws n i = true from by rw [HPO.out]; simp; omega)
        have HV := Lib.hid (HPL.out HO.out)
        obtain ⟨c, hc⟩ : ∃ c, c = spC q ws n i := ⟨_, rfl⟩
        rw [← hc] at HBY HV
        have hlp : 0 < (bsL c (T + 1)).length := bsL_pos c (by omega)
        have hll := bsL_le c (T + 1)
        clear hc HBN HPL
        go_enter Try.func21, Try.ntmps21
        go_wp2_with fail
        refine (hasMember_any q _ n n ws i _ hm (HK.out.now hb0)).mono ?_
        rintro e w1 ⟨rfl, hb1⟩
        rw [HM.out]
        have g1 := bfrom hb0 hb1
        have hx1 := hx.now hb1
        have hi1 := hi.now hb1
        obtain ⟨c0, c1⟩ := hx1.cells
        clear c2 hx hi hb0 hb1
        have c2 := hi1.cell
        have c3 := HCI.out _ (HSL.out.now g1)
        go_wp2_with fail
        refine (HBY.out h9 T h20 rfl _ (HSL.out.now g1) hx1 hi1).mono ?_
        rintro e w4 ⟨A4, cap4, rfl, hown4, hb4⟩
        have HO4 := Lib.hid hown4
        have hz1 := g1.size
        obtain ⟨ln, hln⟩ : ∃ ln, ln = (bsL c (T + 1)).length := ⟨_, rfl⟩
        have HLN := Lib.hid hln
        rw [← hln] at hlp hll HO4 ⊢
        have hlp' : ((ln : Int) > 0) := by omega
        clear hown4 hln
        go_wp2
        go_ret2
        exact ⟨A4, cap4, by rw [HV.out, HO.out, ← HLN.out]; rfl, by rw [HV.out, ← HLN.out]; exact owns_less HO4.out hz1, bfrom g1 hb4⟩
      · have HO := Lib.hid (show bspOk q ws n i = false from by rw [HPO.out]; simp; omega)
        have HV := Lib.hid (show bspL q ws n i = [] from okL_no HO.out)
        clear HBY HPL
        go_enter Try.func21, Try.ntmps21
        go_wp2_with fail
        refine (hasMember_any q _ n n ws i _ hm (HK.out.now hb0)).mono ?_
        rintro e w1 ⟨rfl, hb1⟩
        rw [HM.out]
        have g1 := bfrom hb0 hb1
        have hx1 := hx.now hb1
        have hi1 := hi.now hb1
        obtain ⟨c0, c1⟩ := hx1.cells
        clear c2 hx hi hb0 hb1
        have c2 := hi1.cell
        have c3 := HCI.out _ (HSL.out.now g1)
        go_wp2_with fail
        refine (HBN.out h9 T h20 rfl _ (HSL.out.now g1) hx1 hi1).mono ?_
        rintro e w4 ⟨rfl, hb4⟩
        go_wp2
        go_ret2
        rw [HV.out, HO.out]
        exact PairAt.none_ (bfrom g1 hb4)
    · have HO := Lib.hid (show bspOk q ws n i = false from by rw [HPO.out]; simp; omega)
      have HV := Lib.hid (show bspL q ws n i = [] from okL_no HO.out)
      have h20' : (T : Int) > 20 := by omega
      clear HBY HBN HPL
      go_enter Try.func21, Try.ntmps21
      go_wp2_with fail
      refine (hasMember_any q _ n n ws i _ hm (HK.out.now hb0)).mono ?_
      rintro e w1 ⟨rfl, hb1⟩
      rw [HM.out]
      have g1 := bfrom hb0 hb1
      obtain ⟨c0, c1⟩ := (hx.now hb1).cells
      clear c2
      have c2 := (hi.now hb1).cell
      have c3 := HCI.out _ (HSL.out.now g1)
      go_wp2
      go_ret2
      rw [HV.out, HO.out]
      exact PairAt.none_ g1
theorem bestSplits_ans (q : Int) (A : Option Addr) (n cap : Nat) (ws : List Int) (x : Int) (w : World) (hm : n ≤ 9223372036854775807) (hk : Known w A n ws) (_hxw : (Lit.int .i64 x).wf = true) (hcap : n = cap := by exact rfl) :
    Calls Try.prog 21 #[.agg #[.int .i64 q, .slice A n cap], .int .i64 x] w fun e w' => Ans (RS (bspL q ws n x)) (bspOk q ws n x) w w' e := by
  subst hcap
  exact (bestSplits_core q A n ws x w hm hk).mono fun _ _ h => h.ans
end Go.Proofs.Ytipplbcjdcdapab
