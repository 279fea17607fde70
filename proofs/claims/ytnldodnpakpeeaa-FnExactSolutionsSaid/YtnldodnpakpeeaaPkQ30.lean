/- Texts of N4, Gg. -/
import Derived.Test.YtnldodnpakpeeaaPkQ07
import Derived.Test.YtnldodnpakpeeaaPkQ29
import Derived.Test.YtnldodnpakpeeaaPkQ04
import Derived.Deep.AppendLies
import Derived.Outline
import Derived.Test.YtnldodnpakpeeaaPkQ03
import Derived.Test.YtnldodnpakpeeaaPkQ22
import Derived.Deep.RegionWith
import Derived.Test.YtnldodnpakpeeaaPkQ14
import Derived.Test.YtnldodnpakpeeaaPkQ28
namespace Go.Proofs.Ytnldodnpakpeeaa
open Go.RowKit Vo

set_option maxHeartbeats 1000000 in
theorem isSwingP_any (p : Nat → Bool) (f : Nat) (first cap : Array Value) (n s k : Nat) (w : World) (hn : n < 10) (hs : s < 2^n) (hk : k < n) (ha : Asks p f first cap n w) :
    Calls Try.prog 237 #[.func (.func f) first cap, .int .u64 s, .int .i64 k] w fun e w' => e = .returned (.bool (swP p k s)) ∧ Below w.heap.size w w' := by
  have HA := Lib.hid ha
  have eg := ha.enters
  have h512 : s < 512 := by have := pow_lt (n := n) (by omega); omega
  have hor : s ||| 2^k < 2^n := or_pow_lt hs hk
  have HOR := Lib.hid hor
  have HS := Lib.hid hs
  have HP := Lib.hid (show swP p k s = (!s.testBit k && (!p s && p (s ||| 2^k))) from rfl)
  clear ha hs hor
  cases ht : s.testBit k
  · cases hd : p s
    · have HT := Lib.hid ht
      have HD := Lib.hid hd
      clear ht hd
      go_enter Try.func237, Try.ntmps237
      go_wp2_with (first
        | (go_at_call 123; refine (has_any s k _ (by omega) h512).mono ?_; rintro e w0 ⟨rfl, rfl⟩; rw [HT.out])
        | (go_at_call 124; refine (with_any s k _ (by omega) h512).mono ?_; rintro e w2 ⟨rfl, rfl⟩)
        | (go_at_fn f; with_reducible refine (HA.out.gives _ s HS.out (Below.refl _ _)).mono ?_; rintro e w1 ⟨rfl, hb⟩; rw [HD.out])
        | (go_at_fn f; with_reducible refine (HA.out.gives _ (s ||| 2^k) HOR.out hb).mono ?_; rintro e w3 ⟨rfl, hb3⟩))
      go_ret
      exact ⟨by rw [HP.out, HT.out, HD.out]; simp, bfrom hb hb3⟩
    · have HT := Lib.hid ht
      have HD := Lib.hid hd
      clear ht hd
      go_enter Try.func237, Try.ntmps237
      go_wp2_with (first
        | (go_at_call 123; refine (has_any s k _ (by omega) h512).mono ?_; rintro e w0 ⟨rfl, rfl⟩; rw [HT.out])
        | (go_at_fn f; with_reducible refine (HA.out.gives _ s HS.out (Below.refl _ _)).mono ?_; rintro e w1 ⟨rfl, hb⟩; rw [HD.out]))
      go_ret
      exact ⟨by rw [HP.out, HT.out, HD.out]; rfl, hb⟩
  · have HT := Lib.hid ht
    clear ht
    go_enter Try.func237, Try.ntmps237
    go_wp2_with (go_at_call 123; refine (has_any s k _ (by omega) h512).mono ?_; rintro e w0 ⟨rfl, rfl⟩; rw [HT.out])
    go_ret
    exact ⟨by rw [HP.out, HT.out]; simp, Below.refl _ _⟩

set_option maxHeartbeats 1000000 in
theorem swings1_any (p : Nat → Bool) (f : Nat) (first cap : Array Value) (n s k g g2 : Nat) (w : World) (hn : n < 10) (hs : s < 2^n) (hk : k < n) (ha : Asks p f first cap n w) (hx : Box1 92 w g (.func (.func f) first cap)) (hi : BoxI w g2 (.int .i64 k)) :
    Calls Try.prog 236 #[.int .u64 s, .pointer (some ⟨g, 0, none⟩), .pointer (some ⟨g2, 0, none⟩)] w fun e w' => e = .returned (.bool (swP p k s)) ∧ Below w.heap.size w w' := by
  have HA := Lib.hid ha
  clear ha
  have hcx := hx.cell
  have hci := hi.cell
  go_enter Try.func236, Try.ntmps236
  go_wp2_with fail
  refine (isSwingP_any p f first cap n s k _ hn hs hk HA.out).mono ?_
  rintro e w1 ⟨rfl, hb⟩
  go_wp2
  go_ret
  exact ⟨rfl, hb⟩
theorem swings_asks (p : Nat → Bool) (f : Nat) (first cap : Array Value) (n k g g2 : Nat) (w : World) (hn : n < 10) (hk : k < n) (ha : Asks p f first cap n w) (hx : Box1 92 w g (.func (.func f) first cap)) (hi : BoxI w g2 (.int .i64 k)) :
    Asks (swP p k) 236 #[] #[.pointer (some ⟨g, 0, none⟩), .pointer (some ⟨g2, 0, none⟩)] n w :=
  ⟨enters_of Try.func236 (by kernel_rfl) rfl, fun W s hs hb => swings1_any p f first cap n s k g g2 W hn hs hk (ha.now hb) (hx.now hb) (hi.now hb)⟩

set_option maxHeartbeats 1000000 in
theorem countSwingsP_any (p : Nat → Bool) (f : Nat) (first cap : Array Value) (n k : Nat) (w : World) (hn : n < 10) (hk : k < n) (ha : Asks p f first cap n w) :
    Calls Try.prog 220 #[.int .i64 n, .func (.func f) first cap, .int .i64 k] w fun e w' => e = .returned (.int .i64 (cnt (swP p k) (2^n) : Nat)) ∧ Below w.heap.size w w' := by
  have HA := Lib.hid ha
  clear ha
  have hb0 : Below w.heap.size w ((w.alloc (.cells #[.func (.func f) first cap] 92)).alloc (.cells #[.int .i64 k] 3)) := (below1 w _).alloc (by simp) _
  have hx := (Box1.new 92 w (.func (.func f) first cap)).alloc (.cells #[.int .i64 k] 3)
  have hi := BoxI.new (w.alloc (.cells #[.func (.func f) first cap] 92)) (.int .i64 k)
  simp only [World.size_alloc] at hi
  go_enter Try.func220, Try.ntmps220
  go_wp2_with fail
  refine (countSets_any (swP p k) _ _ _ n _ hn (swings_asks p f first cap n k w.heap.size (w.heap.size + 1) _ hn hk (HA.out.now hb0) hx hi)).mono ?_
  rintro e w2 ⟨rfl, hb2⟩
  go_wp2
  go_ret
  exact ⟨rfl, bfrom hb0 hb2⟩

/-- The function value (k, first, cap), called with a member, answers a number; it writes nothing that was there. -/
structure Nums (f : Nat → Nat) (k : Nat) (first cap : Array Value) (n : Nat) (w : World) : Prop where
  enters : ∀ args W, (callFunc k args).run Try.prog W = .ok (.enter k args) W
  gives : ∀ (W : World) (j : Nat), j < n → Below w.heap.size w W → Calls Try.prog k (first.push (.int .i64 j) ++ cap) W fun e W' => e = .returned (.int .i64 (f j : Nat)) ∧ Below W.heap.size W W'
theorem Nums.now {f k first cap n} {w w' : World} (h : Nums f k first cap n w) (hb : Below w.heap.size w w') : Nums f k first cap n w' :=
  ⟨h.enters, fun W j hj hb' => h.gives W j hj (bfrom hb hb')⟩
end Go.Proofs.Ytnldodnpakpeeaa

namespace Go.Proofs.Ytnldodnpakpeeaa
open Go.RowKit Vo

/-- Block g holds who wins, of all sets. -/
abbrev WinsIn (p : Nat → Bool) (n g : Nat) (w : World) : Prop := Own w g 4 (2^n) (fun j => .bool (p j))

/-- Numbers as integers. -/
def natsL (L : List Nat) : List Int := L.map fun s => ((s : Nat) : Int)
theorem natsL_len (L : List Nat) : (natsL L).length = L.length := by simp [natsL]
theorem natsL_append (L M : List Nat) : natsL (L ++ M) = natsL L ++ natsL M := by simp [natsL]
theorem swL_le (p : Nat → Bool) (k N : Nat) : (swL p k N).length ≤ N := by rw [swL_len]; exact cnt_le _ _

theorem bit_mod0 (s k : Nat) : ((s : Int) / 2 ^ k % 2 == 0) = !s.testBit k := by
  have h := bit_mod s k
  have h0 := div_nn s k
  generalize (s : Int) / 2 ^ k = x at *
  cases hb : s.testBit k
  · rw [hb] at h; simp at h ⊢; omega
  · rw [hb] at h; simp at h ⊢; omega
theorem shl_pow (k : Nat) (hk : k < 10) : wrap64 ((2 : Int) ^ k) = ((2 ^ k : Nat) : Int) := by
  have h1 : (2:Nat)^k ≤ 2^10 := Nat.pow_le_pow_right (by omega) (by omega)
  rw [show ((2 : Int) ^ k) = ((2 ^ k : Nat) : Int) from by simp]
  generalize 2 ^ k = x at *
  exact IntWalk.wrap64_in _ (by omega)

set_option maxHeartbeats 2000000 in
theorem pwSwings_any (p : Nat → Bool) (n k g cap : Nat) (w : World) (hn : n < 10) (hk : k < n) (hw : WinsIn p n g w) :
    Calls Try.prog 203 #[.slice (some ⟨g, 0, none⟩) (2^n : Nat) cap, .int .i64 k] w fun e w' => IntsAt (natsL (swL p k (2^n))) w w' e := by
  obtain ⟨i0, hi0, hz0, hz1, hz2⟩ := infoIntParts
  have HW := Lib.hid hw
  have hgl := hw.lt
  have h512 := pow_lt (n := n) (by omega)
  have HN := Lib.hid (show ∀ s, s < 2^n → s.testBit k = false → s + 2^k < 2^n ∧ s ||| 2^k = s + 2^k from fun s h hb => by rw [add_pow h hk hb]; exact ⟨or_pow_lt h hk, rfl⟩)
  have hsh := shl_pow k (by omega)
  have hP := Nat.pow_le_pow_right (show 1 ≤ 2 by omega) (show k ≤ 9 by omega)
  have HSW := Lib.hid (show ∀ s, swP p k s = (!s.testBit k && (!p s && p (s ||| 2^k))) from fun _ => rfl)
  clear hw
  obtain ⟨N, hN⟩ : ∃ N, 2^n = N := ⟨_, rfl⟩
  unfold WinsIn at HW
  rw [hN] at HW h512 HN ⊢
  clear hN
  obtain ⟨P, hPe⟩ : ∃ P, 2^k = P := ⟨_, rfl⟩
  rw [hPe] at HN hsh hP HSW
  clear hPe
  go_enter Try.func203, Try.ntmps203
  go_wp2
  go_loopw [5, 6, 7, 10] (fun v _ _ i wr => ∃ (j : Nat) (A : Option Addr) (cap : Nat), j ≤ N ∧ i = .int .i64 j ∧ v = .slice A (swL p k j).length cap ∧ wr.ownsRow w.heap.size 3 1 (.slice A (swL p k j).length cap) (swL p k j).length ((natsL (swL p k j)).map (Value.int .i64)) ∧ Below w.heap.size w wr) (fun _ _ _ i _ => N - (intOf i).toNat)
  case atStart => exact ⟨0, none, 0, by omega, rfl, rfl, World.ownsRow_nil _ _ _ _, Below.refl _ _⟩
  case round =>
    obtain ⟨j, A, cap4, hj, rfl, rfl, hown, hbr⟩ := hrel
    have HO := Lib.hid hown
    clear hown
    have hlen := swL_le p k j
    have hszr := hbr.size
    by_cases hlt : j < N
    · have hcell := (HW.out.below hbr hgl).cell hlt
      have HS := Lib.hid (swL_succ p k j)
      have hbm := bit_mod0 j k
      have hnn := div_nn j k
      obtain ⟨L, hL⟩ : ∃ L, swL p k j = L := ⟨_, rfl⟩
      rw [hL] at HO HS hlen ⊢
      clear hL
      obtain ⟨m, hm1⟩ : ∃ m, m = L.length := ⟨_, rfl⟩
      have HM := Lib.hid hm1
      rw [← hm1] at HO hlen ⊢
      clear hm1
      cases hbit : j.testBit k
      · cases hpj : p j
        · obtain ⟨hlt2, hor⟩ := HN.out j hlt hbit
          have hcell2 := (HW.out.below hbr hgl).cell hlt2
          have hsum : ((j : Int) + (P : Int)).toNat = j + P := by omega
          have hS2 := HSW.out j
          rw [hbit, hpj, hor] at hS2
          rw [hbit] at hbm
          rw [hpj] at hcell
          clear hbit hpj
          cases hpt : p (j + P)
          · rw [hpt] at hcell2 hS2
            rw [show swP p k j = false from hS2] at HS
            clear hpt hS2 hor
            have h0 : (0 : Int) ≤ (j : Int) + P := by omega
            have h1 : (j : Int) + P < N := by omega
            go_wp2
            go_roundw
            case rel => exact ⟨j + 1, A, cap4, by omega, by go_num, by rw [HS.out, HM.out]; simp, by rw [HS.out]; simpa [HM.out] using HO.out, hbr⟩
            case measure => simp [intOf]; omega
          · rw [hpt] at hcell2 hS2
            rw [show swP p k j = true from hS2] at HS
            clear hpt hS2 hor
            have h0 : (0 : Int) ≤ (j : Int) + P := by omega
            have h1 : (j : Int) + P < N := by omega
            go_wp2_with (at_builtin; refine wpList_append_lies _ rfl _ _ _ rfl w.heap.size 3 i0 _ 1 8 Try.underlying35 hi0 hz0 hz1 hz2 rfl (by decide) (.slice A m cap4) m ((natsL L).map (Value.int .i64)) rfl (HO.out.alloc _) ⟨wr.heap.size, 0, none⟩ 1 1 [.int .i64 j] rfl rfl (World.news_of_block (cs := #[.int .i64 j]) (t := 3) (fr := (0, 0)) (heap_alloc_new wr _)) (by simp [Value.oneCell']) (by omega) (by unfold maxLen; omega) (by omega) (by simp; omega) (wr.heap.size + 1) (by simp) ?_; intro gg cap2 w4 hown4 hgrow hat hlt4)
            have hb4 : Below w.heap.size w w4 := (hbr.alloc hszr (.cells #[.int .i64 j] 3)).grown hgrow (by simp; omega) fun i hi => owns_le HO.out hi
            go_roundw
            case rel => exact ⟨j + 1, some ⟨gg, 0, none⟩, cap2, by omega, by go_num, by rw [HS.out, HM.out]; simp, by rw [HS.out]; simpa [HM.out, natsL] using hown4, hb4⟩
            case measure => simp [intOf]; omega
        · have hS2 := HSW.out j
          rw [hbit, hpj] at hS2
          rw [show swP p k j = false from hS2] at HS
          rw [hbit] at hbm
          rw [hpj] at hcell
          clear hbit hpj hS2
          go_wp2
          go_roundw
          case rel => exact ⟨j + 1, A, cap4, by omega, by go_num, by rw [HS.out, HM.out]; simp, by rw [HS.out]; simpa [HM.out] using HO.out, hbr⟩
          case measure => simp [intOf]; omega
      · have hS2 := HSW.out j
        rw [hbit] at hS2
        rw [show swP p k j = false from hS2] at HS
        rw [hbit] at hbm
        clear hbit hS2
        go_wp2
        go_roundw
        case rel => exact ⟨j + 1, A, cap4, by omega, by go_num, by rw [HS.out, HM.out]; simp, by rw [HS.out]; simpa [HM.out] using HO.out, hbr⟩
        case measure => simp [intOf]; omega
    · obtain rfl : j = N := by omega
      have HE := Lib.hid (natsL_len (swL p k j))
      go_wp2
      go_ret
      exact ⟨A, cap4, by rw [HE.out]; rfl, by rw [HE.out]; exact HO.out, hbr⟩

end Go.Proofs.Ytnldodnpakpeeaa

namespace Go.Proofs.Ytnldodnpakpeeaa
open Go.RowKit Vo

theorem isSome_put {w : World} {p a : Addr} {u : Value} (h : (w.cell? a).isSome = true) : ((w.setCell p u).cell? a).isSome = true := by
  by_cases e : p = a
  · subst e; rw [World.cell?_setCell_same' w p u h]; rfl
  · rw [World.cell?_setCell_other w p a u e]; exact h
theorem cell_off {w : World} {p a : Addr} {u x : Value} (h : w.cell? a = some x) (hne : a.block ≠ p.block) : (w.setCell p u).cell? a = some x := by
  rw [World.cell?_of_block (Below.heap_setCell w p u a.block hne)]; exact h
def asN (b : Bool) : Nat := if b then 1 else 0
theorem asN_le (b : Bool) : asN b ≤ 1 := by cases b <;> simp [asN]
def vetoB (S : List Nat) (n a : Nat) : Bool := (andK (2^n-1) S S.length).testBit a
/-- What is told of a game to a clue. -/
def valK (S : List Nat) (n : Nat) (c : Clu) : Nat :=
  if c.1 = 0 then asN (winS S c.2.1.toNat)
  else if c.1 = 1 then cnt (winS S) (2^n)
  else if c.1 = 2 then asN (vetoB S n c.2.1.toNat)
  else if c.1 = 3 then cnt (swP (winS S) c.2.1.toNat) (2^n)
  else if c.1 = 4 then asN (allK (properS (winS S) n) (2^n))
  else asN (allK (strongS (winS S) n) (2^n))
/-- The clue with the answer that is true of a game. -/
def ansK (S : List Nat) (n : Nat) (c : Clu) : Clu := if c.1 = 1 ∨ 3 < c.1 then (c.1, (valK S n c : Int), c.2.2) else (c.1, c.2.1, (valK S n c : Int))
def fitK (S : List Nat) (n : Nat) (c : Clu) : Bool := if c.1 = 1 ∨ 3 < c.1 then decide ((valK S n c : Int) = c.2.1) else decide ((valK S n c : Int) = c.2.2)
/-- What may be asked of a game of n members. -/
def AskK (n : Nat) (c : Clu) : Prop := 0 ≤ c.1 ∧ c.1 ≤ 5 ∧ (c.1 = 0 → 0 ≤ c.2.1 ∧ c.2.1 < (2^n : Nat)) ∧ (c.1 = 2 ∨ c.1 = 3 → 0 ≤ c.2.1 ∧ c.2.1 < n)
theorem inB_parts {x lo hi : Int} (h : inB x lo hi = true) : lo ≤ x ∧ x ≤ hi := by simpa [inB] using h
theorem clueB_ask {n : Nat} {c : Clu} (h : clueB n c = true) : AskK n c := by
  obtain ⟨k, a, b⟩ := c
  by_cases hk : 0 ≤ k ∧ k ≤ 5
  · refine ⟨hk.1, hk.2, fun e => ?_, fun e => ?_⟩
    · unfold clueB at h
      simp only at e h
      rw [if_pos e, Bool.and_eq_true] at h
      have := inB_parts h.1
      have := Nat.two_pow_pos n
      simp only
      omega
    · unfold clueB at h
      simp only at e h
      rw [if_neg (by omega), if_neg (by omega)] at h
      rcases e with e | e
      · rw [if_pos e, Bool.and_eq_true] at h
        have := inB_parts h.1
        simp only
        omega
      · rw [if_neg (by omega), if_pos e, Bool.and_eq_true] at h
        have := inB_parts h.1
        simp only
        omega
  · rw [clueB_no hk] at h; cases h

set_option maxHeartbeats 400000 in
theorem asAnswer_any (b : Bool) (w : World) :
    Calls Try.prog 217 #[.bool b] w fun e w' => e = .returned (.int .i64 (asN b : Nat)) ∧ w = w' := by
  cases b
  all_goals
    go_enter Try.func217, Try.ntmps217
    go_wp2
    go_ret
    exact ⟨rfl, rfl⟩

set_option maxRecDepth 20000 in
set_option maxHeartbeats 4000000 in
theorem answered0_any (S : List Nat) (n base k cap : Nat) (A : Option Addr) (a b : Int) (w : World) (hn : n ≤ 4) (hk : k = S.length) (hs : k ≤ 1048576) (hS : ∀ t ∈ S, t < 2^n) (h1 : w.ownsRow base 107 1 (.slice A k cap) k (setsV S)) (hask : AskK n (0, a, b)) :
    Calls Try.prog 204 #[.agg #[.int .i64 n, .slice A k cap], .agg #[.int .i64 0, .int .i64 a, .int .i64 b]] w fun e w' => e = .returned (cluV (ansK S n (0, a, b))) ∧ Below w.heap.size w w' := by
  have hS5 : ∀ t ∈ S, t < 512 := fun t ht => by have := hS t ht; have : 2^n ≤ 2^9 := Nat.pow_le_pow_right (by omega) (by omega); omega
  have hSG : ∀ i, i < S.length → S.getD i 0 < 2^n := fun i hi => by
    rw [List.getD_eq_getElem?_getD, List.getElem?_eq_getElem hi]
    exact hS _ (List.getElem_mem hi)
  have b3 : Below w.heap.size w (((w.alloc (.cells #[.int .i64 n, .slice A k cap] 95)).alloc (.cells #[.int .i64 0, .int .i64 a, .int .i64 b] 130)).alloc (.cells #[.int .i64 0, .int .i64 0, .int .i64 0] 130)) := ((below1 w _).alloc (by simp) _).alloc (by simp; omega) _
  have hx := ((BoxT.new 95 w (.int .i64 n) (.slice A k cap)).alloc (.cells #[.int .i64 0, .int .i64 a, .int .i64 b] 130)).alloc (.cells #[.int .i64 0, .int .i64 0, .int .i64 0] 130)
  have hy := (Bx3.new 130 (w.alloc (.cells #[.int .i64 n, .slice A k cap] 95)) (.int .i64 0) (.int .i64 a) (.int .i64 b)).alloc (.cells #[.int .i64 0, .int .i64 0, .int .i64 0] 130)
  have hr := Bx3.new 130 ((w.alloc (.cells #[.int .i64 n, .slice A k cap] 95)).alloc (.cells #[.int .i64 0, .int .i64 a, .int .i64 b] 130)) (.int .i64 0) (.int .i64 0) (.int .i64 0)
  simp only [World.size_alloc] at hy hr
  have HO := Lib.hid (fun W (hb : Below w.heap.size w W) => owns_now h1 hb)
  have HQ := Lib.hid (fun W => question0_any a b W)
  have t0 := fun v W => run_assert_yes Try.underlying204 v 201 W
  obtain ⟨ha0, ha1⟩ := hask.2.2.1 rfl
  simp only at ha0 ha1
  obtain ⟨x, rfl⟩ : ∃ x : Nat, a = (x : Int) := ⟨a.toNat, by omega⟩
  have hx2 : x < 2^n := by omega
  have hx5 : x < 512 := by have : 2^n ≤ 2^9 := Nat.pow_le_pow_right (by omega) (by omega); omega
  have hwr : IntKind.u64.wrap (x : Int) = (x : Int) := IntWalk.u64_in _ (by omega)
  have HV := Lib.hid (show ansK S n (0, (x : Int), b) = (0, (x : Int), ((asN (winS S x) : Nat) : Int)) from rfl)
  have HKK := Lib.hid hk
  clear h1 hask hk
  obtain ⟨y0, y1, y2⟩ := hy.cells
  go_enter Try.func204, Try.ntmps204
  go_wp2_with fail
  refine (HQ.out _).mono ?_
  rintro e w1 ⟨rfl, hb1⟩
  have g1 := bfrom b3 hb1
  have hz1 := hb1.size
  simp only [World.size_alloc] at hz1
  have hx1 := hx.now hb1
  have hy1 := hy.now hb1
  have hr1 := hr.now hb1
  clear hx hy hr b3 hb1 y0 y1 y2
  have b2 := below1 w1 (.cells #[.int .u64 (x : Int)] 204)
  have g2 := bfrom g1 b2
  have hx2' := hx1.now b2
  have hy2 := hy1.now b2
  have hr2 := hr1.now b2
  obtain ⟨c0, c1⟩ := hx2'.cells
  go_wp2_with fail
  refine (gWins_any S n x base k cap A _ HKK.out hs hS5 hx5 (HO.out _ g2)).mono ?_
  rintro e w3 ⟨rfl, hb3⟩
  have g3 := bfrom g2 hb3
  have hyf := hy2.now hb3
  have hrf := hr2.now hb3
  have hz3 := g3.size
  have HA := Lib.hid (fun W => asAnswer_any (winS S x) W)
  generalize winS S x = r at *
  go_wp2_with fail
  refine (HA.out _).mono ?_
  rintro e w4 ⟨rfl, rfl⟩
  generalize asN r = rr at *
  have gf := g3
  obtain ⟨z0, z1, z2⟩ := hyf.cells
  obtain ⟨v0, v1, v2⟩ := hyf.soft
  obtain ⟨r0, r1, r2⟩ := hrf.cells
  obtain ⟨s0, s1, s2⟩ := hrf.soft
  go_wp2
  refine bodyPost_ret (v := cluV (ansK S n (0, (x : Int), b))) (by rw [HV.out]; simp [results, Try.results204, go_sem, r0, r1, r2, cluV]) rfl ⟨rfl, ?_⟩
  exact (((gf.setCell (by simp) _).setCell (by simp; omega) _).setCell (by simp; omega) _).setCell (by simp; omega) _

set_option maxRecDepth 20000 in
set_option maxHeartbeats 4000000 in
theorem answered1_any (S : List Nat) (n base k cap : Nat) (A : Option Addr) (a b : Int) (w : World) (hn : n ≤ 4) (hk : k = S.length) (hs : k ≤ 1048576) (hS : ∀ t ∈ S, t < 2^n) (h1 : w.ownsRow base 107 1 (.slice A k cap) k (setsV S)) (_hask : AskK n (1, a, b)) :
    Calls Try.prog 204 #[.agg #[.int .i64 n, .slice A k cap], .agg #[.int .i64 1, .int .i64 a, .int .i64 b]] w fun e w' => e = .returned (cluV (ansK S n (1, a, b))) ∧ Below w.heap.size w w' := by
  have hS5 : ∀ t ∈ S, t < 512 := fun t ht => by have := hS t ht; have : 2^n ≤ 2^9 := Nat.pow_le_pow_right (by omega) (by omega); omega
  have hSG : ∀ i, i < S.length → S.getD i 0 < 2^n := fun i hi => by
    rw [List.getD_eq_getElem?_getD, List.getElem?_eq_getElem hi]
    exact hS _ (List.getElem_mem hi)
  have b3 : Below w.heap.size w (((w.alloc (.cells #[.int .i64 n, .slice A k cap] 95)).alloc (.cells #[.int .i64 1, .int .i64 a, .int .i64 b] 130)).alloc (.cells #[.int .i64 0, .int .i64 0, .int .i64 0] 130)) := ((below1 w _).alloc (by simp) _).alloc (by simp; omega) _
  have hx := ((BoxT.new 95 w (.int .i64 n) (.slice A k cap)).alloc (.cells #[.int .i64 1, .int .i64 a, .int .i64 b] 130)).alloc (.cells #[.int .i64 0, .int .i64 0, .int .i64 0] 130)
  have hy := (Bx3.new 130 (w.alloc (.cells #[.int .i64 n, .slice A k cap] 95)) (.int .i64 1) (.int .i64 a) (.int .i64 b)).alloc (.cells #[.int .i64 0, .int .i64 0, .int .i64 0] 130)
  have hr := Bx3.new 130 ((w.alloc (.cells #[.int .i64 n, .slice A k cap] 95)).alloc (.cells #[.int .i64 1, .int .i64 a, .int .i64 b] 130)) (.int .i64 0) (.int .i64 0) (.int .i64 0)
  simp only [World.size_alloc] at hy hr
  have HO := Lib.hid (fun W (hb : Below w.heap.size w W) => owns_now h1 hb)
  have HQ := Lib.hid (fun W => question1_any a b W)
  have t0 := fun v W => run_assert_no (t := 206) Try.underlying204 (by decide) zeroSQ v 201 W
  have t1 := fun v W => run_assert_yes Try.underlying206 v 201 W
  have HV := Lib.hid (show ansK S n (1, a, b) = (1, ((cnt (winS S) (2^n) : Nat) : Int), b) from rfl)
  have HKK := Lib.hid hk
  clear h1 _hask hk
  obtain ⟨y0, y1, y2⟩ := hy.cells
  go_enter Try.func204, Try.ntmps204
  go_wp2_with fail
  refine (HQ.out _).mono ?_
  rintro e w1 ⟨rfl, hb1⟩
  have g1 := bfrom b3 hb1
  have hz1 := hb1.size
  simp only [World.size_alloc] at hz1
  have hx1 := hx.now hb1
  have hy1 := hy.now hb1
  have hr1 := hr.now hb1
  clear hx hy hr b3 hb1 y0 y1 y2
  have b2 := below1 w1 (.cells #[] 206)
  have g2 := bfrom g1 b2
  have hx2' := hx1.now b2
  have hy2 := hy1.now b2
  have hr2 := hr1.now b2
  obtain ⟨c0, c1⟩ := hx2'.cells
  go_wp2_with fail
  refine (countSets_any (winS S) _ _ _ n _ (by omega) (gWins_asks S n base k cap n A _ (by omega) HKK.out hs hS5 (HO.out _ g2))).mono ?_
  rintro e w3 ⟨rfl, hb3⟩
  have g3 := bfrom g2 hb3
  have hyf := hy2.now hb3
  have hrf := hr2.now hb3
  have hz3 := g3.size
  generalize cnt (winS S) (2^n) = rr at *
  have gf := g3
  obtain ⟨z0, z1, z2⟩ := hyf.cells
  obtain ⟨v0, v1, v2⟩ := hyf.soft
  obtain ⟨r0, r1, r2⟩ := hrf.cells
  obtain ⟨s0, s1, s2⟩ := hrf.soft
  go_wp2
  refine bodyPost_ret (v := cluV (ansK S n (1, a, b))) (by rw [HV.out]; simp [results, Try.results204, go_sem, r0, r1, r2, cluV]) rfl ⟨rfl, ?_⟩
  exact (((gf.setCell (by simp) _).setCell (by simp; omega) _).setCell (by simp; omega) _).setCell (by simp; omega) _

set_option maxRecDepth 20000 in
set_option maxHeartbeats 4000000 in
theorem answered2_any (S : List Nat) (n base k cap : Nat) (A : Option Addr) (a b : Int) (w : World) (hn : n ≤ 4) (hk : k = S.length) (hs : k ≤ 1048576) (hS : ∀ t ∈ S, t < 2^n) (h1 : w.ownsRow base 107 1 (.slice A k cap) k (setsV S)) (hask : AskK n (2, a, b)) :
    Calls Try.prog 204 #[.agg #[.int .i64 n, .slice A k cap], .agg #[.int .i64 2, .int .i64 a, .int .i64 b]] w fun e w' => e = .returned (cluV (ansK S n (2, a, b))) ∧ Below w.heap.size w w' := by
  have hS5 : ∀ t ∈ S, t < 512 := fun t ht => by have := hS t ht; have : 2^n ≤ 2^9 := Nat.pow_le_pow_right (by omega) (by omega); omega
  have hSG : ∀ i, i < S.length → S.getD i 0 < 2^n := fun i hi => by
    rw [List.getD_eq_getElem?_getD, List.getElem?_eq_getElem hi]
    exact hS _ (List.getElem_mem hi)
  have b3 : Below w.heap.size w (((w.alloc (.cells #[.int .i64 n, .slice A k cap] 95)).alloc (.cells #[.int .i64 2, .int .i64 a, .int .i64 b] 130)).alloc (.cells #[.int .i64 0, .int .i64 0, .int .i64 0] 130)) := ((below1 w _).alloc (by simp) _).alloc (by simp; omega) _
  have hx := ((BoxT.new 95 w (.int .i64 n) (.slice A k cap)).alloc (.cells #[.int .i64 2, .int .i64 a, .int .i64 b] 130)).alloc (.cells #[.int .i64 0, .int .i64 0, .int .i64 0] 130)
  have hy := (Bx3.new 130 (w.alloc (.cells #[.int .i64 n, .slice A k cap] 95)) (.int .i64 2) (.int .i64 a) (.int .i64 b)).alloc (.cells #[.int .i64 0, .int .i64 0, .int .i64 0] 130)
  have hr := Bx3.new 130 ((w.alloc (.cells #[.int .i64 n, .slice A k cap] 95)).alloc (.cells #[.int .i64 2, .int .i64 a, .int .i64 b] 130)) (.int .i64 0) (.int .i64 0) (.int .i64 0)
  simp only [World.size_alloc] at hy hr
  have HO := Lib.hid (fun W (hb : Below w.heap.size w W) => owns_now h1 hb)
  have HQ := Lib.hid (fun W => question2_any a b W)
  have t0 := fun v W => run_assert_no (t := 208) Try.underlying204 (by decide) zeroSQ v 201 W
  have t1 := fun v W => run_assert_no (t := 208) Try.underlying206 (by decide) zeroCQ v 201 W
  have t2 := fun v W => run_assert_yes Try.underlying208 v 201 W
  obtain ⟨ha0, ha1⟩ := hask.2.2.2 (by simp)
  simp only at ha0 ha1
  obtain ⟨x, rfl⟩ : ∃ x : Nat, a = (x : Int) := ⟨a.toNat, by omega⟩
  have hx2 : x < n := by omega
  have HV := Lib.hid (show ansK S n (2, (x : Int), b) = (2, (x : Int), ((asN (vetoB S n x) : Nat) : Int)) from rfl)
  have HM := Lib.hid (fun W (hb : Below w.heap.size w W) => membersOfEach_any S n base k cap A W (by omega) hk hs hSG (owns_now h1 hb))
  have hle : andK (2^n-1) S k < 512 := by
    have h1 := andK_le (2^n-1) S k
    have h2 : 2^n ≤ 2^9 := Nat.pow_le_pow_right (by omega) (by omega)
    omega
  have HH := Lib.hid (fun W => has_any (andK (2^n-1) S k) x W (by omega) hle)
  have HVB := Lib.hid (show (andK (2^n-1) S k).testBit x = vetoB S n x from by unfold vetoB; rw [hk])
  generalize andK (2^n-1) S k = sm at *
  rw [HVB.out] at HH
  have HA := Lib.hid (fun W => asAnswer_any (vetoB S n x) W)
  have HKK := Lib.hid hk
  clear h1 hask hk
  obtain ⟨y0, y1, y2⟩ := hy.cells
  go_enter Try.func204, Try.ntmps204
  go_wp2_with fail
  refine (HQ.out _).mono ?_
  rintro e w1 ⟨rfl, hb1⟩
  have g1 := bfrom b3 hb1
  have hz1 := hb1.size
  simp only [World.size_alloc] at hz1
  have hx1 := hx.now hb1
  have hy1 := hy.now hb1
  have hr1 := hr.now hb1
  clear hx hy hr b3 hb1 y0 y1 y2
  have b2 := below1 w1 (.cells #[.int .i64 (x : Int)] 208)
  have g2 := bfrom g1 b2
  have hx2' := hx1.now b2
  have hy2 := hy1.now b2
  have hr2 := hr1.now b2
  have c2 : (w1.alloc (.cells #[.int .i64 (x : Int)] 208)).cell? ⟨w1.heap.size, 0, none⟩ = some (.int .i64 (x : Int)) := by
    have h := heap_alloc_new w1 (.cells #[.int .i64 (x : Int)] 208)
    generalize w1.alloc (.cells #[.int .i64 (x : Int)] 208) = W at *
    simp [World.cell?, h]
  obtain ⟨c0, c1⟩ := hx2'.cells
  obtain ⟨_, _, c3⟩ := hy2.cells
  obtain ⟨_, _, c4⟩ := hy2.soft
  go_wp2_with fail
  obtain ⟨w2, hw2⟩ : ∃ w2, w2 = w1.alloc (.cells #[.int .i64 (x : Int)] 208) := ⟨_, rfl⟩
  rw [← hw2] at b2 g2 hx2' hy2 hr2 c0 c1 c2 c3 c4 ⊢
  have HG2 := Lib.hid g2
  clear hw2 b2 g2 hx1 hy1 hr1
  go_region_held3 (fun w' => w'.cell? ⟨w.heap.size, 0, none⟩ = some (.int .i64 n) ∧ w'.cell? ⟨w.heap.size, 1, none⟩ = some (.slice A k cap) ∧ w'.cell? ⟨w1.heap.size, 0, none⟩ = some (.int .i64 x) ∧ (w'.cell? ⟨w.heap.size + 1, 2, none⟩).isSome = true ∧ w'.frozen? ⟨w.heap.size + 1, 2, none⟩ = false)
    (first | exact ⟨c0, c1, c2, by rw [c3]; rfl, c4⟩ | ((try dsimp only); (repeat' apply And.intro); all_goals (first | exact isSome_put (Option.isSome_iff_exists.2 ⟨_, c3⟩) | exact cell_off c2 (by simp; omega) | exact c4 | go_keep)) | go_keep)
    (first
      | (go_at_call 219; refine (HM.out _ HG2.out.drew).mono ?_; rintro e wA ⟨rfl, rfl⟩)
      | (go_at_call 123; refine (HH.out _).mono ?_; rintro e wA ⟨rfl, rfl⟩)
      | (go_at_call 217; refine (HA.out _).mono ?_; rintro e wA ⟨rfl, rfl⟩)
      | fail)
  have hyf := hy2
  have hrf := hr2
  have hz3 := HG2.out.size
  have gf := HG2.out
  generalize asN (vetoB S n x) = rr at *
  obtain ⟨z0, z1, z2⟩ := hyf.cells
  obtain ⟨v0, v1, v2⟩ := hyf.soft
  obtain ⟨r0, r1, r2⟩ := hrf.cells
  obtain ⟨s0, s1, s2⟩ := hrf.soft
  go_wp2
  refine bodyPost_ret (v := cluV (ansK S n (2, (x : Int), b))) (by rw [HV.out]; simp [results, Try.results204, go_sem, r0, r1, r2, cluV]) rfl ⟨rfl, ?_⟩
  exact (((gf.setCell (by simp) _).drew.setCell (by simp; omega) _).setCell (by simp; omega) _).setCell (by simp; omega) _


set_option maxRecDepth 20000 in
set_option maxHeartbeats 4000000 in
theorem answered3_any (S : List Nat) (n base k cap : Nat) (A : Option Addr) (a b : Int) (w : World) (hn : n ≤ 4) (hk : k = S.length) (hs : k ≤ 1048576) (hS : ∀ t ∈ S, t < 2^n) (h1 : w.ownsRow base 107 1 (.slice A k cap) k (setsV S)) (hask : AskK n (3, a, b)) :
    Calls Try.prog 204 #[.agg #[.int .i64 n, .slice A k cap], .agg #[.int .i64 3, .int .i64 a, .int .i64 b]] w fun e w' => e = .returned (cluV (ansK S n (3, a, b))) ∧ Below w.heap.size w w' := by
  have hS5 : ∀ t ∈ S, t < 512 := fun t ht => by have := hS t ht; have : 2^n ≤ 2^9 := Nat.pow_le_pow_right (by omega) (by omega); omega
  have hSG : ∀ i, i < S.length → S.getD i 0 < 2^n := fun i hi => by
    rw [List.getD_eq_getElem?_getD, List.getElem?_eq_getElem hi]
    exact hS _ (List.getElem_mem hi)
  have b3 : Below w.heap.size w (((w.alloc (.cells #[.int .i64 n, .slice A k cap] 95)).alloc (.cells #[.int .i64 3, .int .i64 a, .int .i64 b] 130)).alloc (.cells #[.int .i64 0, .int .i64 0, .int .i64 0] 130)) := ((below1 w _).alloc (by simp) _).alloc (by simp; omega) _
  have hx := ((BoxT.new 95 w (.int .i64 n) (.slice A k cap)).alloc (.cells #[.int .i64 3, .int .i64 a, .int .i64 b] 130)).alloc (.cells #[.int .i64 0, .int .i64 0, .int .i64 0] 130)
  have hy := (Bx3.new 130 (w.alloc (.cells #[.int .i64 n, .slice A k cap] 95)) (.int .i64 3) (.int .i64 a) (.int .i64 b)).alloc (.cells #[.int .i64 0, .int .i64 0, .int .i64 0] 130)
  have hr := Bx3.new 130 ((w.alloc (.cells #[.int .i64 n, .slice A k cap] 95)).alloc (.cells #[.int .i64 3, .int .i64 a, .int .i64 b] 130)) (.int .i64 0) (.int .i64 0) (.int .i64 0)
  simp only [World.size_alloc] at hy hr
  have HO := Lib.hid (fun W (hb : Below w.heap.size w W) => owns_now h1 hb)
  have HQ := Lib.hid (fun W => question3_any a b W)
  have t0 := fun v W => run_assert_no (t := 210) Try.underlying204 (by decide) zeroSQ v 201 W
  have t1 := fun v W => run_assert_no (t := 210) Try.underlying206 (by decide) zeroCQ v 201 W
  have t2 := fun v W => run_assert_no (t := 210) Try.underlying208 (by decide) zeroVQ v 201 W
  have t3 := fun v W => run_assert_yes Try.underlying210 v 201 W
  obtain ⟨ha0, ha1⟩ := hask.2.2.2 (by simp)
  simp only at ha0 ha1
  obtain ⟨x, rfl⟩ : ∃ x : Nat, a = (x : Int) := ⟨a.toNat, by omega⟩
  have hx2 : x < n := by omega
  have HV := Lib.hid (show ansK S n (3, (x : Int), b) = (3, (x : Int), ((cnt (swP (winS S) x) (2^n) : Nat) : Int)) from rfl)
  have HKK := Lib.hid hk
  clear h1 hask hk
  obtain ⟨y0, y1, y2⟩ := hy.cells
  go_enter Try.func204, Try.ntmps204
  go_wp2_with fail
  refine (HQ.out _).mono ?_
  rintro e w1 ⟨rfl, hb1⟩
  have g1 := bfrom b3 hb1
  have hz1 := hb1.size
  simp only [World.size_alloc] at hz1
  have hx1 := hx.now hb1
  have hy1 := hy.now hb1
  have hr1 := hr.now hb1
  clear hx hy hr b3 hb1 y0 y1 y2
  have b2 := below1 w1 (.cells #[.int .i64 (x : Int)] 210)
  have g2 := bfrom g1 b2
  have hx2' := hx1.now b2
  have hy2 := hy1.now b2
  have hr2 := hr1.now b2
  obtain ⟨c0, c1⟩ := hx2'.cells
  have cq : (w1.alloc (.cells #[.int .i64 (x : Int)] 210)).cell? ⟨w1.heap.size, 0, none⟩ = some (.int .i64 (x : Int)) := by
    have h := heap_alloc_new w1 (.cells #[.int .i64 (x : Int)] 210)
    generalize w1.alloc (.cells #[.int .i64 (x : Int)] 210) = W at *
    simp [World.cell?, h]
  go_wp2_with fail
  refine (countSwingsP_any (winS S) _ _ _ n x _ (by omega) hx2 (gWins_asks S n base k cap n A _ (by omega) HKK.out hs hS5 (HO.out _ g2))).mono ?_
  rintro e w3 ⟨rfl, hb3⟩
  have g3 := bfrom g2 hb3
  have hyf := hy2.now hb3
  have hrf := hr2.now hb3
  have hz3 := g3.size
  generalize cnt (swP (winS S) x) (2^n) = rr at *
  have gf := g3
  obtain ⟨z0, z1, z2⟩ := hyf.cells
  obtain ⟨v0, v1, v2⟩ := hyf.soft
  obtain ⟨r0, r1, r2⟩ := hrf.cells
  obtain ⟨s0, s1, s2⟩ := hrf.soft
  go_wp2
  refine bodyPost_ret (v := cluV (ansK S n (3, (x : Int), b))) (by rw [HV.out]; simp [results, Try.results204, go_sem, r0, r1, r2, cluV]) rfl ⟨rfl, ?_⟩
  exact (((gf.setCell (by simp) _).setCell (by simp; omega) _).setCell (by simp; omega) _).setCell (by simp; omega) _

set_option maxRecDepth 20000 in
set_option maxHeartbeats 4000000 in
theorem answered4_any (S : List Nat) (n base k cap : Nat) (A : Option Addr) (a b : Int) (w : World) (hn : n ≤ 4) (hk : k = S.length) (hs : k ≤ 1048576) (hS : ∀ t ∈ S, t < 2^n) (h1 : w.ownsRow base 107 1 (.slice A k cap) k (setsV S)) (_hask : AskK n (4, a, b)) :
    Calls Try.prog 204 #[.agg #[.int .i64 n, .slice A k cap], .agg #[.int .i64 4, .int .i64 a, .int .i64 b]] w fun e w' => e = .returned (cluV (ansK S n (4, a, b))) ∧ Below w.heap.size w w' := by
  have hS5 : ∀ t ∈ S, t < 512 := fun t ht => by have := hS t ht; have : 2^n ≤ 2^9 := Nat.pow_le_pow_right (by omega) (by omega); omega
  have hSG : ∀ i, i < S.length → S.getD i 0 < 2^n := fun i hi => by
    rw [List.getD_eq_getElem?_getD, List.getElem?_eq_getElem hi]
    exact hS _ (List.getElem_mem hi)
  have b3 : Below w.heap.size w (((w.alloc (.cells #[.int .i64 n, .slice A k cap] 95)).alloc (.cells #[.int .i64 4, .int .i64 a, .int .i64 b] 130)).alloc (.cells #[.int .i64 0, .int .i64 0, .int .i64 0] 130)) := ((below1 w _).alloc (by simp) _).alloc (by simp; omega) _
  have hx := ((BoxT.new 95 w (.int .i64 n) (.slice A k cap)).alloc (.cells #[.int .i64 4, .int .i64 a, .int .i64 b] 130)).alloc (.cells #[.int .i64 0, .int .i64 0, .int .i64 0] 130)
  have hy := (Bx3.new 130 (w.alloc (.cells #[.int .i64 n, .slice A k cap] 95)) (.int .i64 4) (.int .i64 a) (.int .i64 b)).alloc (.cells #[.int .i64 0, .int .i64 0, .int .i64 0] 130)
  have hr := Bx3.new 130 ((w.alloc (.cells #[.int .i64 n, .slice A k cap] 95)).alloc (.cells #[.int .i64 4, .int .i64 a, .int .i64 b] 130)) (.int .i64 0) (.int .i64 0) (.int .i64 0)
  simp only [World.size_alloc] at hy hr
  have HO := Lib.hid (fun W (hb : Below w.heap.size w W) => owns_now h1 hb)
  have HQ := Lib.hid (fun W => question4_any a b W)
  have t0 := fun v W => run_assert_no (t := 211) Try.underlying204 (by decide) zeroSQ v 201 W
  have t1 := fun v W => run_assert_no (t := 211) Try.underlying206 (by decide) zeroCQ v 201 W
  have t2 := fun v W => run_assert_no (t := 211) Try.underlying208 (by decide) zeroVQ v 201 W
  have t3 := fun v W => run_assert_no (t := 211) Try.underlying210 (by decide) zeroWQ v 201 W
  have t4 := fun v W => run_assert_yes Try.underlying211 v 201 W
  have HV := Lib.hid (show ansK S n (4, a, b) = (4, ((asN (allK (properS (winS S) n) (2^n)) : Nat) : Int), b) from rfl)
  have HKK := Lib.hid hk
  clear h1 _hask hk
  obtain ⟨y0, y1, y2⟩ := hy.cells
  go_enter Try.func204, Try.ntmps204
  go_wp2_with fail
  refine (HQ.out _).mono ?_
  rintro e w1 ⟨rfl, hb1⟩
  have g1 := bfrom b3 hb1
  have hz1 := hb1.size
  simp only [World.size_alloc] at hz1
  have hx1 := hx.now hb1
  have hy1 := hy.now hb1
  have hr1 := hr.now hb1
  clear hx hy hr b3 hb1 y0 y1 y2
  have b2 := below1 w1 (.cells #[] 211)
  have g2 := bfrom g1 b2
  have hx2' := hx1.now b2
  have hy2 := hy1.now b2
  have hr2 := hr1.now b2
  obtain ⟨c0, c1⟩ := hx2'.cells
  go_wp2_with fail
  refine (gProper_any S n base k cap A _ (by omega) HKK.out hs hS5 (HO.out _ g2)).mono ?_
  rintro e w3 ⟨rfl, hb3⟩
  have g3 := bfrom g2 hb3
  have hyf := hy2.now hb3
  have hrf := hr2.now hb3
  have hz3 := g3.size
  have HA := Lib.hid (fun W => asAnswer_any (allK (properS (winS S) n) (2^n)) W)
  generalize allK (properS (winS S) n) (2^n) = r at *
  go_wp2_with fail
  refine (HA.out _).mono ?_
  rintro e w4 ⟨rfl, rfl⟩
  generalize asN r = rr at *
  have gf := g3
  obtain ⟨z0, z1, z2⟩ := hyf.cells
  obtain ⟨v0, v1, v2⟩ := hyf.soft
  obtain ⟨r0, r1, r2⟩ := hrf.cells
  obtain ⟨s0, s1, s2⟩ := hrf.soft
  go_wp2
  refine bodyPost_ret (v := cluV (ansK S n (4, a, b))) (by rw [HV.out]; simp [results, Try.results204, go_sem, r0, r1, r2, cluV]) rfl ⟨rfl, ?_⟩
  exact (((gf.setCell (by simp) _).setCell (by simp; omega) _).setCell (by simp; omega) _).setCell (by simp; omega) _

set_option maxRecDepth 20000 in
set_option maxHeartbeats 4000000 in
theorem answered5_any (S : List Nat) (n base k cap : Nat) (A : Option Addr) (a b : Int) (w : World) (hn : n ≤ 4) (hk : k = S.length) (hs : k ≤ 1048576) (hS : ∀ t ∈ S, t < 2^n) (h1 : w.ownsRow base 107 1 (.slice A k cap) k (setsV S)) (_hask : AskK n (5, a, b)) :
    Calls Try.prog 204 #[.agg #[.int .i64 n, .slice A k cap], .agg #[.int .i64 5, .int .i64 a, .int .i64 b]] w fun e w' => e = .returned (cluV (ansK S n (5, a, b))) ∧ Below w.heap.size w w' := by
  have hS5 : ∀ t ∈ S, t < 512 := fun t ht => by have := hS t ht; have : 2^n ≤ 2^9 := Nat.pow_le_pow_right (by omega) (by omega); omega
  have hSG : ∀ i, i < S.length → S.getD i 0 < 2^n := fun i hi => by
    rw [List.getD_eq_getElem?_getD, List.getElem?_eq_getElem hi]
    exact hS _ (List.getElem_mem hi)
  have b3 : Below w.heap.size w (((w.alloc (.cells #[.int .i64 n, .slice A k cap] 95)).alloc (.cells #[.int .i64 5, .int .i64 a, .int .i64 b] 130)).alloc (.cells #[.int .i64 0, .int .i64 0, .int .i64 0] 130)) := ((below1 w _).alloc (by simp) _).alloc (by simp; omega) _
  have hx := ((BoxT.new 95 w (.int .i64 n) (.slice A k cap)).alloc (.cells #[.int .i64 5, .int .i64 a, .int .i64 b] 130)).alloc (.cells #[.int .i64 0, .int .i64 0, .int .i64 0] 130)
  have hy := (Bx3.new 130 (w.alloc (.cells #[.int .i64 n, .slice A k cap] 95)) (.int .i64 5) (.int .i64 a) (.int .i64 b)).alloc (.cells #[.int .i64 0, .int .i64 0, .int .i64 0] 130)
  have hr := Bx3.new 130 ((w.alloc (.cells #[.int .i64 n, .slice A k cap] 95)).alloc (.cells #[.int .i64 5, .int .i64 a, .int .i64 b] 130)) (.int .i64 0) (.int .i64 0) (.int .i64 0)
  simp only [World.size_alloc] at hy hr
  have HO := Lib.hid (fun W (hb : Below w.heap.size w W) => owns_now h1 hb)
  have HQ := Lib.hid (fun W => question5_any a b W)
  have t0 := fun v W => run_assert_no (t := 212) Try.underlying204 (by decide) zeroSQ v 201 W
  have t1 := fun v W => run_assert_no (t := 212) Try.underlying206 (by decide) zeroCQ v 201 W
  have t2 := fun v W => run_assert_no (t := 212) Try.underlying208 (by decide) zeroVQ v 201 W
  have t3 := fun v W => run_assert_no (t := 212) Try.underlying210 (by decide) zeroWQ v 201 W
  have t4 := fun v W => run_assert_no (t := 212) Try.underlying211 (by decide) zeroPQ v 201 W
  have t5 := fun v W => run_assert_yes Try.underlying212 v 201 W
  have HV := Lib.hid (show ansK S n (5, a, b) = (5, ((asN (allK (strongS (winS S) n) (2^n)) : Nat) : Int), b) from rfl)
  have HKK := Lib.hid hk
  clear h1 _hask hk
  obtain ⟨y0, y1, y2⟩ := hy.cells
  go_enter Try.func204, Try.ntmps204
  go_wp2_with fail
  refine (HQ.out _).mono ?_
  rintro e w1 ⟨rfl, hb1⟩
  have g1 := bfrom b3 hb1
  have hz1 := hb1.size
  simp only [World.size_alloc] at hz1
  have hx1 := hx.now hb1
  have hy1 := hy.now hb1
  have hr1 := hr.now hb1
  clear hx hy hr b3 hb1 y0 y1 y2
  have b2 := below1 w1 (.cells #[] 212)
  have g2 := bfrom g1 b2
  have hx2' := hx1.now b2
  have hy2 := hy1.now b2
  have hr2 := hr1.now b2
  obtain ⟨c0, c1⟩ := hx2'.cells
  go_wp2_with fail
  refine (gStrong_any S n base k cap A _ (by omega) HKK.out hs hS5 (HO.out _ g2)).mono ?_
  rintro e w3 ⟨rfl, hb3⟩
  have g3 := bfrom g2 hb3
  have hyf := hy2.now hb3
  have hrf := hr2.now hb3
  have hz3 := g3.size
  have HA := Lib.hid (fun W => asAnswer_any (allK (strongS (winS S) n) (2^n)) W)
  generalize allK (strongS (winS S) n) (2^n) = r at *
  go_wp2_with fail
  refine (HA.out _).mono ?_
  rintro e w4 ⟨rfl, rfl⟩
  generalize asN r = rr at *
  have gf := g3
  obtain ⟨z0, z1, z2⟩ := hyf.cells
  obtain ⟨v0, v1, v2⟩ := hyf.soft
  obtain ⟨r0, r1, r2⟩ := hrf.cells
  obtain ⟨s0, s1, s2⟩ := hrf.soft
  go_wp2
  refine bodyPost_ret (v := cluV (ansK S n (5, a, b))) (by rw [HV.out]; simp [results, Try.results204, go_sem, r0, r1, r2, cluV]) rfl ⟨rfl, ?_⟩
  exact (((gf.setCell (by simp) _).setCell (by simp; omega) _).setCell (by simp; omega) _).setCell (by simp; omega) _

theorem answered_any (S : List Nat) (n base k cap : Nat) (A : Option Addr) (kk a b : Int) (w : World) (hn : n ≤ 4) (hk : k = S.length) (hs : k ≤ 1048576) (hS : ∀ t ∈ S, t < 2^n) (h1 : w.ownsRow base 107 1 (.slice A k cap) k (setsV S)) (hask : AskK n (kk, a, b)) :
    Calls Try.prog 204 #[.agg #[.int .i64 n, .slice A k cap], .agg #[.int .i64 kk, .int .i64 a, .int .i64 b]] w fun e w' => e = .returned (cluV (ansK S n (kk, a, b))) ∧ Below w.heap.size w w' := by
  have h : kk = 0 ∨ kk = 1 ∨ kk = 2 ∨ kk = 3 ∨ kk = 4 ∨ kk = 5 := by have := hask.1; have := hask.2.1; simp only at *; omega
  rcases h with rfl | rfl | rfl | rfl | rfl | rfl
  · exact answered0_any S n base k cap A a b w hn hk hs hS h1 hask
  · exact answered1_any S n base k cap A a b w hn hk hs hS h1 hask
  · exact answered2_any S n base k cap A a b w hn hk hs hS h1 hask
  · exact answered3_any S n base k cap A a b w hn hk hs hS h1 hask
  · exact answered4_any S n base k cap A a b w hn hk hs hS h1 hask
  · exact answered5_any S n base k cap A a b w hn hk hs hS h1 hask

theorem ansK_fit (S : List Nat) (n : Nat) (c : Clu) : (ansK S n c = c) ↔ fitK S n c = true := by
  obtain ⟨k, a, b⟩ := c
  unfold ansK fitK
  by_cases h : k = 1 ∨ 3 < k
  · rw [if_pos h, if_pos h]; simp
  · rw [if_neg h, if_neg h]; simp

theorem eq_clue (x y z k a b : Int) (W : World) : (binOp .eql 130 (.agg #[.int .i64 x, .int .i64 y, .int .i64 z]) (.agg #[.int .i64 k, .int .i64 a, .int .i64 b])).run Try.prog W = .ok (.bool (decide ((x, y, z) = (k, a, b)))) W := by
  have hi : ∀ W, (isAgg 3).run Try.prog W = .ok false W := fun W => by simp [isAgg, run_underlying Try.underlying3]
  have he : ∀ (p q : Int) W, (Op.equalIn 9999 3 (.int .i64 p) (.int .i64 q)).run Try.prog W = .ok (p == q) W := fun p q W => run_equalIn_int W 9998 3 .i64 .i64 p q Try.underlying3
  rw [run_eql_struct, run_equalIn_struct W 9999 130 _ _ (by unfold Program.fieldsOf; rw [Try.underlying130]) (by kernel_rfl)]
  unfold Program.fieldsOf
  rw [Try.underlying130]
  by_cases h1 : x = k <;> by_cases h2 : y = a <;> by_cases h3 : z = b <;> simp [Op.eqFields, part, hi, he, Result.andThen, h1, h2, h3]

set_option maxRecDepth 20000 in
set_option maxHeartbeats 4000000 in
theorem fits_any (S : List Nat) (n base k cap : Nat) (A : Option Addr) (kk a b : Int) (w : World) (hn : n ≤ 4) (hk : k = S.length) (hs : k ≤ 1048576) (hS : ∀ t ∈ S, t < 2^n) (h1 : w.ownsRow base 107 1 (.slice A k cap) k (setsV S)) (hask : AskK n (kk, a, b)) :
    Calls Try.prog 185 #[.agg #[.int .i64 n, .slice A k cap], .agg #[.int .i64 kk, .int .i64 a, .int .i64 b]] w fun e w' => e = .returned (.bool (fitK S n (kk, a, b))) ∧ Below w.heap.size w w' := by
  have b0 : Below w.heap.size w ((w.alloc (.cells #[.int .i64 n, .slice A k cap] 95)).alloc (.cells #[.int .i64 kk, .int .i64 a, .int .i64 b] 130)) := (below1 w _).alloc (by simp) _
  have hx := (BoxT.new 95 w (.int .i64 n) (.slice A k cap)).alloc (.cells #[.int .i64 kk, .int .i64 a, .int .i64 b] 130)
  have hy := Bx3.new 130 (w.alloc (.cells #[.int .i64 n, .slice A k cap] 95)) (.int .i64 kk) (.int .i64 a) (.int .i64 b)
  simp only [World.size_alloc] at hy
  obtain ⟨c0, c1⟩ := hx.cells
  obtain ⟨d0, d1, d2⟩ := hy.cells
  obtain ⟨w0, hw0⟩ : ∃ w0, w0 = (w.alloc (.cells #[.int .i64 n, .slice A k cap] 95)).alloc (.cells #[.int .i64 kk, .int .i64 a, .int .i64 b] 130) := ⟨_, rfl⟩
  have HO := Lib.hid (show w0.ownsRow base 107 1 (.slice A k cap) k (setsV S) from by rw [hw0]; exact owns_now h1 b0)
  have HA := Lib.hid (fun W h => answered_any S n base k cap A kk a b W hn hk hs hS h hask)
  have K := Lib.hid (show ∀ W, Below w0.heap.size w0 W → (W.cell? ⟨w.heap.size, 0, none⟩ = some (.int .i64 n) ∧ W.cell? ⟨w.heap.size, 1, none⟩ = some (.slice A k cap) ∧ W.cell? ⟨w.heap.size + 1, 0, none⟩ = some (.int .i64 kk) ∧ W.cell? ⟨w.heap.size + 1, 1, none⟩ = some (.int .i64 a) ∧ W.cell? ⟨w.heap.size + 1, 2, none⟩ = some (.int .i64 b)) from fun W hb => by
    rw [hw0] at hb
    exact ⟨(hx.now hb).cells.1, (hx.now hb).cells.2, (hy.now hb).cells.1, (hy.now hb).cells.2.1, (hy.now hb).cells.2.2⟩)
  have HF := Lib.hid (ansK_fit S n (kk, a, b))
  have HB0 := Lib.hid (show Below w.heap.size w w0 from by rw [hw0]; exact b0)
  have HEQ := Lib.hid (show ∀ (x y z : Int) W, (binOp .eql 130 (.agg #[.int .i64 x, .int .i64 y, .int .i64 z]) (.agg #[.int .i64 kk, .int .i64 a, .int .i64 b])).run Try.prog W = .ok (.bool (decide ((x, y, z) = (kk, a, b)))) W from fun x y z W => eq_clue x y z kk a b W)
  obtain ⟨⟨x, y, z⟩, hc⟩ : ∃ c, c = ansK S n (kk, a, b) := ⟨_, rfl⟩
  rw [← hc] at HA HF
  have HA2 := Lib.hid (show ∀ W, W.ownsRow base 107 1 (.slice A k cap) k (setsV S) → Calls Try.prog 204 #[.agg #[.int .i64 n, .slice A k cap], .agg #[.int .i64 kk, .int .i64 a, .int .i64 b]] W fun e w' => e = .returned (.agg #[.int .i64 x, .int .i64 y, .int .i64 z]) ∧ Below W.heap.size W w' from fun W h => HA.out W h)
  clear HA
  have hd := HEQ.out x y z
  have HFF := Lib.hid (show decide ((x, y, z) = (kk, a, b)) = fitK S n (kk, a, b) from by
    cases hf : fitK S n (kk, a, b) with
    | true => exact decide_eq_true (HF.out.2 hf)
    | false => exact decide_eq_false (fun e => by have := HF.out.1 e; rw [hf] at this; cases this))
  rw [HFF.out] at hd
  generalize fitK S n (kk, a, b) = r at *
  clear hc hx hy hk hS h1 hask b0
  go_enter Try.func185, Try.ntmps185
  go_wp2_with fail
  rw [← hw0]
  rw [← hw0] at c0 c1 d0 d1 d2
  clear hw0
  go_region_held3 (fun w' => w'.cell? ⟨w.heap.size, 0, none⟩ = some (.int .i64 n) ∧ w'.cell? ⟨w.heap.size, 1, none⟩ = some (.slice A k cap) ∧ w'.cell? ⟨w.heap.size + 1, 0, none⟩ = some (.int .i64 kk) ∧ w'.cell? ⟨w.heap.size + 1, 1, none⟩ = some (.int .i64 a) ∧ w'.cell? ⟨w.heap.size + 1, 2, none⟩ = some (.int .i64 b))
    (first | exact ⟨c0, c1, d0, d1, d2⟩ | exact hk2 | go_keep)
    (first
      | (go_at_call 204; refine (HA2.out _ HO.out.drew).mono ?_; rintro e w2 ⟨rfl, hb2⟩; have b2 := bfrom (Below.refl _ _).drew hb2; have hk2 := K.out _ b2)
      | fail)
  go_wp2
  go_ret
  exact ⟨rfl, bfrom HB0.out b2⟩
end Go.Proofs.Ytnldodnpakpeeaa
