/- Texts of O2, P1. -/
import Derived.Test.YtnldodnpakpeeaaPkQ03
import Derived.Deep.AppendLies
import Derived.Test.YtnldodnpakpeeaaPkQ00
import Derived.Laws.BitsAllLaws
import Derived.Lib.Hide
namespace Go.Proofs.Ytnldodnpakpeeaa
open Go.RowKit Vo

def ones1 (x : Int) : Int := IntKind.u64.wrap (bits .and .u64 (x / 2) 6148914691236517205 + bits .and .u64 x 6148914691236517205)
def ones2 (y : Int) : Int := IntKind.u64.wrap (bits .and .u64 (y / 4) 3689348814741910323 + bits .and .u64 y 3689348814741910323)
def ones3 (z : Int) : Int := bits .and .u64 (IntKind.u64.wrap (z / 16 + z)) 1085102592571150095
def ones4 (a : Int) : Int := IntKind.u64.wrap (a + a / 256)
def ones5 (b : Int) : Int := IntKind.u64.wrap (b + b / 65536)
def ones6 (c : Int) : Int := IntKind.u64.wrap (c + c / 4294967296)
def ones7 (c : Int) : Int := bits .and .i64 (wrap64 c) 127
theorem ones_all : ∀ s : Nat, s < 512 → ones7 (ones6 (ones5 (ones4 (ones3 (ones2 (ones1 (s : Int))))))) = ((mem s 9).length : Nat) := by
  decide +kernel

set_option maxHeartbeats 1000000 in
theorem onesCount64_any (s : Nat) (w : World) (hs : s < 512) :
    Calls Try.prog 224 #[.int .u64 s] w fun e w' => e = .returned (.int .i64 ((mem s 9).length : Nat)) ∧ w = w' := by
  go_enter Try.func224, Try.ntmps224
  go_wp2
  go_ret
  refine ⟨ret_int ?_, rfl⟩
  exact ones_all s hs

set_option maxHeartbeats 1000000 in
theorem onesCount_any (s : Nat) (w : World) (hs : s < 512) :
    Calls Try.prog 205 #[.int .u64 s] w fun e w' => e = .returned (.int .i64 ((mem s 9).length : Nat)) ∧ w = w' := by
  go_enter Try.func205, Try.ntmps205
  go_wp2_with (go_at_call 224; refine (onesCount64_any s _ hs).mono ?_; rintro e w' ⟨rfl, rfl⟩)
  go_ret
  exact ⟨rfl, rfl⟩

set_option maxHeartbeats 1000000 in
theorem size_any (s : Nat) (w : World) (hs : s < 512) :
    Calls Try.prog 186 #[.int .u64 s] w fun e w' => e = .returned (.int .i64 ((mem s 9).length : Nat)) ∧ w = w' := by
  go_enter Try.func186, Try.ntmps186
  go_wp2_with (go_at_call 205; refine (onesCount_any s _ hs).mono ?_; rintro e w' ⟨rfl, rfl⟩)
  go_ret
  exact ⟨rfl, rfl⟩
end Go.Proofs.Ytnldodnpakpeeaa

namespace Go.Proofs.Ytnldodnpakpeeaa
open Go.RowKit Vo

theorem infoIntParts : ∃ i, Try.prog.info? 3 = some i ∧ i.zero = some (.int .i64 0) ∧ i.size = 1 ∧ i.bytes = 8 := by
  obtain ⟨i, h, h0, h1, h2⟩ := info_parts infoInt
  exact ⟨i, h, h0, h1, h2⟩

/-- A slice of the call's own that holds these integers. -/
def IntsAt (xs : List Int) (w w' : World) (e : Ending) : Prop :=
  ∃ A cap, e = .returned (.slice A xs.length cap) ∧ w'.ownsRow w.heap.size 3 1 (.slice A xs.length cap) xs.length (xs.map (Value.int .i64)) ∧ Below w.heap.size w w'

theorem mem_step (s k : Nat) : mem s (k+1) = mem s k ++ if s.testBit k then [(k : Int)] else [] := rfl
theorem mem_step1 {s k : Nat} (h : s.testBit k = true) : mem s (k+1) = mem s k ++ [(k : Int)] := by rw [mem_step, h]; rfl
theorem mem_step0 {s k : Nat} (h : s.testBit k = false) : mem s (k+1) = mem s k := by rw [mem_step, h]; simp

set_option maxRecDepth 20000 in
set_option maxHeartbeats 2000000 in
theorem voList_any (s : Nat) (w : World) (hs : s < 512) :
    Calls Try.prog 102 #[.int .i64 s] w fun e w' => IntsAt (mem s 9) w w' e := by
  obtain ⟨i0, hi0, hz0, hz1, hz2⟩ := infoIntParts
  go_enter Try.func102, Try.ntmps102
  go_wp2
  go_loopw [3, 4] (fun v i wr => ∃ (k : Nat) (A : Option Addr) (cap : Nat), k ≤ 9 ∧ i = .int .i64 k ∧ v = .slice A (mem s k).length cap ∧ wr.ownsRow w.heap.size 3 1 (.slice A (mem s k).length cap) (mem s k).length ((mem s k).map (Value.int .i64)) ∧ Below w.heap.size w wr) (fun _ i _ => 9 - (intOf i).toNat)
  case atStart => exact ⟨0, none, 0, by omega, rfl, rfl, World.ownsRow_nil _ _ _ _, Below.refl _ _⟩
  case round =>
    obtain ⟨k, A, cap, hk, rfl, rfl, hown, hb⟩ := hrel
    have HO := Lib.hid hown
    clear hown
    have hlen := mem_len s k
    have hsz := hb.size
    by_cases hgt : 0 < s / 2^k
    · have hk9 : k < 9 := by
        rcases Nat.lt_or_ge k 9 with h | h
        · exact h
        · exfalso
          have : s / 2^k = 0 := Nat.div_eq_of_lt (Nat.lt_of_lt_of_le hs (by have : (2:Nat)^9 ≤ 2^k := Nat.pow_le_pow_right (by omega) h; omega))
          omega
      have hgt2 : (0 : Int) < (s : Int) / 2^k := by
        rw [show ((s : Int) / 2 ^ k) = ((s / 2 ^ k : Nat) : Int) from by simp]; omega
      have hnn := div_nn s k
      have hbm := bit_mod s k
      clear hgt
      cases hbit : s.testBit k
      · rw [hbit] at hbm
        have HS := Lib.hid (mem_step0 hbit)
        clear hbit
        go_wp2
        go_roundw
        case rel => exact ⟨k + 1, A, cap, by omega, by go_num, by rw [HS.out], by rw [HS.out]; exact HO.out, hb⟩
        case measure => simp [intOf]; omega
      · rw [hbit] at hbm
        have HS := Lib.hid (mem_step1 hbit)
        clear hbit
        obtain ⟨m, hm⟩ : ∃ m, m = (mem s k).length := ⟨_, rfl⟩
        have HM := Lib.hid hm
        rw [← hm] at hlen HO ⊢
        clear hm
        go_wp2_with (at_builtin; refine wpList_append_lies _ rfl _ _ _ rfl w.heap.size 3 i0 _ 1 8 Try.underlying35 hi0 hz0 hz1 hz2 rfl (by decide) (.slice A m cap) m ((mem s k).map (Value.int .i64)) rfl (HO.out.alloc _) ⟨wr.heap.size, 0, none⟩ 1 1 [.int .i64 k] rfl rfl (World.news_of_block (cs := #[.int .i64 k]) (t := 3) (fr := (0, 0)) (heap_alloc_new wr _)) (by simp [Value.oneCell']) (by omega) (by unfold maxLen; omega) (by omega) (by simp; omega) (wr.heap.size + 1) (by simp) ?_; intro gg cap2 w4 hown4 hgrow hat hlt4)
        have hb4 : Below w.heap.size w w4 := (hb.alloc hsz (.cells #[.int .i64 k] 3)).grown hgrow (by simp; omega) fun j hj => owns_le HO.out hj
        go_roundw
        case rel => exact ⟨k + 1, some ⟨gg, 0, none⟩, cap2, by omega, by go_num, by rw [HS.out, HM.out]; simp, by rw [HS.out]; simpa [HM.out] using hown4, hb4⟩
        case measure => simp [intOf]; omega
    · have hz : (s : Int) / 2^k = 0 := by
        have e0 : s / 2^k = 0 := by generalize s / 2^k = z at *; omega
        rw [show ((s : Int) / 2 ^ k) = ((s / 2 ^ k : Nat) : Int) from by simp, e0]; rfl
      have hlt : s < 2^k := by
        rcases Nat.lt_or_ge s (2^k) with h | h
        · exact h
        · exfalso; have := Nat.div_pos h (Nat.two_pow_pos k); omega
      have HS := Lib.hid (mem_stop hlt hk)
      clear hgt hlt
      go_wp2
      go_ret
      exact ⟨A, cap, by rw [HS.out]; rfl, by rw [HS.out]; exact HO.out, hb⟩
end Go.Proofs.Ytnldodnpakpeeaa

namespace Go.Proofs.Ytnldodnpakpeeaa
open Go.RowKit Vo

theorem owns_less {w : World} {base base' : Nat} {e : TypeId} {size : Nat} {v : Value} {n : Nat} {xs : List Value} (h : w.ownsRow base e size v n xs) (hb : base' ≤ base) : w.ownsRow base' e size v n xs := by
  obtain ⟨h1, h2⟩ := h
  refine ⟨h1, ?_⟩
  rcases h2 with h2 | ⟨g, cap, cur, hv, hg, r⟩
  · exact Or.inl h2
  · exact Or.inr ⟨g, cap, cur, hv, by omega, r⟩

/-- The set of the members below k that alone are of a kind, and their list. -/
def alone (p : Nat → Bool) : Nat → Nat
  | 0 => 0
  | k+1 => if p (2^k) then alone p k ||| 2^k else alone p k
def aloneL (p : Nat → Bool) : Nat → List Int
  | 0 => []
  | k+1 => aloneL p k ++ if p (2^k) then [(k : Int)] else []
theorem alone_lt (p : Nat → Bool) (k : Nat) : alone p k < 2^k := by
  induction k with
  | zero => simp [alone]
  | succ k ih =>
    have h1 : alone p k < 2^(k+1) := Nat.lt_trans ih (Nat.pow_lt_pow_right (by omega) (by omega))
    simp only [alone]; split
    · exact Nat.or_lt_two_pow h1 (Nat.pow_lt_pow_right (by omega) (by omega))
    · exact h1
theorem aloneL_eq (p : Nat → Bool) (k n : Nat) (h : k ≤ n) : mem (alone p k) n = aloneL p k := by
  induction k with
  | zero => simp [alone, aloneL, mem_zero]
  | succ k ih =>
    simp only [alone, aloneL]; split
    · rw [mem_or (alone_lt p k) (by omega), ih (by omega)]
    · rw [ih (by omega)]; simp
theorem aloneL_congr {p p' : Nat → Bool} {k : Nat} (h : ∀ j, j < k → p (2^j) = p' (2^j)) : aloneL p k = aloneL p' k := by
  induction k with
  | zero => rfl
  | succ k ih => simp only [aloneL]; rw [ih (fun j hj => h j (by omega)), h k (by omega)]

set_option maxRecDepth 20000 in
set_option maxHeartbeats 2000000 in
theorem list_any (s : Nat) (w : World) (hs : s < 512) :
    Calls Try.prog 153 #[.int .u64 s] w fun e w' => IntsAt (mem s 9) w w' e := by
  obtain ⟨i0, hi0, hz0, hz1, hz2⟩ := infoIntParts
  have h9 := mem_len s 9
  obtain ⟨L, hL⟩ : ∃ L, L = (mem s 9).length := ⟨_, rfl⟩
  rw [← hL] at h9
  have HL := Lib.hid hL
  clear hL
  go_enter Try.func153, Try.ntmps153
  go_wp2_with fail
  refine (size_any s _ hs).mono ?_
  rintro e w1 ⟨rfl, rfl⟩
  rw [← HL.out]
  go_wp2_with (at_make; refine wpList_make_own _ rfl _ _ 35 rfl w.heap.size 3 i0 (.int .i64 0) 1 Try.underlying35 hi0 hz0 hz1 .i64 .i64 L L rfl rfl rfl (by rw [hz2]; omega) (by unfold maxLen; omega) (by simp) ?_; intro w1 hown hgrow)
  go_loopw [3, 4, 8] (fun v _ i wr => ∃ (k : Nat) (A : Option Addr) (cap : Nat), k ≤ 9 ∧ i = .int .i64 k ∧ v = .slice A (mem s k).length cap ∧ wr.ownsRow w.heap.size 3 1 (.slice A (mem s k).length cap) (mem s k).length ((mem s k).map (Value.int .i64)) ∧ Below w.heap.size w wr) (fun _ _ i _ => 9 - (intOf i).toNat)
  case atStart => exact ⟨0, some ⟨w.heap.size, 0, none⟩, L, by omega, rfl, rfl, hown, (Below.refl _ _).grown hgrow (Nat.le_refl _) (fun j hj => by cases hj)⟩
  case round =>
    obtain ⟨k, A, cap, hk, rfl, rfl, hown2, hb⟩ := hrel
    have HO := Lib.hid hown2
    clear hown2
    have hlen := mem_len s k
    have hsz := hb.size
    by_cases hk9 : k < 9
    · cases hbit : s.testBit k
      · have HB := Lib.hid hbit
        have HS := Lib.hid (mem_step0 hbit)
        clear hbit
        go_wp2_with (go_at_call 123; refine (has_any s k _ (by omega) hs).mono ?_; rintro e w' ⟨rfl, rfl⟩; rw [HB.out])
        go_roundw
        case rel => exact ⟨k + 1, A, cap, by omega, by go_num, by rw [HS.out], by rw [HS.out]; exact HO.out, hb⟩
        case measure => simp [intOf]; omega
      · have HB := Lib.hid hbit
        have HS := Lib.hid (mem_step1 hbit)
        clear hbit
        obtain ⟨m, hm⟩ : ∃ m, m = (mem s k).length := ⟨_, rfl⟩
        have HM := Lib.hid hm
        rw [← hm] at hlen HO ⊢
        clear hm
        go_wp2_with (first | (go_at_call 123; refine (has_any s k _ (by omega) hs).mono ?_; rintro e w' ⟨rfl, rfl⟩; rw [HB.out]) | (at_builtin; refine wpList_append_lies _ rfl _ _ _ rfl w.heap.size 3 i0 _ 1 8 Try.underlying35 hi0 hz0 hz1 hz2 rfl (by decide) (.slice A m cap) m ((mem s k).map (Value.int .i64)) rfl (HO.out.alloc _) ⟨wr.heap.size, 0, none⟩ 1 1 [.int .i64 k] rfl rfl (World.news_of_block (cs := #[.int .i64 k]) (t := 3) (fr := (0, 0)) (heap_alloc_new wr _)) (by simp [Value.oneCell']) (by omega) (by unfold maxLen; omega) (by omega) (by simp; omega) (wr.heap.size + 1) (by simp) ?_; intro gg cap2 w4 hown4 hgrow hat hlt4))
        have hb4 : Below w.heap.size w w4 := (hb.alloc hsz (.cells #[.int .i64 k] 3)).grown hgrow (by simp; omega) fun j hj => owns_le HO.out hj
        go_roundw
        case rel => exact ⟨k + 1, some ⟨gg, 0, none⟩, cap2, by omega, by go_num, by rw [HS.out, HM.out]; simp, by rw [HS.out]; simpa [HM.out] using hown4, hb4⟩
        case measure => simp [intOf]; omega
    · obtain rfl : k = 9 := by omega
      go_wp2
      go_ret
      exact ⟨A, cap, rfl, HO.out, hb⟩

def ruleP (q : Int) (ws : List Int) (n : Nat) (s : Nat) : Bool := winB q ws n s && !winB q ws n (co n s)
def vetoP (q : Int) (ws : List Int) (n : Nat) (s : Nat) : Bool := !winB q ws n (co n s)
/-- One member's weight. -/
theorem wtK_one {ws : List Int} {i n : Nat} (h : i < n) : wtK ws (2^i) n = ws.getD i 0 := by
  have lo : ∀ k, k ≤ i → wtK ws (2^i) k = 0 := by
    intro k
    induction k with
    | zero => intro _; rfl
    | succ k ih => intro hk; simp only [wtK]; rw [ih (by omega), Nat.testBit_two_pow_of_ne (by omega)]; simp
  have hi : ∀ d, wtK ws (2^i) (i + 1 + d) = ws.getD i 0 := by
    intro d
    induction d with
    | zero => simp only [wtK]; rw [lo i (Nat.le_refl _), Nat.testBit_two_pow_self]; simp
    | succ d ih => rw [show i + 1 + (d + 1) = (i + 1 + d) + 1 from rfl, wtK, ih, Nat.testBit_two_pow_of_ne (by omega)]; simp
  rw [show n = i + 1 + (n - (i + 1)) by omega]
  exact hi _
theorem vetoP_one {q ws n i} (h : i < n) : vetoP q ws n (2^i) = decide (sumK ws n - ws.getD i 0 < q) := by
  unfold vetoP winB
  rw [wtK_co (Nat.pow_lt_pow_right (by omega) h) (Nat.le_refl _), wtK_one h]
  generalize sumK ws n - ws.getD i 0 = x
  by_cases hd : x < q
  · rw [decide_eq_true hd, decide_eq_false (by omega)]; rfl
  · rw [decide_eq_false hd, decide_eq_true (by omega)]; rfl
theorem ruleP_one {q ws n i} (h : i < n) : ruleP q ws n (2^i) = (decide (q ≤ ws.getD i 0) && decide (sumK ws n - ws.getD i 0 < q)) := by
  have := vetoP_one (q := q) (ws := ws) h
  unfold ruleP; unfold vetoP at this
  rw [this]; unfold winB; rw [wtK_one h]

def vetoL (q : Int) (ws : List Int) (n : Nat) : List Int := if goodB q ws n then aloneL (vetoP q ws n) n else []
theorem vetoL_yes {q ws n} (h : goodB q ws n = true) : vetoL q ws n = aloneL (vetoP q ws n) n := if_pos h
theorem vetoL_no {q ws n} (h : goodB q ws n = false) : vetoL q ws n = [] := if_neg (by rw [h]; simp)

/-- A slice of the call's own that holds these integers, and a truth. -/
def PairAt (L : List Int) (ok : Bool) (w w' : World) (e : Ending) : Prop :=
  ∃ A cap, e = .returned (.tuple #[.slice A L.length cap, .bool ok]) ∧ w'.ownsRow w.heap.size 3 1 (.slice A L.length cap) L.length (L.map (Value.int .i64)) ∧ Below w.heap.size w w'
theorem PairAt.none_ {w w' : World} (hb : Below w.heap.size w w') : PairAt [] false w w' (.returned (.tuple #[.slice none 0 0, .bool false])) :=
  ⟨none, 0, rfl, World.ownsRow_nil _ _ _ _, hb⟩

def firstOf (L : List Int) : Int := L.getD 0 0
def anyOf (L : List Int) : Bool := decide (0 < L.length)
def ruleL (q : Int) (ws : List Int) (n : Nat) : List Int := if goodB q ws n then aloneL (ruleP q ws n) n else []
theorem ruleL_yes {q ws n} (h : goodB q ws n = true) : ruleL q ws n = aloneL (ruleP q ws n) n := if_pos h
theorem ruleL_no {q ws n} (h : goodB q ws n = false) : ruleL q ws n = [] := if_neg (by rw [h]; simp)

end Go.Proofs.Ytnldodnpakpeeaa
