/- Texts of Gz, Gu. -/
import Derived.Test.YtnldodnpakpeeaaPkQ42
import Derived.Test.YtnldodnpakpeeaaPkQ43
import Derived.Test.YtnldodnpakpeeaaPkQ38
import Derived.Outline
namespace Go.Proofs.Ytnldodnpakpeeaa
open Go.RowKit Vo

theorem valP_codes : ∀ n, 1 ≤ n → n ≤ 4 → ((codesK n).all fun c => (List.range 6).all fun k => (List.range (2^n)).all fun a => valP (fun s => c.testBit s) n k a == valP (winS (leastC n c)) n k a) = true := by
  intro n h1 h2
  obtain rfl | rfl | rfl | rfl : n = 1 ∨ n = 2 ∨ n = 3 ∨ n = 4 := by omega
  all_goals decide +kernel
theorem fit_code {n c : Nat} (h1 : 1 ≤ n) (h4 : n ≤ 4) (hc : c ∈ codesK n) {q : Clu} (hq : AskK n q) : fitP (fun s => c.testBit s) n q = fitK (leastC n c) n q := by
  rw [← fitP_fitK (fun t ht => leastC_lt ht) hq]
  have h := valP_codes n h1 h4
  rw [List.all_eq_true] at h
  have h := h c hc
  rw [List.all_eq_true] at h
  obtain ⟨k, a, b⟩ := q
  obtain ⟨k0, k5, a0, a1⟩ := hq
  simp only at k0 k5 a0 a1
  obtain ⟨kk, rfl⟩ : ∃ kk : Nat, k = kk := ⟨k.toNat, by omega⟩
  have h := h kk (List.mem_range.2 (by omega))
  rw [List.all_eq_true] at h
  have hn2 : n ≤ 2^n := Nat.le_of_lt Nat.lt_two_pow_self
  have hp := Nat.two_pow_pos n
  unfold fitP
  simp only
  by_cases hk : (kk : Int) = 1 ∨ 3 < (kk : Int)
  · rw [if_pos hk, if_pos hk]
    have := h 0 (List.mem_range.2 hp)
    rw [beq_iff_eq] at this
    rw [show ((0 : Nat) : Int) = 0 from rfl] at this
    rw [this]
  · rw [if_neg hk, if_neg hk]
    have ha : 0 ≤ a ∧ a < (2^n : Nat) := by
      by_cases e : (kk : Int) = 0
      · exact a0 e
      · have := a1 (by omega)
        omega
    obtain ⟨aa, rfl⟩ : ∃ aa : Nat, a = aa := ⟨a.toNat, by omega⟩
    have := h aa (List.mem_range.2 (by omega))
    rw [beq_iff_eq] at this
    rw [this]
theorem anyU_congr {p p' : Clu → Bool} {C : List Clu} : ∀ k, (∀ j, j < k → p (cAt C j) = p' (cAt C j)) → anyU p C k = anyU p' C k
  | 0, _ => rfl
  | k+1, h => by
    unfold anyU
    rw [anyU_congr k (fun j hj => h j (by omega)), h k (by omega)]
/-- The codes of the games that fit, in order, have the solutions as their least sets. -/
theorem sol_codes {n : Nat} {C : List Clu} (h1 : 1 ≤ n) (h4 : n ≤ 4) (hask : ∀ j, j < C.length → AskK n (cAt C j)) : ((codesK n).filter (fitC n C)).map (leastC n) = solK n C :=
  games_filter n h1 h4 (fitC n C) (fitAll n C C.length) fun c hc => by
    unfold fitC fitAll
    rw [anyU_congr (p' := fun q => !fitK (leastC n c) n q) C.length fun j hj => by rw [fit_code h1 h4 hc (hask j hj)]]
/-- All games that fit, as the model lists them. -/
theorem AllQ.sol {n : Nat} {C : List Clu} {w w' : World} {e : Ending} (h : AllQ n C w w' e) (h1 : 1 ≤ n) (h4 : n ≤ 4) (hask : ∀ j, j < C.length → AskK n (cAt C j)) :
    ∃ (Q : GP) (B : Option Addr) (cp : Nat), e = .returned (.slice B (solK n C).length cp) ∧ Q.map (fun p => leastC n p.1) = solK n C ∧ GL w.heap.size n Q (.slice B (solK n C).length cp) w' ∧ Below w.heap.size w w' := by
  obtain ⟨Q, v, rfl, hq, hG, hb⟩ := h
  have hs : Q.map (fun p => leastC n p.1) = solK n C := by
    rw [← sol_codes h1 h4 hask, ← hq, List.map_map]; rfl
  have hl : Q.length = (solK n C).length := by rw [← hs, List.length_map]
  obtain ⟨B, cp, hv⟩ := owns_sliceN hG.1
  rw [hl] at hv
  subst hv
  exact ⟨Q, B, cp, rfl, hs, hG, hb⟩
theorem puzB_nat {m : Int} {C : List Clu} (h : puzB m C = true) : ∃ q : Nat, m = q ∧ 1 ≤ q ∧ q ≤ 4 ∧ (∀ j, j < C.length → AskK q (cAt C j)) := by
  cases hb : inB m 1 4 with
  | false => rw [puzB_size hb] at h; cases h
  | true =>
    simp [inB] at hb
    obtain ⟨q, rfl⟩ : ∃ q : Nat, m = q := ⟨m.toNat, by omega⟩
    exact ⟨q, rfl, by omega, by omega, puzB_asks h (by omega) (by omega)⟩

set_option maxRecDepth 20000 in
set_option maxHeartbeats 4000000 in
theorem pzSolved_any (q n cap : Nat) (A : Option Addr) (C : List Clu) (w : World) (h1 : 1 ≤ q) (h4 : q ≤ 4) (hl : n ≤ 1048576) (hk : KCl w A n C) (hask : ∀ j, j < C.length → AskK q (cAt C j)) :
    Calls Try.prog 61 #[.int .i64 q, .slice A n cap] w fun e w' => e = .returned (.bool (decide ((solK q C).length = 1))) ∧ Below w.heap.size w w' := by
  have HALL := Lib.hid ((pzAll_any q n A cap C w h1 h4 hl hk (fun j hj => hask j (by rw [hk.1]; exact hj))).mono fun e w' h => h.sol h1 h4 hask)
  obtain ⟨R, hR⟩ : ∃ R : Nat, R = (solK q C).length := ⟨_, rfl⟩
  rw [← hR] at HALL ⊢
  clear hR hk hask
  go_enter Try.func61, Try.ntmps61
  go_wp2_with (first
    | (go_at_call 57; refine HALL.out.mono ?_; rintro e w2 ⟨Q, B, cp, rfl, hq, hG, hb2⟩)
    | fail)
  have h : ((R : Int) == 1) = decide (R = 1) := by
    rw [Bool.eq_iff_iff, beq_iff_eq, decide_eq_true_iff]
    omega
  go_ret
  exact ⟨by rw [← h]; rfl, hb2⟩

end Go.Proofs.Ytnldodnpakpeeaa

namespace Go.Proofs.Ytnldodnpakpeeaa
open Go.RowKit Vo

set_option maxRecDepth 20000 in
set_option maxHeartbeats 4000000 in
/-- readSolutions: a list of games, and whether there are any. -/
theorem readSolutions_any (m : Int) (A : Option Addr) (n cap : Nat) (C : List Clu) (w : World) (hl : n ≤ 1048576) (hk : KCl w A n C) :
    Calls Try.prog 104 #[.agg #[.int .i64 m, .slice A n cap]] w fun e w' => ((puzB m C = false ∧ e = .returned (.tuple #[.slice none 0 0, .bool false])) ∨ (puzB m C = true ∧ ∃ (q : Nat) (v : Value), m = q ∧ 1 ≤ q ∧ q ≤ 4 ∧ e = .returned (.tuple #[v, .bool (decide (0 < (solK q C).length))]) ∧ GSb w.heap.size q (solK q C) v w')) ∧ Below w.heap.size w w' := by
  have b0 := below1 w (.cells #[.int .i64 m, .slice A n cap] 28)
  obtain ⟨c0, c1⟩ := (BoxT.new 28 w (.int .i64 m) (.slice A n cap)).cells
  have HR := Lib.hid (readRiddle_any m A n cap C _ hl (hk.now b0))
  clear hk
  cases hp : puzB m C with
  | false =>
    rw [hp] at HR
    clear hp
    go_enter Try.func104, Try.ntmps104
    go_wp2_with fail
    refine HR.out.mono ?_
    rintro e w1 ⟨h, hb1⟩
    obtain rfl : e = .returned (.tuple #[.pointer none, .bool false]) := by
      rcases h with ⟨_, h⟩ | ⟨h, _⟩
      · exact h
      · simp at h
    clear h c0 c1
    go_wp2
    go_ret2
    exact ⟨Or.inl ⟨by first | rfl | trivial, rfl⟩, bfrom b0 hb1⟩
  | true =>
    rw [hp] at HR
    have HPP := Lib.hid hp
    clear hp
    go_enter Try.func104, Try.ntmps104
    go_wp2_with fail
    refine HR.out.mono ?_
    rintro e w1 ⟨h, hb1⟩
    obtain ⟨q, h', rfl, hq1, hq4, rfl, hrd⟩ : ∃ (q h' : Nat), m = q ∧ 1 ≤ q ∧ q ≤ 4 ∧ e = .returned (.tuple #[.pointer (some ⟨h', 0, none⟩), .bool true]) ∧ RdAt _ q C h' w1 := by
      rcases h with ⟨h, _⟩ | ⟨_, h⟩
      · simp at h
      · exact h
    have g1 := bfrom b0 hb1
    have HS := Lib.hid (solutions_any _ q C h' w1 hq1 hq4 hb1.size HPP.out hrd)
    clear h c0 c1 hrd
    go_wp2_with fail
    refine HS.out.mono ?_
    rintro e w2 ⟨v', rfl, hgs, hb2⟩
    obtain ⟨Bq, cq, rfl⟩ := GSb.slice hgs
    have HG := Lib.hid (hgs.low (base' := w.heap.size) b0.size)
    have HD := Lib.hid (show decide ((0 : Int) < ((solK q C).length : Int)) = decide (0 < (solK q C).length) from by congr 1; exact propext (by omega))
    clear hgs
    go_wp2
    go_ret2
    exact ⟨Or.inr ⟨by first | rfl | trivial, q, _, rfl, hq1, hq4, by rw [← HD.out]; rfl, HG.out⟩, bfrom g1 hb2⟩

def fsOk (m : Int) (C : List Clu) : Bool := puzB m C && decide (0 < (solK m.toNat C).length)
def fsL (m : Int) (C : List Clu) : List (List Int) := if fsOk m C then setsL ((solK m.toNat C).getD 0 []) else []
theorem solK_get {m i : Nat} {C : List Clu} (h1 : 1 ≤ m) (h4 : m ≤ 4) (hi : i < (solK m C).length) : ((solK m C).getD i []).length ≤ 16 ∧ ∀ s ∈ (solK m C).getD i [], s < 2^m := by
  have hm : (solK m C).getD i [] ∈ gamesK m := by
    rw [List.getD_eq_getElem?_getD, List.getElem?_eq_getElem hi]
    exact (List.mem_filter.1 (List.getElem_mem hi)).1
  obtain ⟨k, hk, he⟩ := List.getElem_of_mem hm
  have := gamesK_get h1 h4 hk
  rw [List.getD_eq_getElem?_getD, List.getElem?_eq_getElem hk, Option.getD_some, he] at this
  exact this
theorem getD_lt {S : List Nat} {B : Nat} (h : ∀ s ∈ S, s < B) {j : Nat} (hj : j < S.length) : S.getD j 0 < B := h _ (by rw [List.getD_eq_getElem?_getD, List.getElem?_eq_getElem hj]; exact List.getElem_mem hj)
theorem two4 {q : Nat} (h : q ≤ 4) : 2^q ≤ 512 := by
  obtain rfl | rfl | rfl | rfl | rfl : q = 0 ∨ q = 1 ∨ q = 2 ∨ q = 3 ∨ q = 4 := by omega
  all_goals decide

end Go.Proofs.Ytnldodnpakpeeaa
