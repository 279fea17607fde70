/- Texts of Gz, Gt. -/
import Derived.Test.YtlcfimddcedbcabPkQ37
import Derived.Test.YtlcfimddcedbcabPkQ38
import Derived.Outline
namespace Go.Proofs.Ytlcfimddcedbcab
open Go.RowKit Vo

theorem valP_codes : ∀ n, 1 ≤ n → n ≤ 4 → ((codesK n).all fun c => (List.range 6).all fun k => (List.range (2^n)).all fun a => valP (fun s => c.testBit s) n k a == valP (winS (leastC n c)) n k a) = true := by
  intro n h1 h2
  obtain rfl | rfl | rfl | rfl : n = 1 ∨ n = 2 ∨ n = 3 ∨ n = 4 := by omega
  all_goals decide +kernel
theorem fit_code {n c : Nat} (h1 : 1 ≤ n) (h4 : n ≤ 4) (hc : c ∈ codesK n) {q : Clu} (hq : AskK n q) : fitP (fun s => c.testBit s) n q = fitK (leastC n c) n q := by
  rw [← fitP_fitK (fun t ht => leastC_lt ht) hq]
  have h := valP_codes n h1 h4
  rw [List.all_eq_true] at h
  have h := h c hc
  rw [List.all_eq_true] at h
  obtain ⟨k, a, b⟩ := q
  obtain ⟨k0, k5, a0, a1⟩ := hq
  simp only at k0 k5 a0 a1
  obtain ⟨kk, rfl⟩ : ∃ kk : Nat, k = kk := ⟨k.toNat, by omega⟩
  have h := h kk (List.mem_range.2 (by omega))
  rw [List.all_eq_true] at h
  have hn2 : n ≤ 2^n := Nat.le_of_lt Nat.lt_two_pow_self
  have hp := Nat.two_pow_pos n
  unfold fitP
  simp only
  by_cases hk : (kk : Int) = 1 ∨ 3 < (kk : Int)
  · rw [if_pos hk, if_pos hk]
    have := h 0 (List.mem_range.2 hp)
    rw [beq_iff_eq] at this
    rw [show ((0 : Nat) : Int) = 0 from rfl] at this
    rw [this]
  · rw [if_neg hk, if_neg hk]
    have ha : 0 ≤ a ∧ a < (2^n : Nat) := by
      by_cases e : (kk : Int) = 0
      · exact a0 e
      · have := a1 (by omega)
        omega
    obtain ⟨aa, rfl⟩ : ∃ aa : Nat, a = aa := ⟨a.toNat, by omega⟩
    have := h aa (List.mem_range.2 (by omega))
    rw [beq_iff_eq] at this
    rw [this]
theorem anyU_congr {p p' : Clu → Bool} {C : List Clu} : ∀ k, (∀ j, j < k → p (cAt C j) = p' (cAt C j)) → anyU p C k = anyU p' C k
  | 0, _ => rfl
  | k+1, h => by
    unfold anyU
    rw [anyU_congr k (fun j hj => h j (by omega)), h k (by omega)]
/-- The codes of the games that fit, in order, have the solutions as their least sets. -/
theorem sol_codes {n : Nat} {C : List Clu} (h1 : 1 ≤ n) (h4 : n ≤ 4) (hask : ∀ j, j < C.length → AskK n (cAt C j)) : ((codesK n).filter (fitC n C)).map (leastC n) = solK n C :=
  games_filter n h1 h4 (fitC n C) (fitAll n C C.length) fun c hc => by
    unfold fitC fitAll
    rw [anyU_congr (p' := fun q => !fitK (leastC n c) n q) C.length fun j hj => by rw [fit_code h1 h4 hc (hask j hj)]]
/-- All games that fit, as the model lists them. -/
theorem AllQ.sol {n : Nat} {C : List Clu} {w w' : World} {e : Ending} (h : AllQ n C w w' e) (h1 : 1 ≤ n) (h4 : n ≤ 4) (hask : ∀ j, j < C.length → AskK n (cAt C j)) :
    ∃ (Q : GP) (B : Option Addr) (cp : Nat), e = .returned (.slice B (solK n C).length cp) ∧ Q.map (fun p => leastC n p.1) = solK n C ∧ GL w.heap.size n Q (.slice B (solK n C).length cp) w' ∧ Below w.heap.size w w' := by
  obtain ⟨Q, v, rfl, hq, hG, hb⟩ := h
  have hs : Q.map (fun p => leastC n p.1) = solK n C := by
    rw [← sol_codes h1 h4 hask, ← hq, List.map_map]; rfl
  have hl : Q.length = (solK n C).length := by rw [← hs, List.length_map]
  obtain ⟨B, cp, hv⟩ := owns_sliceN hG.1
  rw [hl] at hv
  subst hv
  exact ⟨Q, B, cp, rfl, hs, hG, hb⟩
theorem puzB_nat {m : Int} {C : List Clu} (h : puzB m C = true) : ∃ q : Nat, m = q ∧ 1 ≤ q ∧ q ≤ 4 ∧ (∀ j, j < C.length → AskK q (cAt C j)) := by
  cases hb : inB m 1 4 with
  | false => rw [puzB_size hb] at h; cases h
  | true =>
    simp [inB] at hb
    obtain ⟨q, rfl⟩ : ∃ q : Nat, m = q := ⟨m.toNat, by omega⟩
    exact ⟨q, rfl, by omega, by omega, puzB_asks h (by omega) (by omega)⟩

set_option maxRecDepth 20000 in
set_option maxHeartbeats 4000000 in
theorem sCountSolutions_any (m : Int) (A : Option Addr) (n cap : Nat) (C : List Clu) (w : World) (hl : n ≤ 1048576) (_hc : n ≤ cap) (hk : KCl w A n C) :
    Calls Try.prog 23 #[.agg #[.int .i64 m, .slice A n cap]] w fun e w' => e = .returned (.tuple #[.int .i64 (if puzB m C then (solK m.toNat C).length else 0 : Nat), .bool (puzB m C)]) ∧ Below w.heap.size w w' := by
  have b0 := below1 w (.cells #[.int .i64 m, .slice A n cap] 31)
  have hx := BoxT.new 31 w (.int .i64 m) (.slice A n cap)
  obtain ⟨c0, c1⟩ := hx.cells
  have HP := Lib.hid (pzGood_any m A n cap C _ (by omega) (hk.now b0))
  have HK := Lib.hid (hk.now b0)
  have hcl := hk.1
  obtain ⟨R, hR⟩ : ∃ R : Nat, R = if puzB m C then (solK m.toNat C).length else 0 := ⟨_, rfl⟩
  rw [← hR]
  clear hk
  cases hp : puzB m C with
  | false =>
    rw [hp, if_neg (by simp)] at hR
    subst hR
    rw [hp] at HP
    clear hp hcl
    go_enter Try.func23, Try.ntmps23
    go_wp2_with fail
    refine HP.out.mono ?_
    rintro e w1 ⟨rfl, hb1⟩
    go_wp2
    go_ret2
    exact ⟨rfl, bfrom b0 hb1⟩
  | true =>
    obtain ⟨q, rfl, h1, h4, hask⟩ := puzB_nat hp
    rw [hp, if_pos rfl, Int.toNat_natCast] at hR
    rw [hp] at HP
    have HR := Lib.hid hR
    have HALL := Lib.hid (fun W (hW : Below (w.alloc (.cells #[.int .i64 (q : Nat), .slice A n cap] 31)).heap.size (w.alloc (.cells #[.int .i64 (q : Nat), .slice A n cap] 31)) W) => (pzAll_any q n A cap C W h1 h4 hl (HK.out.now hW) (fun j hj => hask j (by omega))).mono fun e w' h => h.sol h1 h4 hask)
    clear hp hcl hask hR
    go_enter Try.func23, Try.ntmps23
    go_wp2_with fail
    refine HP.out.mono ?_
    rintro e w1 ⟨rfl, hb1⟩
    clear c0 c1
    obtain ⟨c0, c1⟩ := (hx.now hb1).cells
    go_wp2_with (first
      | (go_at_call 58; refine (HALL.out _ hb1).mono ?_; rintro e w2 ⟨Q, B, cp, rfl, hq, hG, hb2⟩; rw [← HR.out])
      | fail)
    go_ret2
    exact ⟨rfl, bfrom b0 (bfrom hb1 hb2)⟩

set_option maxRecDepth 20000 in
set_option maxHeartbeats 4000000 in
theorem pzSolved_any (q n cap : Nat) (A : Option Addr) (C : List Clu) (w : World) (h1 : 1 ≤ q) (h4 : q ≤ 4) (hl : n ≤ 1048576) (hk : KCl w A n C) (hask : ∀ j, j < C.length → AskK q (cAt C j)) :
    Calls Try.prog 66 #[.int .i64 q, .slice A n cap] w fun e w' => e = .returned (.bool (decide ((solK q C).length = 1))) ∧ Below w.heap.size w w' := by
  have HALL := Lib.hid ((pzAll_any q n A cap C w h1 h4 hl hk (fun j hj => hask j (by rw [hk.1]; exact hj))).mono fun e w' h => h.sol h1 h4 hask)
  obtain ⟨R, hR⟩ : ∃ R : Nat, R = (solK q C).length := ⟨_, rfl⟩
  rw [← hR] at HALL ⊢
  clear hR hk hask
  go_enter Try.func66, Try.ntmps66
  go_wp2_with (first
    | (go_at_call 58; refine HALL.out.mono ?_; rintro e w2 ⟨Q, B, cp, rfl, hq, hG, hb2⟩)
    | fail)
  have h : ((R : Int) == 1) = decide (R = 1) := by
    rw [Bool.eq_iff_iff, beq_iff_eq, decide_eq_true_iff]
    omega
  go_ret
  exact ⟨by rw [← h]; rfl, hb2⟩

set_option maxRecDepth 20000 in
set_option maxHeartbeats 4000000 in
theorem sIsSolved_any (m : Int) (A : Option Addr) (n cap : Nat) (C : List Clu) (w : World) (hl : n ≤ 1048576) (_hc : n ≤ cap) (hk : KCl w A n C) :
    Calls Try.prog 30 #[.agg #[.int .i64 m, .slice A n cap]] w fun e w' => e = .returned (.tuple #[.bool (puzB m C && decide ((solK m.toNat C).length = 1)), .bool (puzB m C)]) ∧ Below w.heap.size w w' := by
  have b0 := below1 w (.cells #[.int .i64 m, .slice A n cap] 31)
  have hx := BoxT.new 31 w (.int .i64 m) (.slice A n cap)
  obtain ⟨c0, c1⟩ := hx.cells
  have HP := Lib.hid (pzGood_any m A n cap C _ (by omega) (hk.now b0))
  have HK := Lib.hid (hk.now b0)
  obtain ⟨R, hR⟩ : ∃ R, R = decide ((solK m.toNat C).length = 1) := ⟨_, rfl⟩
  rw [← hR]
  clear hk
  cases hp : puzB m C with
  | false =>
    rw [hp] at HP
    clear hp hR
    go_enter Try.func30, Try.ntmps30
    go_wp2_with fail
    refine HP.out.mono ?_
    rintro e w1 ⟨rfl, hb1⟩
    go_wp2
    go_ret2
    exact ⟨rfl, bfrom b0 hb1⟩
  | true =>
    obtain ⟨q, rfl, h1, h4, hask⟩ := puzB_nat hp
    rw [Int.toNat_natCast] at hR
    rw [hp] at HP
    have HSV := Lib.hid (fun W (hW : Below (w.alloc (.cells #[.int .i64 (q : Nat), .slice A n cap] 31)).heap.size (w.alloc (.cells #[.int .i64 (q : Nat), .slice A n cap] 31)) W) => pzSolved_any q n cap A C W h1 h4 hl (HK.out.now hW) hask)
    rw [← hR] at HSV
    clear hp hask hR
    go_enter Try.func30, Try.ntmps30
    go_wp2_with fail
    refine HP.out.mono ?_
    rintro e w1 ⟨rfl, hb1⟩
    clear c0 c1
    obtain ⟨c0, c1⟩ := (hx.now hb1).cells
    go_wp2_with (first
      | (go_at_call 66; refine (HSV.out _ hb1).mono ?_; rintro e w2 ⟨rfl, hb2⟩)
      | fail)
    go_ret2
    exact ⟨by simp, bfrom b0 (bfrom hb1 hb2)⟩
end Go.Proofs.Ytlcfimddcedbcab

namespace Go.Proofs.Ytlcfimddcedbcab
open Go.RowKit Vo

theorem fitAll_zero (m : Nat) (C : List Clu) (L : List (List Nat)) : L.filter (fitAll m C 0) = L := List.filter_eq_self.2 fun _ _ => rfl
theorem fitAll_succ (m : Nat) (C : List Clu) (j : Nat) (L : List (List Nat)) : (L.filter (fitAll m C j)).filter (fitAll m [cAt C j] 1) = L.filter (fitAll m C (j+1)) := by
  rw [List.filter_filter]
  refine List.filter_congr fun S _ => ?_
  unfold fitAll
  simp only [anyU, cAt, List.getD_cons_zero]
  cases anyU (fun c => !fitK S m c) C j <;> simp
theorem leftN_get {m j i : Nat} {C : List Clu} (h1 : 1 ≤ m) (h4 : m ≤ 4) (hi : i < ((gamesK m).filter (fitAll m C j)).length) : (((gamesK m).filter (fitAll m C j)).getD i []).length ≤ 16 ∧ ∀ s ∈ ((gamesK m).filter (fitAll m C j)).getD i [], s < 2^m := by
  have hm : ((gamesK m).filter (fitAll m C j)).getD i [] ∈ (gamesK m) := by
    rw [List.getD_eq_getElem?_getD, List.getElem?_eq_getElem hi]
    exact (List.mem_filter.1 (List.getElem_mem hi)).1
  obtain ⟨k, hk, he⟩ := List.getElem_of_mem hm
  have := gamesK_get h1 h4 hk
  rw [List.getD_eq_getElem?_getD, List.getElem?_eq_getElem hk, Option.getD_some, he] at this
  exact this
/-- How many games fit the first clues. -/
def leftN (m : Nat) (C : List Clu) (j : Nat) : Nat := ((gamesK m).filter (fitAll m C j)).length
def leftL (m : Nat) (C : List Clu) (k : Nat) : List Int := (List.range (k+1)).map fun j => (leftN m C j : Int)
theorem leftL_succ (m : Nat) (C : List Clu) (k : Nat) : leftL m C (k+1) = leftL m C k ++ [(leftN m C (k+1) : Int)] := by unfold leftL; rw [List.range_succ (n := k+1), List.map_append]; rfl
theorem leftL_len (m : Nat) (C : List Clu) (k : Nat) : (leftL m C k).length = k + 1 := by simp [leftL]
theorem kcl_one {w : World} (x y z : Int) {g : Nat} (h : Bx3 90 w g (.int .i64 x) (.int .i64 y) (.int .i64 z)) : KCl w (some ⟨g, 0, none⟩) 1 [(x, y, z)] := by
  refine ⟨rfl, g, 0, fun _ => ⟨rfl, h.lt, fun j hj => ?_⟩⟩
  obtain ⟨a0, a1, a2⟩ := h.cells
  match j, hj with
  | 0, _ => exact a0
  | 1, _ => exact a1
  | 2, _ => exact a2

theorem owns_block {w : World} {base : Nat} {e : TypeId} {size : Nat} {v : Value} {n : Nat} {xs : List Value} (h : w.ownsRow base e size v n xs) {k : Nat} (hk : v.ownBlock = some k) : ∃ cur, w.heap[k]? = some (.cells cur e (0, 0)) := by
  rcases h.2 with ⟨hv, _⟩ | ⟨g, cap, cur, hv, _, hh, _⟩
  · rw [hv] at hk; simp [Value.ownBlock] at hk
  · rw [hv] at hk
    have : g = k := by simpa [Value.ownBlock] using hk
    exact ⟨cur, this ▸ hh⟩
theorem owns_apartT {w : World} {base base' : Nat} {e e' : TypeId} {size size' : Nat} {v v' : Value} {n n' : Nat} {xs xs' : List Value} (h : w.ownsRow base e size v n xs) (h' : w.ownsRow base' e' size' v' n' xs') (he : e ≠ e') {k : Nat} (hk : v.ownBlock = some k) : some k ≠ v'.ownBlock := fun e0 => by
  obtain ⟨c1, h1⟩ := owns_block h hk
  obtain ⟨c2, h2⟩ := owns_block h' e0.symm
  rw [h1] at h2
  injection h2 with h2
  injection h2 with _ h2
  exact he h2
theorem GSb.past {base m base' : Nat} {Ls : List (List Nat)} {v : Value} {w w' : World} (h : GSb base m Ls v w) {e : TypeId} {size : Nat} {vc : Value} {n : Nat} {xs : List Value} (hc : w.ownsRow base' e size vc n xs) (h1 : 79 ≠ e) (h2 : 107 ≠ e) (hg : w.grownBy w' vc.ownBlock) : GSb base m Ls v w' := by
  obtain ⟨ys, G, C, ho, h⟩ := h
  exact ⟨ys, G, C, owns_grown ho hg (fun k hk => owns_apartT ho hc h1 hk), fun i hi => ⟨(h i hi).1, (h i hi).2.1, (h i hi).2.2.1, owns_grown (h i hi).2.2.2 hg (fun k hk => owns_apartT (h i hi).2.2.2 hc h2 hk)⟩⟩

set_option maxRecDepth 20000 in
set_option maxHeartbeats 8000000 in
theorem iLeftByClues_any (m : Int) (A : Option Addr) (n cap : Nat) (C : List Clu) (w : World) (hl : n ≤ 1048576) (hk : KCl w A n C) :
    Calls Try.prog 33 #[.agg #[.int .i64 m, .slice A n cap]] w fun e w' => Ans (RS (if puzB m C then leftL m.toNat C C.length else [])) (puzB m C) w w' e := by
  have b0 := below1 w (.cells #[.int .i64 m, .slice A n cap] 31)
  obtain ⟨c0, c1⟩ := (BoxT.new 31 w (.int .i64 m) (.slice A n cap)).cells
  have HR := Lib.hid (readRiddle_any m A n cap C _ hl (hk.now b0))
  clear hk
  obtain ⟨R, hR⟩ : ∃ R : List Int, R = if puzB m C then leftL m.toNat C C.length else [] := ⟨_, rfl⟩
  rw [← hR]
  cases hp : puzB m C with
  | false =>
    rw [hp, if_neg (by simp)] at hR
    subst hR
    rw [hp] at HR
    clear hp
    go_enter Try.func33, Try.ntmps33
    go_wp2_with fail
    refine HR.out.mono ?_
    rintro e w1 ⟨h, hb1⟩
    obtain rfl : e = .returned (.tuple #[.pointer none, .bool false]) := by
      rcases h with ⟨_, h⟩ | ⟨h, _⟩
      · exact h
      · simp at h
    clear h c0 c1
    go_wp2
    go_ret2
    exact ⟨_, rfl, (RS.of_own (L := []) (World.ownsRow_nil w1 w.heap.size 3 1)).lies (Nat.le_refl _), bfrom b0 hb1⟩
  | true =>
    rw [hp, if_pos rfl] at hR
    rw [hp] at HR
    have HPP := Lib.hid hp
    have HRR := Lib.hid hR
    obtain ⟨i0, hi0, hz0, hz1, hz2⟩ := infoIntParts
    clear hp hR
    go_enter Try.func33, Try.ntmps33
    go_wp2_with fail
    refine HR.out.mono ?_
    rintro e w1 ⟨h, hb1⟩
    obtain ⟨q, h', rfl, hq1, hq4, rfl, hrd⟩ : ∃ (q h' : Nat), m = q ∧ 1 ≤ q ∧ q ≤ 4 ∧ e = .returned (.tuple #[.pointer (some ⟨h', 0, none⟩), .bool true]) ∧ RdAt _ q C h' w1 := by
      rcases h with ⟨h, _⟩ | ⟨_, h⟩
      · simp at h
      · exact h
    have g1 := bfrom b0 hb1
    obtain ⟨h0, A2, n2, cp2, v, hn, hx, hc, hg⟩ := hrd
    obtain ⟨x0, x1, x2⟩ := hx.cells
    obtain ⟨Bq, cq, rfl⟩ := GSb.slice hg
    have h8 := puzB_le HPP.out
    have HASK := Lib.hid (puzB_asks HPP.out hq1 hq4)
    have HK := Lib.hid (OwnCl.kcl hn hc)
    have HG := Lib.hid (hg.low (base' := w.heap.size) b0.size)
    have HN := Lib.hid hn
    have HLE := Lib.hid (show ∀ j, leftN q C j ≤ 1000 from fun j => Nat.le_trans (List.length_filter_le _ _) (gamesK_le q hq1 hq4))
    have HL0 := Lib.hid (show leftN q C 0 = (gamesK q).length from by unfold leftN; rw [fitAll_zero])
    have HX := Lib.hid hx
    have hn8 : n2 ≤ 8 := by omega
    clear h c0 c1 hc hg hn hx h8 HR
    have bl := below1 w1 (.cells #[.int .i64 ((gamesK q).length : Nat)] 3)
    have hl1 := heap_alloc_new w1 (.cells #[.int .i64 ((gamesK q).length : Nat)] 3)
    have hg1w := g1.size
    have HOC := Lib.hid (show (w1.alloc (.cells #[.int .i64 ((gamesK q).length : Nat)] 3)).ownsRow w.heap.size 3 1 (.slice (some ⟨w1.heap.size, 0, none⟩) 1 1) 1 ((leftL q C 0).map (Value.int .i64)) from
      ⟨by simp [leftL_len], Or.inr ⟨w1.heap.size, 1, #[.int .i64 ((gamesK q).length : Nat)], rfl, hg1w, hl1, Nat.le_refl _, by unfold maxLen; omega, rfl, by simp [leftL, HL0.out]⟩⟩)
    have HX1 := Lib.hid (HX.out.now bl)
    clear hl1
    obtain ⟨z0, z1, z2⟩ := HX1.out.cells
    have HG1 := Lib.hid (HG.out.now bl)
    have hz1w : (w1.alloc (.cells #[.int .i64 ((gamesK q).length : Nat)] 3)).heap.size = w1.heap.size + 1 := by simp
    go_wp2_with fail
    go_loopw [6, 7, 30] (fun lv cv i wr => ∃ (j : Nat) (vv vc : Value), j ≤ n2 ∧ i = .int .i64 j ∧ vv = lv ∧ vc = cv ∧ GSb w.heap.size q ((gamesK q).filter (fitAll q C j)) vv wr ∧ wr.ownsRow w.heap.size 3 1 vc (j+1) ((leftL q C j).map (Value.int .i64)) ∧ Below w1.heap.size w1 wr ∧ ∀ k, vc.ownBlock = some k → w1.heap.size ≤ k) (fun _ _ i _ => n2 - (intOf i).toNat)
    case atStart => exact ⟨0, _, _, Nat.zero_le _, rfl, rfl, rfl, by rw [fitAll_zero]; exact HG1.out, HOC.out, bl, fun k hk => by simp [Value.ownBlock] at hk; omega⟩
    case round =>
      obtain ⟨j, vv, vc, hj, rfl, rfl, rfl, hcur, hcnt, hbr, hvc⟩ := hrel
      have HB := Lib.hid hbr
      have HCUR := Lib.hid hcur
      have hcur0 := hcur
      have HCNT := Lib.hid hcnt
      have HVC := Lib.hid hvc
      have hzr := hbr.size
      clear hbr hcur hvc z0 z1 z2 x0 x1 x2
      by_cases hlt : j < n2
      · obtain ⟨b, off, rfl, hcl⟩ := (HK.out.now HB.out).get (by omega)
        obtain ⟨hc0, hc1, hc2⟩ := hcl.at hlt
        clear hcl
        have HFS := Lib.hid (fitAll_succ q C j (gamesK q))
        have HLS := Lib.hid (leftL_succ q C j)
        have HAK := Lib.hid (HASK.out j (by rw [HN.out]; exact hlt))
        obtain ⟨x, y, z, hxyz⟩ : ∃ x y z, cAt C j = (x, y, z) := ⟨_, _, _, rfl⟩
        rw [hxyz] at hc0 hc1 hc2 HFS HAK
        simp only at hc0 hc1 hc2
        obtain ⟨Bv, cv, rfl⟩ := GSb.slice hcur0
        obtain ⟨Bc, cc, rfl⟩ := owns_sliceR hcnt
        have b2 : Below wr.heap.size wr ((wr.alloc (.cells #[.int .i64 x, .int .i64 y, .int .i64 z] 90)).alloc (.cells #[.int .i64 x, .int .i64 y, .int .i64 z] 90)) := (below1 wr _).alloc (by simp) _
        have hbx := Bx3.new 90 (wr.alloc (.cells #[.int .i64 x, .int .i64 y, .int .i64 z] 90)) (.int .i64 x) (.int .i64 y) (.int .i64 z)
        simp only [World.size_alloc] at hbx
        have HA1 : ∀ i, i < 1 → AskK q (cAt [(x, y, z)] i) := by
          intro i hi
          obtain rfl : i = 0 := by omega
          exact HAK.out
        have HF := Lib.hid (gamesThatFit_any q w.heap.size ((gamesK q).filter (fitAll q C j)) (.slice Bv ((gamesK q).filter (fitAll q C j)).length cv) (some ⟨wr.heap.size + 1, 0, none⟩) 1 1 [(x, y, z)] _ hq4 (HLE.out j) (fun i hi => leftN_get hq1 hq4 hi) (HCUR.out.now b2) (Nat.le_trans hg1w (Nat.le_trans hzr b2.size)) (by omega) (kcl_one x y z hbx) HA1)
        rw [HFS.out] at HF
        have HLJ := Lib.hid (HLE.out (j+1))
        have HL1 := Lib.hid (show ((gamesK q).filter (fitAll q C (j+1))).length = leftN q C (j+1) from rfl)
        clear hcur0 hcnt hxyz hbx
        go_wp2_with fail
        refine HF.out.mono ?_
        rintro e w3 ⟨v3, rfl, hg3, hb3⟩
        obtain ⟨B3, c3, rfl⟩ := GSb.slice hg3
        rw [HL1.out] at hg3
        rw [HL1.out]
        have b23 := bfrom b2 hb3
        have HG3 := Lib.hid hg3
        have HC3 := Lib.hid (owns_now HCNT.out b23)
        have HB3 := Lib.hid (HB.out.trans (b23.mono hzr))
        have hz3 := HB3.out.size
        obtain ⟨lx, hlx⟩ : ∃ lx, lx = leftN q C (j+1) := ⟨_, rfl⟩
        have HLX := Lib.hid hlx
        rw [← hlx] at HG3 HLJ
        rw [← hlx]
        have hlx9 : lx ≤ 1000 := HLJ.out
        clear hlx hg3 hb3
        go_wp2_with (first
          | (at_builtin; refine wpList_append_lies _ rfl _ _ _ rfl w.heap.size 3 i0 _ 1 8 Try.underlying49 hi0 hz0 hz1 hz2 rfl (by decide) (.slice Bc (j + 1) cc) (j + 1) ((leftL q C j).map (Value.int .i64)) rfl (HC3.out.alloc _) ⟨w3.heap.size, 0, none⟩ 1 1 [.int .i64 (lx : Nat)] rfl rfl (World.news_of_block (cs := #[.int .i64 (lx : Nat)]) (t := 3) (fr := (0, 0)) (heap_alloc_new w3 _)) (by simp [Value.oneCell']) (by omega) (by unfold maxLen; omega) (by omega) (by simp; omega) (w3.heap.size + 1) (by simp) ?_; intro gg cap3 w7 hown7 hgrow7 hat7 hlt7)
          | fail)
        have HP := Lib.hid (GSb.past (HG3.out.now (below1 w3 (.cells #[.int .i64 (lx : Nat)] 3))) (HC3.out.alloc (.cells #[.int .i64 (lx : Nat)] 3)) (by decide) (by decide) hgrow7)
        have HB7 := Lib.hid (Below.grown (HB3.out.alloc HB3.out.size (.cells #[.int .i64 (lx : Nat)] 3)) hgrow7 (by simp; omega) (fun i hi => HVC.out i hi))
        have hv7 : ∀ k, (Value.slice (some ⟨gg, 0, none⟩) (j + 1 + 1) cap3).ownBlock = some k → w1.heap.size ≤ k := fun k hk => by
          have hk : gg = k := by simpa [Value.ownBlock] using hk
          rcases hat7 with h | h
          · have := HVC.out _ h; omega
          · omega
        have HO7 := Lib.hid (show w7.ownsRow w.heap.size 3 1 (.slice (some ⟨gg, 0, none⟩) (j + 1 + 1) cap3) (j + 1 + 1) ((leftL q C (j+1)).map (Value.int .i64)) from by rw [HLS.out, List.map_append, ← HLX.out]; exact hown7)
        clear hown7 hgrow7 hat7
        go_roundw
        case rel => exact ⟨j + 1, _, _, by omega, by go_num, rfl, rfl, HP.out, HO7.out, HB7.out, hv7⟩
        case measure => simp [intOf]; omega
      · obtain rfl : j = n2 := by omega
        obtain ⟨Bc, cc, rfl⟩ := owns_sliceR hcnt
        clear hcnt
        go_wp2
        go_ret2
        refine ⟨.slice Bc (j + 1) cc, rfl, ?_, bfrom b0 (hb1.trans (HB.out.mono hb1.size))⟩
        have h := RS.of_own (L := R) (A := Bc) (cap := cc) (w := wr) (base := w.heap.size) (by rw [HRR.out, Int.toNat_natCast, HN.out, leftL_len]; exact HCNT.out)
        rw [HRR.out, Int.toNat_natCast, HN.out, leftL_len] at h
        rw [HRR.out, Int.toNat_natCast, HN.out]
        exact h.lies (Nat.le_refl _)
end Go.Proofs.Ytlcfimddcedbcab
