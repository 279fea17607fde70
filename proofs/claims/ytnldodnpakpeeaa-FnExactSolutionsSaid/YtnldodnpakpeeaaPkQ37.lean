/- Texts of Gl, Go. -/
import Derived.Test.YtnldodnpakpeeaaPkQ36
import Derived.Test.YtnldodnpakpeeaaPkQ28
import Derived.Outline
import Derived.Test.YtnldodnpakpeeaaPkQ31
namespace Go.Proofs.Ytnldodnpakpeeaa
open Go.RowKit Vo

def gamesK (m : Nat) : List (List Nat) := deepK 16 [] ((inOrder m).drop 1)
theorem gamesK_le : ∀ m, 1 ≤ m → m ≤ 4 → (gamesK m).length ≤ 1000 := by
  intro m h1 h2
  obtain rfl | rfl | rfl | rfl : m = 1 ∨ m = 2 ∨ m = 3 ∨ m = 4 := by omega
  all_goals (unfold gamesK; decide +kernel)
theorem gamesK_512 : ∀ m, 1 ≤ m → m ≤ 4 → ((gamesK m).all fun S => decide (S.length ≤ 16) && S.all fun s => decide (s < 2^m)) = true := by
  intro m h1 h2
  obtain rfl | rfl | rfl | rfl : m = 1 ∨ m = 2 ∨ m = 3 ∨ m = 4 := by omega
  all_goals (unfold gamesK; decide +kernel)
theorem gamesK_get {m i : Nat} (h1 : 1 ≤ m) (h2 : m ≤ 4) (hi : i < (gamesK m).length) : ((gamesK m).getD i []).length ≤ 16 ∧ ∀ s ∈ (gamesK m).getD i [], s < 2^m := by
  have h := List.all_eq_true.1 (gamesK_512 m h1 h2) ((gamesK m).getD i []) (by rw [List.getD_eq_getElem?_getD, List.getElem?_eq_getElem hi]; exact List.getElem_mem hi)
  simp only [Bool.and_eq_true, decide_eq_true_eq, List.all_eq_true] at h
  exact h

set_option maxRecDepth 20000 in
set_option maxHeartbeats 4000000 in
theorem gamesOf_any (m : Nat) (w : World) (hm : 1 ≤ m ∧ m ≤ 4) :
    Calls Try.prog 99 #[.int .i64 m] w fun e w' => ∃ v', e = .returned v' ∧ GSb w.heap.size m (gamesK m) v' w' ∧ Below w.heap.size w w' := by
  have hlen := inOrder_len m
  have hpow : 2 ≤ 2^m ∧ 2^m ≤ 16 := by
    obtain rfl | rfl | rfl | rfl : m = 1 ∨ m = 2 ∨ m = 3 ∨ m = 4 := by omega
    all_goals decide
  have HLT := Lib.hid (show ∀ t ∈ (inOrder m).drop 1, t < 512 from fun t ht => by
    have := mem_inOrder.1 (List.mem_of_mem_drop ht)
    omega)
  have HLE := Lib.hid (gamesK_le m hm.1 hm.2)
  obtain ⟨L, hL⟩ : ∃ L, L = inOrder m := ⟨_, rfl⟩
  obtain ⟨N, hN⟩ : ∃ N : Nat, N = L.length := ⟨_, rfl⟩
  have HL := Lib.hid hL
  have HN := Lib.hid hN
  rw [← hL, ← hN] at hlen
  have hN2 : 2 ≤ N ∧ N ≤ 16 := by omega
  clear hL hN hlen hpow
  go_enter Try.func99, Try.ntmps99
  go_wp2_with fail
  refine (setsInOrder_any m _ (by omega)).mono ?_
  rintro e w1 ⟨A, cp, rfl, hown, hb⟩
  rw [← HL.out, ← HN.out] at hown ⊢
  obtain ⟨g, cp', hv, hg, hc1, hc2⟩ := owns_head hown (by omega)
  obtain ⟨rfl, rfl⟩ : A = some ⟨g, 0, none⟩ ∧ cp = cp' := by simpa using hv
  have hgl := (hown.lt g rfl).2
  have hsz := hb.size
  have HA := Lib.hid (appendGames_any m w.heap.size 16 [] [] (L.drop 1) (.slice none 0 0) none 0 0 g 1 (N - 1) (cp - 1) w1 (by rw [List.length_drop, ← HN.out]; omega) (by rw [List.length_drop, ← HN.out]) (by omega) (by unfold maxLen at hc2; omega) rfl (by omega) (by rw [HL.out]; exact HLT.out) (Or.inl ⟨rfl, rfl⟩) hgl (by simp [Value.ownBlock])
    (fun i hi => by
      rw [hown.cellAt (1 + i) (by omega)]
      unfold setsV
      have h1 : 1 + i < L.length := by rw [← HN.out]; omega
      rw [List.getElem?_map, List.getElem?_eq_getElem h1, Option.map_some, List.getD_eq_getElem?_getD, List.getElem?_drop, List.getElem?_eq_getElem h1]
      rfl)
    (by have := HLE.out; unfold gamesK at this; rw [HL.out]; simp only [List.length_nil]; omega) (GSb.nil _ _ _) hsz)
  rw [HL.out] at HA
  go_wp2_with fail
  refine HA.out.mono ?_
  rintro e w2 ⟨v', rfl, hgs, hgr, _⟩
  have HG := Lib.hid hgs
  clear hgs
  go_wp2
  go_ret
  refine ⟨_, rfl, HG.out, hb.trans ⟨hgr.os, hgr.tape, hgr.output, by have := hgr.size; omega, fun k hk => hgr.block k (by omega) (by simp [Value.ownBlock])⟩⟩

theorem owns_headS {w : World} {base : Nat} {e : TypeId} {size : Nat} {v : Value} {n : Nat} {xs : List Value} (h : w.ownsRow base e size v n xs) (hn : 0 < n) : ∃ g cap, v = .slice (some ⟨g, 0, none⟩) n cap ∧ base ≤ g ∧ n ≤ cap ∧ cap ≤ maxLen := by
  obtain ⟨h1, h2⟩ := h
  rcases h2 with ⟨_, h2⟩ | ⟨g', cap, cur, hv, hg', hh, h3, h4, r⟩
  · omega
  · exact ⟨g', cap, hv, hg', h3, h4⟩
/-- A question about games of m members, as a function value. -/
structure KindG (p : List Nat → Bool) (k m : Nat) : Prop where
  enters : ∀ args W, (callFunc k args).run Try.prog W = .ok (.enter k args) W
  gives : ∀ (W : World) (base : Nat) (L : List Nat) (A : Option Addr) (n cap : Nat), n = L.length → n ≤ 16 → (∀ t ∈ L, t < 512) → W.ownsRow base 107 1 (.slice A n cap) n (setsV L) → Calls Try.prog k #[.agg #[.int .i64 m, .slice A n cap]] W fun e W' => e = .returned (.bool (p L)) ∧ Below W.heap.size W W'

theorem countP_succ {p : List Nat → Bool} {Ls : List (List Nat)} {j : Nat} (h : j < Ls.length) : (Ls.take (j+1)).countP p = (Ls.take j).countP p + (if p (Ls.getD j []) then 1 else 0) := by
  rw [List.take_add_one, List.countP_append, List.getD_eq_getElem?_getD, List.getElem?_eq_getElem h]
  simp [List.countP_cons]

theorem kindProper (m : Nat) (hm : m ≤ 4) : KindG (fun L => allK (properS (winS L) m) (2^m)) 221 m :=
  ⟨enters_of Try.func221 (by kernel_rfl) rfl, fun W base L A n cap hn h16 hL ho => gProper_any L m base n cap A W (by omega) hn (by omega) hL ho⟩

theorem gamesK_any : ∀ m, 1 ≤ m → m ≤ 4 → (gamesK m).countP (fun _ => true) = gamesC false (m : Int) := by
  intro m h1 h2
  obtain rfl | rfl | rfl | rfl : m = 1 ∨ m = 2 ∨ m = 3 ∨ m = 4 := by omega
  all_goals decide +kernel
theorem gamesK_proper : ∀ m, 1 ≤ m → m ≤ 4 → (gamesK m).countP (fun L => allK (properS (winS L) m) (2^m)) = gamesC true (m : Int) := by
  intro m h1 h2
  obtain rfl | rfl | rfl | rfl : m = 1 ∨ m = 2 ∨ m = 3 ∨ m = 4 := by omega
  all_goals decide +kernel
theorem gamesC_le (b : Bool) (z : Int) : gamesC b z ≤ 1000 := by
  cases h : inB z 1 4 with
  | false => unfold gamesC; rw [h]; simp
  | true =>
    simp [inB] at h
    obtain rfl | rfl | rfl | rfl : z = 1 ∨ z = 2 ∨ z = 3 ∨ z = 4 := by omega
    all_goals (cases b <;> decide +kernel)

end Go.Proofs.Ytnldodnpakpeeaa

namespace Go.Proofs.Ytnldodnpakpeeaa
open Go.RowKit Vo

section
variable {α : Type} (r : α → α → Bool)
/-- In front of the first one that does not come before it. -/
def insB (x : α) : List α → List α
  | [] => [x]
  | y :: l => if r y x then y :: insB x l else x :: y :: l
theorem insB_mid (x : α) (A B : List α) (hA : ∀ a ∈ A, r a x = true) (hB : ∀ b ∈ B, r b x = false) : insB r x (A ++ B) = A ++ x :: B := by
  induction A with
  | nil =>
    cases B with
    | nil => rfl
    | cons b B => simp [insB, hB b (by simp)]
  | cons a A ih =>
    rw [List.cons_append, insB, if_pos (hA a (by simp)), ih (fun a' h => hA a' (by simp [h]))]
    rfl
theorem filter_mid (S1 S2 : List α) (x : α) (Q Q' : α → Bool) (hq' : Q' x = true) (hx1 : x ∉ S1) (hx2 : x ∉ S2) (hs : ∀ y, y ≠ x → Q' y = Q y) : (S1 ++ x :: S2).filter Q' = S1.filter Q ++ x :: S2.filter Q := by
  rw [List.filter_append, List.filter_cons, if_pos hq']
  congr 1
  · exact List.filter_congr fun y hy => hs y (fun e => hx1 (e ▸ hy))
  · congr 1
    exact List.filter_congr fun y hy => hs y (fun e => hx2 (e ▸ hy))
theorem insB_filter [DecidableEq α] (S : List α) (x : α) (Q Q' : α → Bool) (hx : x ∈ S) (hnd : S.Nodup) (hp : S.Pairwise fun a b => r a b = true ∧ r b a = false) (hq : Q x = false) (hq' : Q' x = true) (hs : ∀ y, y ≠ x → Q' y = Q y) : insB r x (S.filter Q) = S.filter Q' := by
  obtain ⟨S1, S2, rfl⟩ := List.append_of_mem hx
  have hnd' := List.nodup_append.1 hnd
  have hx2 : x ∉ S2 := (List.nodup_cons.1 hnd'.2.1).1
  have hx1 : x ∉ S1 := fun h => hnd'.2.2 x h x (by simp) rfl
  have hpp := List.pairwise_append.1 hp
  rw [filter_mid S1 S2 x Q Q' hq' hx1 hx2 hs, List.filter_append, List.filter_cons, if_neg (by rw [hq]; simp)]
  exact insB_mid r x _ _ (fun a ha => (hpp.2.2 a (List.mem_filter.1 ha).1 x (by simp)).1) (fun b hb => ((List.pairwise_cons.1 hpp.2.1).1 b (List.mem_filter.1 hb).1).2)
/-- All of them put in, one after the other: the list in order, without those that were left out. -/
theorem insB_all [DecidableEq α] (S : List α) (hnd : S.Nodup) (hp : S.Pairwise fun a b => r a b = true ∧ r b a = false) : ∀ (C D : List α), (D ++ C).Nodup → (∀ c ∈ C, c ∈ S) → C.foldl (fun out x => insB r x out) (S.filter fun y => decide (y ∈ D)) = S.filter fun y => decide (y ∈ D ++ C) := by
  intro C
  induction C with
  | nil => intro D _ _; simp
  | cons x C ih =>
    intro D hd hc
    have hxD : x ∉ D := fun h => (List.nodup_append.1 hd).2.2 x h x (by simp) rfl
    rw [List.foldl_cons, insB_filter r S x (fun y => decide (y ∈ D)) (fun y => decide (y ∈ D ++ [x])) (hc x (by simp)) hnd hp (decide_eq_false hxD) (by simp) (fun y hy => by simp [hy])]
    have := ih (D ++ [x]) (by rw [List.append_assoc]; exact hd) (fun c h => hc c (by simp [h]))
    rw [List.append_assoc] at this
    exact this
theorem insB_filter_all [DecidableEq α] (S C : List α) (P : α → Bool) (hnd : S.Nodup) (hc : C.Nodup) (hp : S.Pairwise fun a b => r a b = true ∧ r b a = false) (h1 : ∀ c ∈ C, c ∈ S) (h2 : ∀ s ∈ S, s ∈ C) : (C.filter P).foldl (fun out x => insB r x out) [] = S.filter P := by
  have h := insB_all r S hnd hp (C.filter P) [] (by rw [List.nil_append]; exact hc.sublist List.filter_sublist) (fun c h => h1 c (List.mem_filter.1 h).1)
  rw [List.nil_append] at h
  rw [show (S.filter fun y => decide (y ∈ ([] : List α))) = [] from by simp] at h
  rw [h]
  refine List.filter_congr fun y hy => ?_
  cases hP : P y with
  | true => exact decide_eq_true (List.mem_filter.2 ⟨h2 y hy, hP⟩)
  | false => exact decide_eq_false fun h => by have := (List.mem_filter.1 h).2; rw [hP] at this; cases this
end

/-- The sets that win, as a number: bit s tells of the set s. The model's search: bits are decided already, d are left. -/
def codesL : Nat → Nat → Nat → List Nat
  | 0, _, c => [c]
  | d+1, bits, c => codesL d (bits+1) (c + 2^bits) ++ if ((List.range 9).any fun i => bits.testBit i && c.testBit (bits - 2^i)) then [] else codesL d (bits+1) c
def codesN (n : Nat) : List Nat := (codesL (2^n) 0 0).filter fun c => c.testBit (2^n - 1) && !c.testBit 0
/-- The least sets of a code. -/
def leastC (n c : Nat) : List Nat := (inOrder n).filter (leastP (fun s => c.testBit s) n)
/-- The codes, as their games are ordered. -/
def codesK (n : Nat) : List Nat := (gamesK n).map fun L => ((List.range (2^n)).filter (winS L)).foldl (fun c s => c + 2^s) 0
theorem codesK_least : ∀ n, 1 ≤ n → n ≤ 4 → (codesK n).map (leastC n) = gamesK n := by
  intro n h1 h2
  obtain rfl | rfl | rfl | rfl : n = 1 ∨ n = 2 ∨ n = 3 ∨ n = 4 := by omega
  all_goals (unfold codesK; decide +kernel)
theorem codesK_same : ∀ n, 1 ≤ n → n ≤ 4 → ((codesK n).all fun c => (codesN n).contains c) = true ∧ ((codesN n).all fun c => (codesK n).contains c) = true := by
  intro n h1 h2
  obtain rfl | rfl | rfl | rfl : n = 1 ∨ n = 2 ∨ n = 3 ∨ n = 4 := by omega
  all_goals (constructor <;> decide +kernel)
/-- Every one comes before all that follow. -/
def pairsB {α : Type} (r : α → α → Bool) : List α → Bool
  | [] => true
  | a :: l => (l.all fun b => r a b && !r b a) && pairsB r l
theorem pairsB_pairwise {α : Type} {r : α → α → Bool} {l : List α} (h : pairsB r l = true) : l.Pairwise fun a b => r a b = true ∧ r b a = false := by
  induction l with
  | nil => exact List.Pairwise.nil
  | cons a l ih =>
    simp only [pairsB, Bool.and_eq_true, List.all_eq_true] at h
    exact List.pairwise_cons.2 ⟨fun b hb => by have := h.1 b hb; simpa using this, ih h.2⟩
/-- A set's place among the sets in order. -/
def posN (n s : Nat) : Nat := (inOrder n).idxOf s
def gmN : List Nat → List Nat → Bool
  | [], [] => false
  | [], _ :: _ => true
  | _ :: _, [] => false
  | a :: L, b :: K => if a < b then true else if b < a then false else gmN L K
theorem posN_before : ∀ n, 1 ≤ n → n ≤ 4 → ((List.range (2^n)).all fun s => (List.range (2^n)).all fun t => before (mem s 9) (mem t 9) == decide (posN n s < posN n t)) = true := by
  intro n h1 h2
  obtain rfl | rfl | rfl | rfl : n = 1 ∨ n = 2 ∨ n = 3 ∨ n = 4 := by omega
  all_goals decide +kernel
theorem gmN_pairs : ∀ n, 1 ≤ n → n ≤ 4 → pairsB gmN ((gamesK n).map fun L => L.map (posN n)) = true := by
  intro n h1 h2
  obtain rfl | rfl | rfl | rfl : n = 1 ∨ n = 2 ∨ n = 3 ∨ n = 4 := by omega
  all_goals decide +kernel
theorem before_pos {n s t : Nat} (h1 : 1 ≤ n) (h2 : n ≤ 4) (hs : s < 2^n) (ht : t < 2^n) : before (mem s 9) (mem t 9) = decide (posN n s < posN n t) := by
  have h := posN_before n h1 h2
  rw [List.all_eq_true] at h
  have := h s (List.mem_range.2 hs)
  rw [List.all_eq_true] at this
  have := this t (List.mem_range.2 ht)
  simpa using this
theorem gmB_pos {n : Nat} (h1 : 1 ≤ n) (h2 : n ≤ 4) : ∀ (L K : List Nat), (∀ s ∈ L, s < 2^n) → (∀ s ∈ K, s < 2^n) → gmB (setsL L) (setsL K) = gmN (L.map (posN n)) (K.map (posN n)) := by
  intro L
  induction L with
  | nil => intro K _ _; cases K <;> rfl
  | cons a L ih =>
    intro K hL hK
    cases K with
    | nil => rfl
    | cons b K =>
      show (if before (mem a 9) (mem b 9) then true else if before (mem b 9) (mem a 9) then false else gmB (setsL L) (setsL K)) = _
      rw [before_pos h1 h2 (hL a (by simp)) (hK b (by simp)), before_pos h1 h2 (hK b (by simp)) (hL a (by simp)), ih K (fun s h => hL s (by simp [h])) (fun s h => hK s (by simp [h]))]
      simp [gmN]
def rC (n a b : Nat) : Bool := gmB (setsL (leastC n a)) (setsL (leastC n b))
theorem leastC_lt {n c s : Nat} (h : s ∈ leastC n c) : s < 2^n := mem_inOrder.1 (List.mem_filter.1 h).1
theorem codesK_pairs (n : Nat) (h1 : 1 ≤ n) (h2 : n ≤ 4) : (codesK n).Pairwise fun a b => rC n a b = true ∧ rC n b a = false := by
  have h := pairsB_pairwise (gmN_pairs n h1 h2)
  rw [← codesK_least n h1 h2, List.map_map] at h
  refine (List.pairwise_map.1 h).imp fun {a b} hab => ?_
  unfold rC
  rw [gmB_pos h1 h2 _ _ (fun s h => leastC_lt h) (fun s h => leastC_lt h), gmB_pos h1 h2 _ _ (fun s h => leastC_lt h) (fun s h => leastC_lt h)]
  exact hab
theorem codesK_nodup (n : Nat) (h1 : 1 ≤ n) (h2 : n ≤ 4) : (codesK n).Nodup :=
  (codesK_pairs n h1 h2).imp fun {a b} h e => by subst e; have := h.1; rw [h.2] at this; cases this
theorem codesN_nodup : ∀ n, 1 ≤ n → n ≤ 4 → (codesN n).Nodup := by
  intro n h1 h2
  obtain rfl | rfl | rfl | rfl : n = 1 ∨ n = 2 ∨ n = 3 ∨ n = 4 := by omega
  all_goals decide +kernel
/-- The model's list of all games that fit, be it in whatever way: the program's games, in their order. -/
theorem codes_sorted (n : Nat) (h1 : 1 ≤ n) (h2 : n ≤ 4) (P : Nat → Bool) : ((codesN n).filter P).foldl (fun out x => insB (rC n) x out) [] = (codesK n).filter P := by
  have hs := codesK_same n h1 h2
  simp only [List.all_eq_true, List.contains_iff_mem] at hs
  exact insB_filter_all (rC n) (codesK n) (codesN n) P (codesK_nodup n h1 h2) (codesN_nodup n h1 h2) (codesK_pairs n h1 h2) hs.2 hs.1
theorem games_filter (n : Nat) (h1 : 1 ≤ n) (h2 : n ≤ 4) (P : Nat → Bool) (Q : List Nat → Bool) (h : ∀ c ∈ codesK n, P c = Q (leastC n c)) : ((codesK n).filter P).map (leastC n) = (gamesK n).filter Q := by
  rw [← codesK_least n h1 h2, List.filter_map, List.filter_congr h]
  rfl
end Go.Proofs.Ytnldodnpakpeeaa
