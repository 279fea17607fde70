/- Texts of D1, A5. -/
import Derived.Test.YtnldodnpakpeeaaPkQ01
import Derived.Deep.OwnRows
import Derived.Laws.CopyOwn
import Derived.Deep.RegionWith
import Derived.Test.YtnldodnpakpeeaaPkQ05
import Derived.Test.YtnldodnpakpeeaaPkQ09
import Derived.Test.YtnldodnpakpeeaaPkQ11
import Derived.Outline
namespace Go.Proofs.Ytnldodnpakpeeaa
open Go.RowKit Vo

theorem splice_own {w : World} {g n : Nat} {ws : List Int} {cur cs : List Value} (hc : cs = (List.range n).map fun j => Value.int .i64 (ws.getD j 0)) (hn : cur.length = n)
    (h : w.heap[g]? = some (.cells (splice cur 0 cs).toArray 3 (0, 0))) : Ints w g n ws := by
  subst hc
  refine ⟨_, h, ?_, fun i hi => ?_⟩
  · have := length_splice cur 0 ((List.range n).map fun j => Value.int .i64 (ws.getD j 0)) (by simp [hn])
    show n ≤ (splice cur 0 _).toArray.size
    rw [List.size_toArray]; omega
  · simp [splice, List.getElem?_append, hi]

theorem splice_row {w : World} {base g n : Nat} {ws : List Int} {cur cs : List Value} (hb : base ≤ g) (h9 : n ≤ 9) (hc : cs = (List.range n).map fun j => Value.int .i64 (ws.getD j 0)) (hn : cur.length = n)
    (h : w.heap[g]? = some (.cells (splice cur 0 cs).toArray 3 (0, 0))) : w.ownsRow base 3 1 (.slice (some ⟨g, 0, none⟩) n n) n ((List.range n).map fun j => Value.int .i64 (ws.getD j 0)) := by
  have hl : cs.length = n := by rw [hc]; simp
  have e : splice cur 0 cs = cs := by
    unfold splice
    simp [List.drop_eq_nil_of_le (show cur.length ≤ cs.length by omega)]
  rw [e] at h
  refine ⟨by simp, Or.inr ⟨g, n, cs.toArray, rfl, hb, h, Nat.le_refl _, by unfold maxLen; omega, by simp [hl], ?_⟩⟩
  rw [← hc]
  simp [List.take_of_length_le (show cs.length ≤ n by omega)]
theorem owns_far {w : World} {base : Nat} {e : TypeId} {size : Nat} {v : Value} {n : Nat} {xs : List Value} (h : w.ownsRow base e size v n xs) {p : Addr} (hp : p.block < base) (u : Value) : (w.setCell p u).ownsRow base e size v n xs := by
  obtain ⟨h1, h2⟩ := h
  refine ⟨h1, ?_⟩
  rcases h2 with h2 | ⟨g, cap, cur, hv, hg, hh, r⟩
  · exact Or.inl h2
  · exact Or.inr ⟨g, cap, cur, hv, hg, (Below.heap_setCell w p u g (by omega)).trans hh, r⟩

theorem ints_of_row {w : World} {base g n cap : Nat} {ws : List Int} (h : w.ownsRow base 3 1 (.slice (some ⟨g, 0, none⟩) n cap) n ((List.range n).map fun j => Value.int .i64 (ws.getD j 0))) : Ints w g n ws :=
  Own.of_own h fun i hi => by rw [List.getElem?_map, List.getElem?_range hi]; rfl

theorem isSome_set {w : World} {p a : Addr} {u : Value} (h : (w.cell? a).isSome = true) : ((w.setCell p u).cell? a).isSome = true := by
  by_cases e : p = a
  · subst e; rw [World.cell?_setCell_same' w p u h]; rfl
  · rw [World.cell?_setCell_other w p a u e]; exact h

/-- The total's wrap. -/
theorem dual_q {q : Int} {ws : List Int} {n : Nat} (h : Vo.Good q ws n) : 1 ≤ sumK ws n - q + 1 ∧ sumK ws n - q + 1 ≤ 9000 := by
  have := h.tot; have := h.q1; have := h.q2; omega

/-- A slice that is empty, or holds these integers in a block from base on. -/
def Held (base : Nat) (w : World) (A : Option Addr) (m : Nat) (L : List Int) : Prop := (m = 0 ∧ A = none) ∨ ∃ g, A = some ⟨g, 0, none⟩ ∧ base ≤ g ∧ Ints w g m L
/-- A committee of the call's own, and a truth. -/
def ComAt (q' : Int) (m : Nat) (L : List Int) (ok : Bool) (w w' : World) (e : Ending) : Prop :=
  ∃ A cap, e = .returned (.tuple #[.agg #[.int .i64 q', .slice A m cap], .bool ok]) ∧ Held w.heap.size w' A m L ∧ Below w.heap.size w w'
def dualQ (q : Int) (ws : List Int) (n : Nat) : Int := if goodB q ws n then sumK ws n + 1 - q else 0
def dualN (q : Int) (ws : List Int) (n : Nat) : Nat := if goodB q ws n then n else 0
theorem dualQ_yes {q ws n} (h : goodB q ws n = true) : dualQ q ws n = sumK ws n + 1 - q := if_pos h
theorem dualQ_no {q ws n} (h : goodB q ws n = false) : dualQ q ws n = 0 := if_neg (by rw [h]; simp)
theorem dualN_yes {q ws n} (h : goodB q ws n = true) : dualN q ws n = n := if_pos h
theorem dualN_no {q ws n} (h : goodB q ws n = false) : dualN q ws n = 0 := if_neg (by rw [h]; simp)

theorem dualN_le (q : Int) (ws : List Int) (n : Nat) : dualN q ws n ≤ 9 := by
  by_cases hg : Vo.Good q ws n
  · rw [dualN_yes (goodB_true hg)]; exact hg.hi
  · rw [dualN_no (goodB_false hg)]; omega

end Go.Proofs.Ytnldodnpakpeeaa

namespace Go.Proofs.Ytnldodnpakpeeaa
open Go.RowKit Vo

/-- A row of sets of the call's own, as it was left. -/
theorem SSb.lies {base : Nat} {L : List (List Int)} {B : Option Addr} {k cp : Nat} {w : World} (h : SSb base L (.slice B k cp) w) (hk : k = L.length) : Lies (RSS L base w.heap.size (.slice B k cp)) base w.heap.size w :=
  RSS.lies (h.rss ⟨B, cp, by rw [hk]⟩) (Nat.le_refl _)


set_option maxRecDepth 20000 in
set_option maxHeartbeats 4000000 in
theorem told_any (S : List Nat) (m : Int) (base k cap : Nat) (A : Option Addr) (w : World) (hk : k = S.length) (hs : k ≤ 512) (hin : ∀ j, j < k → S.getD j 0 < 512) (hown : w.ownsRow base 107 1 (.slice A k cap) k (setsV S)) :
    Calls Try.prog 66 #[.agg #[.int .i64 m, .slice A k cap]] w fun e w' => ∃ B cp, e = .returned (.agg #[.int .i64 m, .slice B k cp]) ∧ Lies (RSS (setsL S) w.heap.size w'.heap.size (.slice B k cp)) w.heap.size w'.heap.size w' ∧ Below w.heap.size w w' := by
  have HO := Lib.hid hown
  have HIN := Lib.hid hin
  have HK := Lib.hid hk
  have HLEN := Lib.hid (show k = (setsL S).length from by rw [setsL_len, ← hk])
  clear hown hin hk
  have hb0 : Below w.heap.size w ((w.alloc (.cells #[.int .i64 m, .slice A k cap] 95)).alloc (.cells #[.int .i64 0, .slice none 0 0] 55)) := (below1 w _).alloc (by simp) _
  have hx := (BoxT.new 95 w (.int .i64 m) (.slice A k cap)).alloc (.cells #[.int .i64 0, .slice none 0 0] 55)
  have hr := BoxT.new 55 (w.alloc (.cells #[.int .i64 m, .slice A k cap] 95)) (.int .i64 0) (.slice none 0 0)
  simp only [World.size_alloc] at hr
  obtain ⟨w0, hw0⟩ : ∃ w0, w0 = (w.alloc (.cells #[.int .i64 m, .slice A k cap] 95)).alloc (.cells #[.int .i64 0, .slice none 0 0] 55) := ⟨_, rfl⟩
  have hsz0 : w0.heap.size = w.heap.size + 2 := by rw [hw0]; simp
  have K := Lib.hid (show ∀ W, Below w0.heap.size w0 W → (W.cell? ⟨w.heap.size, 0, none⟩ = some (.int .i64 m) ∧ W.cell? ⟨w.heap.size, 1, none⟩ = some (.slice A k cap) ∧ W.cell? ⟨w.heap.size + 1, 0, none⟩ = some (.int .i64 0) ∧ W.cell? ⟨w.heap.size + 1, 1, none⟩ = some (.slice none 0 0) ∧ W.frozen? ⟨w.heap.size + 1, 0, none⟩ = false ∧ W.frozen? ⟨w.heap.size + 1, 1, none⟩ = false) from fun W hb => by
    rw [hw0] at hb
    exact ⟨(hx.now hb).cells.1, (hx.now hb).cells.2, (hr.now hb).cells.1, (hr.now hb).cells.2, by have h := hr.now hb; unfold BoxT at h; simp [World.frozen?, h], by have h := hr.now hb; unfold BoxT at h; simp [World.frozen?, h]⟩)
  have HO0 := Lib.hid (show w0.ownsRow base 107 1 (.slice A k cap) k (setsV S) from by rw [hw0]; exact owns_now (owns_now HO.out (below1 w _)) (below1 _ _))
  have g0 : Below w.heap.size w w0 := by rw [hw0]; exact hb0
  have hg0 := Lib.hid g0
  clear hx hr hb0 HO
  obtain ⟨c0, c1, c2, c3, c4, c5⟩ := K.out _ (Below.refl _ _)
  go_enter Try.func66, Try.ntmps66
  go_wp2_with fail
  rw [← hw0]
  clear hw0 g0
  go_region_held3 (fun w' => w'.cell? ⟨w.heap.size, 0, none⟩ = some (.int .i64 m) ∧ w'.cell? ⟨w.heap.size, 1, none⟩ = some (.slice A k cap) ∧ (w'.cell? ⟨w.heap.size + 1, 0, none⟩).isSome = true ∧ (w'.cell? ⟨w.heap.size + 1, 1, none⟩).isSome = true ∧ w'.frozen? ⟨w.heap.size + 1, 0, none⟩ = false ∧ w'.frozen? ⟨w.heap.size + 1, 1, none⟩ = false)
    (first | exact ⟨c0, c1, by rw [c2]; rfl, by rw [c3]; rfl, c4, c5⟩ | exact ⟨a0, a1, by rw [a2]; rfl, by rw [a3]; rfl, a4, a5⟩ | ((try dsimp only); (repeat' apply And.intro); all_goals (first | exact isSome_set (isSome_set (Option.isSome_iff_exists.2 ⟨_, a2⟩)) | exact isSome_set (isSome_set (Option.isSome_iff_exists.2 ⟨_, a3⟩)) | go_keep)) | go_keep)
    (first
      | (go_at_call 108; refine (listsOf_any S base cap k A _ HK.out hs HIN.out (HO0.out.drew)).mono ?_; rintro e wA ⟨B, cp, rfl, hss, hbA⟩; have HSS := Lib.hid (hss.lies HLEN.out); clear hss; have gA := bfrom (Below.refl _ w0).drew hbA; obtain ⟨a0, a1, a2, a3, a4, a5⟩ := K.out _ gA))
  have hzA : w0.heap.size ≤ wA.heap.size := gA.size
  clear a0 a1 a4 a5 c0 c1 c2 c3 c4 c5
  go_wp2
  refine bodyPost_ret (v := .agg #[.int .i64 m, .slice B k cp]) (by simp [results, Try.results66, go_sem, a2, a3]) rfl ⟨B, cp, rfl, ?_, ?_⟩
  · refine Lies.rss_wide (Lies.far (Lies.far HSS.out (by simp; omega) _) (by simp; omega) _) (by simp; omega) (by simp) (by simp)
  · exact ((bfrom hg0.out gA).setCell (by simp) _).setCell (by simp) _
theorem AnsG.none_ {R : List (List Int) → Nat → Nat → Value → World → Prop} {w w' : World} (h0 : ∀ lo hi W, R [] lo hi (.slice none 0 0) W) (hb : Below w.heap.size w w') : AnsG R 0 [] false w w' (.returned (.tuple #[.agg #[.int .i64 0, .slice none 0 0], .bool false])) :=
  ⟨none, 0, rfl, ⟨Nat.le_refl _, fun w'' _ => h0 _ _ w''⟩, hb⟩
theorem RSS0.wide {L : List (List Int)} {lo lo' hi hi' : Nat} {v : Value} {w : World} (h : RSS0 L lo hi v w) (hl : lo' ≤ lo) (hh : hi ≤ hi') : RSS0 L lo' hi' v w := by
  obtain ⟨A, cap, hv, h⟩ := h
  refine ⟨A, cap, hv, ?_⟩
  rcases h with h | ⟨g, f, hA, h1, h2, ho, h⟩
  · exact Or.inl h
  · exact Or.inr ⟨g, f, hA, by omega, by omega, ho, fun i hi => RS.wide (h i hi) (Or.inr ⟨hl, hh⟩)⟩
theorem Lies.rss0_wide {L : List (List Int)} {lo lo' hi hi' : Nat} {v : Value} {w : World} (h : Lies (RSS0 L lo hi v) lo hi w) (hl : lo' ≤ lo) (hh : hi ≤ hi') (hs : hi' ≤ w.heap.size) : Lies (RSS0 L lo' hi' v) lo' hi' w :=
  ⟨hs, fun w' e => (h.2 w' fun k a b => e k (by omega) (by omega)).wide hl hh⟩
theorem RSS.none_ (lo hi : Nat) (W : World) : RSS [] lo hi (.slice none 0 0) W := ⟨none, 0, rfl, Or.inl rfl⟩
theorem RSS0.none_ (lo hi : Nat) (W : World) : RSS0 [] lo hi (.slice none 0 0) W := ⟨none, 0, rfl, Or.inl rfl⟩

set_option maxRecDepth 20000 in
set_option maxHeartbeats 4000000 in
theorem gmOf_any (p : Nat → Bool) (n g cap : Nat) (w : World) (hn : n < 10) (hw : Own w g 4 (2^n) (fun j => .bool (p j))) :
    Calls Try.prog 116 #[.int .i64 n, .slice (some ⟨g, 0, none⟩) (2^n : Nat) cap] w fun e w' => ∃ A c, e = .returned (.agg #[.int .i64 n, .slice A (setsL ((inOrder n).filter (leastP p n))).length c]) ∧ Lies (RSS0 (setsL ((inOrder n).filter (leastP p n))) w.heap.size w'.heap.size (.slice A (setsL ((inOrder n).filter (leastP p n))).length c)) w.heap.size w'.heap.size w' ∧ Below w.heap.size w w' := by
  have HW := Lib.hid hw
  clear hw
  obtain ⟨P, hP⟩ : ∃ P, P = 2 ^ n := ⟨_, rfl⟩
  have HP := Lib.hid hP
  have hr := BoxT.new 55 w (.int .i64 0) (.slice none 0 0)
  have KF := Lib.hid (show ∀ W, BoxT 55 W w.heap.size (.int .i64 0) (.slice none 0 0) → (W.frozen? ⟨w.heap.size, 0, none⟩ = false ∧ W.frozen? ⟨w.heap.size, 1, none⟩ = false) from fun W h => by unfold BoxT at h; exact ⟨by simp [World.frozen?, h], by simp [World.frozen?, h]⟩)
  have HV := Lib.hid (fun W => voLeast_any p n g cap W hn)
  rw [← hP] at HV ⊢
  clear hP
  obtain ⟨L, hL⟩ : ∃ L, L = setsL ((inOrder n).filter (leastP p n)) := ⟨_, rfl⟩
  rw [← hL] at HV ⊢
  clear hL
  go_enter Try.func116, Try.ntmps116
  go_wp2_with fail
  refine (HV.out _ (by rw [HP.out]; exact HW.out.alloc _)).mono ?_
  rintro e w1 ⟨v, rfl, hv, hb1⟩
  simp only [World.size_alloc] at hv
  obtain ⟨A, c, rfl⟩ : ∃ A c, v = .slice A L.length c := by obtain ⟨A, c, h, _⟩ := hv; exact ⟨A, c, h⟩
  have HR := Lib.hid hv
  clear hv
  have hr1 := hr.now hb1
  have hz1 := hb1.size
  simp only [World.size_alloc] at hz1
  obtain ⟨f0, f1⟩ := KF.out _ hr1
  obtain ⟨c0, c1⟩ := hr1.cells
  obtain ⟨ln, hln⟩ : ∃ z, z = L.length := ⟨_, rfl⟩
  rw [← hln] at HR ⊢
  have HLN := Lib.hid hln
  clear hln
  go_wp2
  refine bodyPost_ret (v := .agg #[.int .i64 n, .slice A ln c]) (by simp [results, Try.results116, go_sem, c0, c1]) rfl ⟨A, c, by rw [HLN.out], ?_, ?_⟩
  · rw [← HLN.out]
    exact Lies.rss0_wide (Lies.far (Lies.far (RSS0.lies HR.out (Nat.le_refl _)) (by first | omega | (simp; omega) | simp) _) (by first | omega | (simp; omega) | simp) _) (by omega) (by first | exact Nat.le_refl _ | simp) (by first | exact Nat.le_refl _ | simp)
  · exact ((bfrom (below1 w _) hb1).setCell (by simp) _).setCell (by simp) _

theorem totK_few {L : List (List Int)} {b : Nat} (h : ∀ i, (L.getD i []).length ≤ b) (k : Nat) : totK L k ≤ b * k := by
  induction k with
  | zero => simp [totK]
  | succ k ih => simp only [totK]; have := h k; rw [Nat.mul_succ]; omega
theorem setsL_few {S : List Nat} (hS : S.length ≤ 512) : tot (setsL S) + (setsL S).length ≤ 1048576 := by
  have h3 : tot (setsL S) ≤ 9 * (setsL S).length := totK_few (fun i => by
    rw [List.getD_eq_getElem?_getD, setsL, List.getElem?_map]
    cases S[i]? with
    | none => simp
    | some s => exact mem_len s 9) _
  have h2 := setsL_len S
  omega
/-- The members of a game, where there is one; its lists. -/
def okM (ok : Bool) (m : Int) : Int := if ok then m else 0
theorem okM_yes {ok m} (h : ok = true) : okM ok m = m := if_pos h
theorem okM_no {ok m} (h : ok = false) : okM ok m = 0 := if_neg (by rw [h]; simp)
def okG (ok : Bool) (S : List Nat) : List (List Int) := if ok then setsL S else []
theorem okG_yes {ok S} (h : ok = true) : okG ok S = setsL S := if_pos h
theorem okG_no {ok S} (h : ok = false) : okG ok S = [] := if_neg (by rw [h]; simp)
theorem okG_few {ok : Bool} {S : List Nat} (h : ok = true → S.length ≤ 512) : tot (okG ok S) + (okG ok S).length ≤ 1048576 := by
  cases ok with
  | true => rw [okG_yes rfl]; exact setsL_few (h rfl)
  | false => rw [okG_no rfl]; simp [tot, totK]
end Go.Proofs.Ytnldodnpakpeeaa
