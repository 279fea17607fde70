/- Contracts of the program's AddDummy, AddVeto: a member more. -/
import Derived.Test.YtipplbcjdcdapabDoorD1
import Derived.Test.YtipplbcjdcdapabDoorR4
import Derived.Test.YtipplbcjdcdapabDoorG1
import Derived.Outline
namespace Go.Proofs.YtipplbcjdcdapabDoor
open Go.RowKit Vo

/-- The first n weights and one more. -/
def addL (ws : List Int) (n : Nat) (x : Int) : List Int := ((List.range n).map fun j => ws.getD j 0) ++ [x]
theorem addL_len (ws : List Int) (n : Nat) (x : Int) : (addL ws n x).length = n + 1 := by simp [addL]
theorem addL_at {ws : List Int} {n : Nat} {x : Int} {j : Nat} (h : j < n) : (addL ws n x).getD j 0 = ws.getD j 0 := by
  simp [addL, List.getD_eq_getElem?_getD, List.getElem?_append, h]
theorem addL_end (ws : List Int) (n : Nat) (x : Int) : (addL ws n x).getD n 0 = x := by
  simp [addL, List.getD_eq_getElem?_getD]
theorem addL_cells (ws : List Int) (n : Nat) (x : Int) : ((List.range n).map fun j => Value.int .i64 (ws.getD j 0)) ++ [Value.int .i64 x] = (addL ws n x).map (Value.int .i64) := by
  simp [addL]
theorem addL_cell {ws : List Int} {n : Nat} {x : Int} {i : Nat} (h : i < n + 1) : ((addL ws n x).map (Value.int .i64))[i]? = some (.int .i64 ((addL ws n x).getD i 0)) := by
  have : i < (addL ws n x).length := by rw [addL_len]; exact h
  simp [List.getD_eq_getElem?_getD, this]
theorem sumK_addL {ws : List Int} {n : Nat} {x : Int} : ∀ {k}, k ≤ n → sumK (addL ws n x) k = sumK ws k
  | 0, _ => rfl
  | k+1, h => by simp only [sumK]; rw [sumK_addL (by omega), addL_at (by omega)]
theorem sumK_addL1 (ws : List Int) (n : Nat) (x : Int) : sumK (addL ws n x) (n+1) = sumK ws n + x := by
  simp only [sumK]; rw [sumK_addL (Nat.le_refl _), addL_end]

/-- A committee with a member more, if it is one. -/
def moreOk (q' : Int) (ws : List Int) (n : Nat) (x : Int) : Bool := goodB q' (addL ws n x) (n+1)
def moreQ (q' : Int) (ws : List Int) (n : Nat) (x : Int) : Int := if moreOk q' ws n x then q' else 0
def moreN (q' : Int) (ws : List Int) (n : Nat) (x : Int) : Nat := if moreOk q' ws n x then n + 1 else 0
theorem moreQ_yes {q' ws n x} (h : moreOk q' ws n x = true) : moreQ q' ws n x = q' := if_pos h
theorem moreQ_no {q' ws n x} (h : moreOk q' ws n x = false) : moreQ q' ws n x = 0 := if_neg (by rw [h]; simp)
theorem moreN_yes {q' ws n x} (h : moreOk q' ws n x = true) : moreN q' ws n x = n + 1 := if_pos h
theorem moreN_no {q' ws n x} (h : moreOk q' ws n x = false) : moreN q' ws n x = 0 := if_neg (by rw [h]; simp)

set_option maxHeartbeats 1000000 in
theorem checked_yes (q : Int) (A : Option Addr) (n cap : Nat) (ws : List Int) (w : World) (hm : n ≤ 9223372036854775807) (hk : Known w A n ws) (hg : goodB q ws n = true) :
    Calls Tryd.prog 50 #[.agg #[.int .i64 q, .slice A n cap]] w fun e w' => e = .returned (.tuple #[.agg #[.int .i64 q, .slice A n cap], .bool true]) ∧ Below w.heap.size w w' := by
  have HK := Lib.hid hk
  have HG := Lib.hid hg
  clear hk hg
  have hb0 : Below w.heap.size w ((w.alloc (.cells #[.int .i64 q, .slice A n cap] 28)).alloc (.cells #[.int .i64 0, .slice none 0 0] 28)) := (below1 w _).alloc (by simp) _
  have hx := (Box.new w (.int .i64 q) (.slice A n cap)).alloc (.cells #[.int .i64 0, .slice none 0 0] 28)
  have hr := Box.new (w.alloc (.cells #[.int .i64 q, .slice A n cap] 28)) (.int .i64 0) (.slice none 0 0)
  simp only [World.size_alloc] at hr
  have KF := Lib.hid (show ∀ W, BoxT 28 W (w.heap.size + 1) (.int .i64 0) (.slice none 0 0) → (W.frozen? ⟨w.heap.size + 1, 0, none⟩ = false ∧ W.frozen? ⟨w.heap.size + 1, 1, none⟩ = false) from fun W h => by unfold BoxT at h; exact ⟨by simp [World.frozen?, h], by simp [World.frozen?, h]⟩)
  go_enter Tryd.func50, Tryd.ntmps50
  go_wp2_with fail
  refine (isCommittee_any q A n cap ws _ hm (HK.out.now hb0)).mono ?_
  rintro e w1 ⟨rfl, hb⟩
  rw [HG.out]
  have g1 := bfrom hb0 hb
  obtain ⟨c0, c1⟩ := (hx.now hb).cells
  obtain ⟨d0, d1⟩ := (hr.now hb).cells
  obtain ⟨f0, f1⟩ := KF.out _ (hr.now hb)
  clear hx hr hb0
  go_wp2
  refine bodyPost_ret (v := .tuple #[.agg #[.int .i64 q, .slice A n cap], .bool true]) (by simp [results, Tryd.results50, go_sem, d0, d1]) rfl ⟨rfl, ?_⟩
  exact (g1.setCell (by simp) _).setCell (by simp) _

set_option maxHeartbeats 1000000 in
theorem checked_no (q : Int) (A : Option Addr) (n cap : Nat) (ws : List Int) (w : World) (hm : n ≤ 9223372036854775807) (hk : Known w A n ws) (hg : goodB q ws n = false) :
    Calls Tryd.prog 50 #[.agg #[.int .i64 q, .slice A n cap]] w fun e w' => e = .returned (.tuple #[.agg #[.int .i64 0, .slice none 0 0], .bool false]) ∧ Below w.heap.size w w' := by
  have HK := Lib.hid hk
  have HG := Lib.hid hg
  clear hk hg
  have hb0 : Below w.heap.size w ((w.alloc (.cells #[.int .i64 q, .slice A n cap] 28)).alloc (.cells #[.int .i64 0, .slice none 0 0] 28)) := (below1 w _).alloc (by simp) _
  have hr := Box.new (w.alloc (.cells #[.int .i64 q, .slice A n cap] 28)) (.int .i64 0) (.slice none 0 0)
  simp only [World.size_alloc] at hr
  have KF := Lib.hid (show ∀ W, BoxT 28 W (w.heap.size + 1) (.int .i64 0) (.slice none 0 0) → (W.frozen? ⟨w.heap.size + 1, 0, none⟩ = false ∧ W.frozen? ⟨w.heap.size + 1, 1, none⟩ = false) from fun W h => by unfold BoxT at h; exact ⟨by simp [World.frozen?, h], by simp [World.frozen?, h]⟩)
  go_enter Tryd.func50, Tryd.ntmps50
  go_wp2_with fail
  refine (isCommittee_any q A n cap ws _ hm (HK.out.now hb0)).mono ?_
  rintro e w1 ⟨rfl, hb⟩
  rw [HG.out]
  have g1 := bfrom hb0 hb
  obtain ⟨d0, d1⟩ := (hr.now hb).cells
  obtain ⟨f0, f1⟩ := KF.out _ (hr.now hb)
  clear hr hb0
  go_wp2
  refine bodyPost_ret (v := .tuple #[.agg #[.int .i64 0, .slice none 0 0], .bool false]) (by simp [results, Tryd.results50, go_sem, d0, d1]) rfl ⟨rfl, ?_⟩
  exact (g1.setCell (by simp) _).setCell (by simp) _

theorem owns_set1 {w : World} {base : Nat} {e : TypeId} {size : Nat} {v : Value} {n : Nat} {xs : List Value} (h : w.ownsRow base e size v n xs) {p : Addr} (hn : ∀ j, v.ownBlock = some j → j ≠ p.block) (u : Value) : (w.setCell p u).ownsRow base e size v n xs := by
  obtain ⟨h1, h2⟩ := h
  refine ⟨h1, ?_⟩
  rcases h2 with h2 | ⟨g, cap, cur, hv, hg, hh, r⟩
  · exact Or.inl h2
  · exact Or.inr ⟨g, cap, cur, hv, hg, (Below.heap_setCell w p u g (hn g (by rw [hv]; rfl))).trans hh, r⟩
theorem addL_row {w : World} {base gg n cap : Nat} {ws : List Int} {x : Int} (h : w.ownsRow base 3 1 (.slice (some ⟨gg, 0, none⟩) (n + 1) cap) (n + 1) ((addL ws n x).map (Value.int .i64))) : Ints w gg (n + 1) (addL ws n x) :=
  Own.of_own h fun _ hi => addL_cell hi

set_option maxRecDepth 20000 in
set_option maxHeartbeats 2000000 in
theorem withMember_any (q q' x : Int) (b off n cap : Nat) (ws : List Int) (w : World) (h1 : 1 ≤ n) (h9 : n ≤ 9) (hsl : Sl w b off n ws) :
    Calls Tryd.prog 34 #[.agg #[.int .i64 q, .slice (some ⟨b, off, none⟩) n cap], .int .i64 q', .int .i64 x] w fun e w' => ComAt (moreQ q' ws n x) (moreN q' ws n x) (addL ws n x) (moreOk q' ws n x) w w' e := by
  have HSL := Lib.hid hsl
  clear hsl
  obtain ⟨i0, hi0, hz0, hz1, hz2⟩ := infoIntParts
  have hb0 : Below w.heap.size w ((w.alloc (.cells #[.int .i64 q, .slice (some ⟨b, off, none⟩) n cap] 28)).alloc (.cells #[.int .i64 0, .slice none 0 0] 28)) := (below1 w _).alloc (by simp) _
  have hr := Box.new (w.alloc (.cells #[.int .i64 q, .slice (some ⟨b, off, none⟩) n cap] 28)) (.int .i64 0) (.slice none 0 0)
  simp only [World.size_alloc] at hr
  have KF := Lib.hid (show ∀ W, BoxT 28 W (w.heap.size + 1) (.int .i64 0) (.slice none 0 0) → (W.frozen? ⟨w.heap.size + 1, 0, none⟩ = false ∧ W.frozen? ⟨w.heap.size + 1, 1, none⟩ = false) from fun W h => by unfold BoxT at h; exact ⟨by simp [World.frozen?, h], by simp [World.frozen?, h]⟩)
  obtain ⟨cs, hcs⟩ : ∃ cs, cs = (List.range n).map fun j => Value.int .i64 (ws.getD j 0) := ⟨_, rfl⟩
  have HCS := Lib.hid hcs
  clear hcs
  go_enter Tryd.func34, Tryd.ntmps34
  go_wp2_with fail
  obtain ⟨w0, hw0⟩ : ∃ w0, w0 = ((w.alloc (.cells #[.int .i64 q, .slice (some ⟨b, off, none⟩) n cap] 28)).alloc (.cells #[.int .i64 0, .slice none 0 0] 28)) := ⟨_, rfl⟩
  have hz0' : w0.heap.size = w.heap.size + 2 := by rw [hw0]; simp
  rw [← hw0] at hb0 hr ⊢
  refine (withQuota_row q q' b off n cap ws w0 h1 h9 (HSL.out.now hb0)).mono ?_
  rintro e w1 ⟨rfl, ho, hb1⟩
  obtain ⟨g, hg⟩ : ∃ g, g = w0.heap.size + 2 := ⟨_, rfl⟩
  rw [← hg] at ho ⊢
  rw [← HCS.out] at ho
  have HO := Lib.hid ho
  have g1 := bfrom hb0 hb1
  have hr1 := hr.now hb1
  have hlt1 : g < w1.heap.size := owns_lt ho rfl
  have hgg : w.heap.size + 4 = g := by omega
  clear hr hb0 ho hb1 hg hw0
  have hn1 := Box.new w1 (.int .i64 q') (.slice (some ⟨g, 0, none⟩) n n)
  have hr2 := hr1.alloc (.cells #[.int .i64 q', .slice (some ⟨g, 0, none⟩) n n] 28)
  have g2 := g1.alloc g1.size (.cells #[.int .i64 q', .slice (some ⟨g, 0, none⟩) n n] 28)
  obtain ⟨a0, a1⟩ := hn1.cells
  cases hok : moreOk q' ws n x with
  | true =>
    have HOK := Lib.hid (show goodB q' (addL ws n x) (n + 1) = true from hok)
    have HQ := Lib.hid (moreQ_yes hok)
    have HB := Lib.hid hok
    have HN := Lib.hid (moreN_yes hok)
    clear hok
    go_wp2_with (first
      | (at_builtin; refine wpList_append_lies _ rfl _ _ _ rfl g 3 i0 _ 1 8 Tryd.underlying22 hi0 hz0 hz1 hz2 rfl (by decide) (.slice (some ⟨g, 0, none⟩) n n) n cs rfl ((HO.out.alloc _).alloc _) ⟨w1.heap.size + 1, 0, none⟩ 1 1 [.int .i64 x] rfl rfl (World.news_of_block (cs := #[.int .i64 x]) (t := 3) (fr := (0, 0)) (by have h := heap_alloc_new (w1.alloc (.cells #[.int .i64 q', .slice (some ⟨g, 0, none⟩) n n] 28)) (.cells #[.int .i64 x] 3); simpa using h)) (by simp [Value.oneCell']) (by omega) (by unfold maxLen; omega) (by omega) (by simp; omega) (w1.heap.size + 1 + 1) (by simp) ?_; intro gg cap4 w7 hown7 hgrow7 hat7 hlt7; have hn7 := ((hn1.alloc (.cells #[.int .i64 x] 3)).grown hgrow7 (by simp [Value.ownBlock]; omega)); have hr7 := ((hr2.alloc (.cells #[.int .i64 x] 3)).grown hgrow7 (by simp [Value.ownBlock]; omega)); have g7 := ((g2.alloc g2.size (.cells #[.int .i64 x] 3)).grown hgrow7 (by have := g2.size; simp at this ⊢; omega) (fun j hj => by simp [Value.ownBlock] at hj; omega)); obtain ⟨k0, k1⟩ := hn7.cells; have k2 := box_fr hn7; have HN7 := hn7.set1 (.slice (some ⟨gg, 0, none⟩) (n + 1) cap4); obtain ⟨m0, m1⟩ := HN7.cells; have hgb : gg ≠ w1.heap.size := (by rcases hat7 with h | h; (· simp [Value.ownBlock] at h; omega); (· omega)); have hgr : gg ≠ w.heap.size + 1 := (by rcases hat7 with h | h; (· simp [Value.ownBlock] at h; omega); (· have := g1.size; omega)); have hge : w.heap.size ≤ gg := (by rcases hat7 with h | h; (· simp [Value.ownBlock] at h; omega); (· have := g1.size; omega)); have hr8 := hr7.far (p := ⟨w1.heap.size, 1, none⟩) (show w.heap.size + 1 ≠ w1.heap.size by omega) (.slice (some ⟨gg, 0, none⟩) (n + 1) cap4); have g8 := g7.setCell (p := ⟨w1.heap.size, 1, none⟩) g1.size (.slice (some ⟨gg, 0, none⟩) (n + 1) cap4); rw [HCS.out, addL_cells] at hown7; have hI8 := Lib.hid (addL_row (owns_set1 hown7 (p := ⟨w1.heap.size, 1, none⟩) (fun j hj => by simp [Value.ownBlock] at hj; subst hj; exact hgb) (.slice (some ⟨gg, 0, none⟩) (n + 1) cap4))))
      | (go_at_call 50; refine (checked_yes q' (some ⟨gg, 0, none⟩) (n + 1) cap4 (addL ws n x) _ (by omega) (Known.of hI8.out.sl) HOK.out).mono ?_; rintro e w9 ⟨rfl, hb9⟩; have hr9 := hr8.now hb9; obtain ⟨d0, d1⟩ := hr9.cells; obtain ⟨f0, f1⟩ := KF.out _ hr9))
    have g9 := bfrom g8 hb9
    refine bodyPost_ret (v := .tuple #[.agg #[.int .i64 q', .slice (some ⟨gg, 0, none⟩) (n + 1) cap4], .bool true]) (by simp [results, Tryd.results34, go_sem, d0, d1]) rfl ?_
    rw [HQ.out, HN.out, HB.out]
    refine ⟨_, _, rfl, Or.inr ⟨gg, rfl, hge, ?_⟩, (g9.setCell (by simp) _).setCell (by simp) _⟩
    have hlt9 := hI8.out.lt
    exact ((Own.below hI8.out hb9 hlt9).far (by simpa using hgr) _).far (by simpa using hgr) _
  | false =>
    have HOK := Lib.hid (show goodB q' (addL ws n x) (n + 1) = false from hok)
    have HQ := Lib.hid (moreQ_no hok)
    have HB := Lib.hid hok
    have HN := Lib.hid (moreN_no hok)
    clear hok
    go_wp2_with (first
      | (at_builtin; refine wpList_append_lies _ rfl _ _ _ rfl g 3 i0 _ 1 8 Tryd.underlying22 hi0 hz0 hz1 hz2 rfl (by decide) (.slice (some ⟨g, 0, none⟩) n n) n cs rfl ((HO.out.alloc _).alloc _) ⟨w1.heap.size + 1, 0, none⟩ 1 1 [.int .i64 x] rfl rfl (World.news_of_block (cs := #[.int .i64 x]) (t := 3) (fr := (0, 0)) (by have h := heap_alloc_new (w1.alloc (.cells #[.int .i64 q', .slice (some ⟨g, 0, none⟩) n n] 28)) (.cells #[.int .i64 x] 3); simpa using h)) (by simp [Value.oneCell']) (by omega) (by unfold maxLen; omega) (by omega) (by simp; omega) (w1.heap.size + 1 + 1) (by simp) ?_; intro gg cap4 w7 hown7 hgrow7 hat7 hlt7; have hn7 := ((hn1.alloc (.cells #[.int .i64 x] 3)).grown hgrow7 (by simp [Value.ownBlock]; omega)); have hr7 := ((hr2.alloc (.cells #[.int .i64 x] 3)).grown hgrow7 (by simp [Value.ownBlock]; omega)); have g7 := ((g2.alloc g2.size (.cells #[.int .i64 x] 3)).grown hgrow7 (by have := g2.size; simp at this ⊢; omega) (fun j hj => by simp [Value.ownBlock] at hj; omega)); obtain ⟨k0, k1⟩ := hn7.cells; have k2 := box_fr hn7; have HN7 := hn7.set1 (.slice (some ⟨gg, 0, none⟩) (n + 1) cap4); obtain ⟨m0, m1⟩ := HN7.cells; have hgb : gg ≠ w1.heap.size := (by rcases hat7 with h | h; (· simp [Value.ownBlock] at h; omega); (· omega)); have hgr : gg ≠ w.heap.size + 1 := (by rcases hat7 with h | h; (· simp [Value.ownBlock] at h; omega); (· have := g1.size; omega)); have hge : w.heap.size ≤ gg := (by rcases hat7 with h | h; (· simp [Value.ownBlock] at h; omega); (· have := g1.size; omega)); have hr8 := hr7.far (p := ⟨w1.heap.size, 1, none⟩) (show w.heap.size + 1 ≠ w1.heap.size by omega) (.slice (some ⟨gg, 0, none⟩) (n + 1) cap4); have g8 := g7.setCell (p := ⟨w1.heap.size, 1, none⟩) g1.size (.slice (some ⟨gg, 0, none⟩) (n + 1) cap4); rw [HCS.out, addL_cells] at hown7; have hI8 := Lib.hid (addL_row (owns_set1 hown7 (p := ⟨w1.heap.size, 1, none⟩) (fun j hj => by simp [Value.ownBlock] at hj; subst hj; exact hgb) (.slice (some ⟨gg, 0, none⟩) (n + 1) cap4))))
      | (go_at_call 50; refine (checked_no q' (some ⟨gg, 0, none⟩) (n + 1) cap4 (addL ws n x) _ (by omega) (Known.of hI8.out.sl) HOK.out).mono ?_; rintro e w9 ⟨rfl, hb9⟩; have hr9 := hr8.now hb9; obtain ⟨d0, d1⟩ := hr9.cells; obtain ⟨f0, f1⟩ := KF.out _ hr9))
    have g9 := bfrom g8 hb9
    refine bodyPost_ret (v := .tuple #[.agg #[.int .i64 0, .slice none 0 0], .bool false]) (by simp [results, Tryd.results34, go_sem, d0, d1]) rfl ?_
    rw [HQ.out, HN.out, HB.out]
    exact ⟨_, _, rfl, Or.inl ⟨rfl, rfl⟩, (g9.setCell (by simp) _).setCell (by simp) _⟩
/-- A committee, and with a member more it is one still. -/
def addOk (q q' : Int) (ws : List Int) (n : Nat) (x : Int) : Bool := goodB q ws n && moreOk q' ws n x
def addQ (q q' : Int) (ws : List Int) (n : Nat) (x : Int) : Int := if addOk q q' ws n x then q' else 0
def addN (q q' : Int) (ws : List Int) (n : Nat) (x : Int) : Nat := if addOk q q' ws n x then n + 1 else 0
theorem addOk_good {q q' ws n x} (h : goodB q ws n = true) : addOk q q' ws n x = moreOk q' ws n x := by unfold addOk; rw [h, Bool.true_and]
theorem addQ_good {q q' ws n x} (h : goodB q ws n = true) : addQ q q' ws n x = moreQ q' ws n x := by unfold addQ moreQ; rw [addOk_good h]
theorem addN_good {q q' ws n x} (h : goodB q ws n = true) : addN q q' ws n x = moreN q' ws n x := by unfold addN moreN; rw [addOk_good h]
theorem addOk_no {q q' ws n x} (h : goodB q ws n = false) : addOk q q' ws n x = false := by unfold addOk; rw [h, Bool.false_and]
theorem addQ_no {q q' ws n x} (h : goodB q ws n = false) : addQ q q' ws n x = 0 := if_neg (by rw [addOk_no h]; simp)
theorem addN_no {q q' ws n x} (h : goodB q ws n = false) : addN q q' ws n x = 0 := if_neg (by rw [addOk_no h]; simp)
theorem addN_le (q q' : Int) (ws : List Int) (n : Nat) (x : Int) : addN q q' ws n x ≤ 9 := by
  unfold addN
  cases h : addOk q q' ws n x with
  | false => simp
  | true =>
    unfold addOk moreOk at h
    simp at h
    have := h.2
    unfold goodB at this
    have := (of_decide_eq_true this).hi
    simp; omega
theorem dumN_le (q : Int) (ws : List Int) (n : Nat) : addN q q ws n 0 ≤ 9 := addN_le _ _ _ _ _
theorem vetoN_le (q : Int) (ws : List Int) (n : Nat) : addN q (q + sumK ws n) ws n (sumK ws n) ≤ 9 := addN_le _ _ _ _ _
theorem held_far {base base' : Nat} {w : World} {A : Option Addr} {m : Nat} {L : List Int} (h : Held base' w A m L) (hb : base ≤ base') {p p' : Addr} (hp : p.block < base') (hp' : p'.block < base') {u u' : Value} : Held base ((w.setCell p u).setCell p' u') A m L := by
  rcases h with h | ⟨g, hA, hg, hi⟩
  · exact Or.inl h
  · exact Or.inr ⟨g, hA, by omega, (hi.far (by omega) _).far (by omega) _⟩
theorem comAt_now {q' : Int} {m : Nat} {L : List Int} {ok : Bool} {w w0 w1 : World} {e : Ending} (h : ComAt q' m L ok w0 w1 e) (hb : Below w.heap.size w w0) : ComAt q' m L ok w w1 e := by
  obtain ⟨A, cap, he, hh, hb2⟩ := h
  refine ⟨A, cap, he, ?_, bfrom hb hb2⟩
  rcases hh with hh | ⟨g, hA, hg, hi⟩
  · exact Or.inl hh
  · exact Or.inr ⟨g, hA, Nat.le_trans hb.size hg, hi⟩

end Go.Proofs.YtipplbcjdcdapabDoor
