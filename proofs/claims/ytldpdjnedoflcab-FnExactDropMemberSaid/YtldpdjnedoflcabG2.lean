/- Contract of the model's DropMember. -/
import Derived.Test.YtldpdjnedoflcabG1
import Derived.Test.YtldpdjnedoflcabGc
import Derived.Maps.AppendAt
import Derived.Deep.RegionHeld3
import Derived.Deep.AppendLies
import Derived.Outline
namespace Go.Proofs.Ytldpdjnedoflcab
open Go.RowKit Vo

theorem frozen_box2 {t : TypeId} {w : World} {g : Nat} {u v : Value} (h : BoxT t w g u v) : w.frozen? ⟨g, 0, none⟩ = false ∧ w.frozen? ⟨g, 1, none⟩ = false := by
  unfold BoxT at h; exact ⟨by simp [World.frozen?, h], by simp [World.frozen?, h]⟩

theorem box_put {t : TypeId} {w : World} {g : Nat} {u v : Value} (h : BoxT t w g u v) (a b : Value) : BoxT t ((w.setCell ⟨g, 0, none⟩ a).setCell ⟨g, 1, none⟩ b) g a b := by
  unfold BoxT at *
  simp [World.setCell, Array.getElem?_modify, h]
theorem owns_sets {w : World} {base : Nat} {e : TypeId} {size : Nat} {v : Value} {n : Nat} {xs : List Value} (h : w.ownsRow base e size v n xs) {nb : Nat} (hn : ∀ j, v.ownBlock = some j → j ≠ nb) (a b : Value) : ((w.setCell ⟨nb, 0, none⟩ a).setCell ⟨nb, 1, none⟩ b).ownsRow base e size v n xs := by
  obtain ⟨h1, h2⟩ := h
  refine ⟨h1, ?_⟩
  rcases h2 with h2 | ⟨g, cap, cur, hv, hg, hh, r⟩
  · exact Or.inl h2
  · have hne : g ≠ nb := hn g (by rw [hv]; rfl)
    exact Or.inr ⟨g, cap, cur, hv, hg, (Below.heap_setCell _ _ _ g hne).trans ((Below.heap_setCell w _ _ g hne).trans hh), r⟩

theorem dropL_cut (ws : List Int) (k n : Nat) (hk : k < n) : (dropL ws k n).map (Value.int .i64) = cut ws 0 k ++ cut ws (k+1) (n - (k+1)) := by
  have lo : ∀ j, j ≤ k → (dropL ws k j).map (Value.int .i64) = cut ws 0 j := by
    intro j hj
    induction j with
    | zero => rfl
    | succ j ih => rw [dropL_yes (by omega), List.map_append, ih (by omega)]; simp [cut, List.range_succ]
  have hi : ∀ d, (dropL ws k (k + 1 + d)).map (Value.int .i64) = cut ws 0 k ++ cut ws (k+1) d := by
    intro d
    induction d with
    | zero => rw [show k + 1 + 0 = k + 1 from rfl, dropL_no rfl, lo k (Nat.le_refl _)]; simp [cut]
    | succ d ih =>
      rw [show k + 1 + (d + 1) = (k + 1 + d) + 1 from rfl, dropL_yes (by omega), List.map_append, ih]
      simp [cut, List.range_succ, List.append_assoc]
  have := hi (n - (k+1))
  rwa [show k + 1 + (n - (k+1)) = n by omega] at this

section
variable {P : Program} (w : World)
theorem wp_append_at {o : Oper} {a : Act} {K : Act → World → Prop} {Q : Exit → Act → World → Prop} (s x : Operand) (t : TypeId)
    (ho : o.op = .call { callee := .builtin .append, args := #[s, x], argTypes := #[t, t] })
    (base : Nat) (e : TypeId) (i : TypeInfo) (z : Value) (size bytes : Nat) (ht : P.underlying t = some (.slice e)) (hi : P.info? e = some i) (hz : i.zero = some z)
    (hsize : i.size = size) (hby : i.bytes = bytes) (hzs : z.cells.size = size) (hsz : 0 < size)
    (v : Value) (n : Nat) (xs : List Value) (hs : a.eval s = v) (hown : w.ownsRow base e size v n xs)
    (ad : Addr) (m c : Nat) (news : List Value) (hx : a.eval x = .slice (some ad) m c) (hl : news.length = m * size) (hnews : ∀ j u, news[j]? = some u → w.cell? (ad.add j) = some u) (h1 : ∀ u ∈ news, u.oneCell' = true)
    (h63 : n + m ≤ maxLen) (hbytes : (n + m) * bytes ≤ 140737488355328) (hbase : base ≤ w.heap.size)
    (h : ∀ B cp w', w'.ownsRow base e size (.slice B (n + m) cp) (n + m) (xs ++ news) → w.grownBy w' v.ownBlock → ((Value.slice B (n + m) cp).ownBlock = v.ownBlock ∨ (Value.slice B (n + m) cp).ownBlock = some w.heap.size) → K (a.put o.dst (.slice B (n + m) cp)) w') : o.wp P a w K Q := by
  obtain ⟨v', w', hr, h2, h3, _, h5⟩ := run_append_own_at (P := P) w base t o.type e i z size bytes ht hi hz hsize hby hzs hsz v n xs hown ad m c news hl hnews h1 h63 hbytes hbase
  unfold Oper.wp execOp
  simp only [ho, resolve, invoke, builtin, Sem.run_bind, Sem.run_pure, Result.andThen_ok, List.map_toArray, List.map_cons, List.map_nil, hs, hx, hr]
  obtain ⟨B, cp, rfl⟩ := owns_slice h2
  exact h B cp w' h2 h3 h5
theorem step_append_at {ops : Array Oper} {o : Oper} {a : Act} {K : Act → World → Prop} {Q : Exit → Act → World → Prop} {E : Prop} (hgd : o.guard = none) (s x : Operand) (t : TypeId)
    (ho : o.op = .call { callee := .builtin .append, args := #[s, x], argTypes := #[t, t] })
    (base : Nat) (e : TypeId) (i : TypeInfo) (z : Value) (size bytes : Nat) (ht : P.underlying t = some (.slice e)) (hi : P.info? e = some i) (hz : i.zero = some z)
    (hsize : i.size = size) (hby : i.bytes = bytes) (hzs : z.cells.size = size) (hsz : 0 < size)
    (v : Value) (n : Nat) (xs : List Value) (hs : a.eval s = v) (hown : w.ownsRow base e size v n xs)
    (ad : Addr) (m c : Nat) (news : List Value) (hx : a.eval x = .slice (some ad) m c) (hl : news.length = m * size) (hnews : ∀ j u, news[j]? = some u → w.cell? (ad.add j) = some u) (h1 : ∀ u ∈ news, u.oneCell' = true)
    (h63 : n + m ≤ maxLen) (hbytes : (n + m) * bytes ≤ 140737488355328) (hbase : base ≤ w.heap.size)
    (h : ∀ B cp w', w'.ownsRow base e size (.slice B (n + m) cp) (n + m) (xs ++ news) → w.grownBy w' v.ownBlock → ((Value.slice B (n + m) cp).ownBlock = v.ownBlock ∨ (Value.slice B (n + m) cp).ownBlock = some w.heap.size) → K (a.put o.dst (.slice B (n + m) cp)) w') :
    if Region.wanted o (yielded ops a.tmps) = true then Oper.wp P o a w K Q else E := by
  have hw : Region.wanted o (yielded ops a.tmps) = true := by simp [Region.wanted, hgd]
  rw [if_pos hw]
  exact wp_append_at w s x t ho base e i z size bytes ht hi hz hsize hby hzs hsz v n xs hs hown ad m c news hx hl hnews h1 h63 hbytes hbase h
theorem step_append_nil {ops : Array Oper} {o : Oper} {a : Act} {K : Act → World → Prop} {Q : Exit → Act → World → Prop} {E : Prop} (hgd : o.guard = none) (s x : Operand) (t : TypeId)
    (ho : o.op = .call { callee := .builtin .append, args := #[s, x], argTypes := #[t, t] })
    (base : Nat) (e : TypeId) (i : TypeInfo) (z : Value) (size bytes : Nat) (ht : P.underlying t = some (.slice e)) (hi : P.info? e = some i) (hz : i.zero = some z)
    (hsize : i.size = size) (hby : i.bytes = bytes) (hzs : z.cells.size = size) (hsz : 0 < size)
    (v : Value) (n : Nat) (xs : List Value) (hs : a.eval s = v) (hown : w.ownsRow base e size v n xs)
    (ad : Addr) (c : Nat) (hx : a.eval x = .slice (some ad) 0 c)
    (h63 : n ≤ maxLen) (hbytes : n * bytes ≤ 140737488355328) (hbase : base ≤ w.heap.size)
    (h : ∀ B cp w', w'.ownsRow base e size (.slice B n cp) n xs → w.grownBy w' v.ownBlock → ((Value.slice B n cp).ownBlock = v.ownBlock ∨ (Value.slice B n cp).ownBlock = some w.heap.size) → K (a.put o.dst (.slice B n cp)) w') :
    if Region.wanted o (yielded ops a.tmps) = true then Oper.wp P o a w K Q else E :=
  step_append_at w hgd s x t ho base e i z size bytes ht hi hz hsize hby hzs hsz v n xs hs hown ad 0 c [] hx (by simp) (fun j u hj => by simp at hj) (fun u hu => by cases hu) h63 hbytes hbase
    fun B cp w' h1 h2 h3 => h B cp w' (by simpa using h1) h2 h3
end
set_option maxRecDepth 20000 in
set_option maxHeartbeats 4000000 in
theorem sDropMember_core (q : Int) (A : Option Addr) (n : Nat) (ws : List Int) (x : Int) (w : World) (hm : n ≤ 9223372036854775807) (hk : Known w A n ws) (_hx : (Lit.int .i64 x).wf = true) :
    Calls Try.prog 37 #[.agg #[.int .i64 q, .slice A n n], .int .i64 x] w fun e w' => ComAt (dropQ q ws n x) (dropN q ws n x) (dropL ws x.toNat n) (dropOk q ws n x) w w' e := by
  have HK := Lib.hid hk
  clear hk
  have hb0 : Below w.heap.size w ((w.alloc (.cells #[.int .i64 q, .slice A n n] 29)).alloc (.cells #[.int .i64 0, .slice none 0 0] 29)) := (below1 w _).alloc (by simp) _
  have hx := (Box.new w (.int .i64 q) (.slice A n n)).alloc (.cells #[.int .i64 0, .slice none 0 0] 29)
  have hr := Box.new (w.alloc (.cells #[.int .i64 q, .slice A n n] 29)) (.int .i64 0) (.slice none 0 0)
  simp only [World.size_alloc] at hr
  have KF := Lib.hid (show ∀ W, BoxT 29 W (w.heap.size + 1) (.int .i64 0) (.slice none 0 0) → (W.frozen? ⟨w.heap.size + 1, 0, none⟩ = false ∧ W.frozen? ⟨w.heap.size + 1, 1, none⟩ = false) from fun W h => by unfold BoxT at h; exact ⟨by simp [World.frozen?, h], by simp [World.frozen?, h]⟩)
  cases hok : memOk q ws n x with
  | true =>
    obtain ⟨hg, hx0, hxn⟩ := memOk_parts hok
    have HGB := Lib.hid (goodB_true hg)
    obtain ⟨b, off, rfl, hsl⟩ := HK.out.get hg.lo
    have HW := Lib.hid hsl
    have hn9 := hg.hi
    have hn1 := hg.lo
    have hn10 : n < 10 := by omega
    have HIN := Lib.hid (inB_yes (x := x) (lo := 0) (hi := (n : Int) - 1) hx0 (by omega))
    obtain ⟨k, rfl⟩ : ∃ k : Nat, x = k := ⟨x.toNat, by omega⟩
    have hkn : k < n := by omega
    have HDO := Lib.hid (show dropOk q ws n k = goodB q (dropL ws k n) (n - 1) from by unfold dropOk; rw [hok, Int.toNat_natCast, Bool.true_and])
    have HLN := Lib.hid (dropL_len ws k n)
    rw [Int.toNat_natCast]
    obtain ⟨i0, hi0, hz0, hz1, hz2⟩ := infoIntParts
    clear hg hsl hok
    go_enter Try.func37, Try.ntmps37
    go_wp2_with fail
    refine (voGood_any q _ n n ws _ hm (HK.out.now hb0)).mono ?_
    rintro e w1 ⟨rfl, hb⟩
    rw [HGB.out]
    have hx1 := hx.now hb
    have hr1 := hr.now hb
    have g1 := bfrom hb0 hb
    obtain ⟨hc0, hc1⟩ := hx1.cells
    have hw1 := Lib.hid (HW.out.now g1)
    have hkn' : (k : Int) < n := by omega
    have hkn2 : (k : Int) ≤ n := by omega
    have hkn3 : (k : Int) + 1 ≤ n := by omega
    have hk0 : (0 : Int) ≤ (k : Int) + 1 := by omega
    have hwk : IntKind.i64.wrap ((k : Int) + 1) = (k : Int) + 1 := IntWalk.i64_in _ (by omega)
    have hwt : ((k : Int) + 1).toNat = k + 1 := by omega
    have HCUT := Lib.hid (dropL_cut ws k n hkn)
    rw [if_pos hkn] at HLN
    go_wp2_with (go_at_call 71; refine (l1In_any k 0 _ _).mono ?_; rintro e w3 ⟨rfl, rfl⟩; rw [HIN.out])
    have hxl := hx1.lt
    have hrl := hr1.lt
    have HC := Lib.hid (show ∀ (W : World), Sl W b off n ws → Sl W b off n ws from fun _ h => h)
    rcases Nat.lt_or_ge (k + 1) n with hkl | hkl
    · have hkl' : (k : Int) + 1 < n := by omega
      have hln : n - (k + 1) ≤ 9 := by omega
      have HOWN := Lib.hid (show ∀ (W : World) (v : Value) (B : Nat), W.ownsRow B 3 1 v (k + (n - (k + 1))) (cut ws 0 k ++ cut ws (k + 1) (n - (k + 1))) → W.ownsRow B 3 1 v (n - 1) ((dropL ws k n).map (Value.int .i64)) from fun W v B h => by rw [HCUT.out, show n - 1 = k + (n - (k + 1)) by omega]; exact h)
      go_region_held3 (fun w' => w'.cell? ⟨w.heap.size, 0, none⟩ = some (.int .i64 q) ∧ w'.cell? ⟨w.heap.size, 1, none⟩ = some (.slice (some ⟨b, off, none⟩) n n))
        (first | exact ⟨hc0, hc1⟩ | exact ⟨k0, k1⟩ | exact ⟨j0, j1⟩ | exact (hx1.drew.alloc _).cells | exact (hx4.alloc _).cells | exact (hx7.alloc _).cells | exact ((hx7.far (p := ⟨w4.heap.size, 0, none⟩) (show w.heap.size ≠ w4.heap.size by have := hx4.lt; omega) _).far (p := ⟨w4.heap.size, 1, none⟩) (show w.heap.size ≠ w4.heap.size by have := hx4.lt; omega) _).cells | exact ((hx7.far (p := ⟨w1.heap.size, 0, none⟩) (show w.heap.size ≠ w1.heap.size by omega) _).far (p := ⟨w1.heap.size, 1, none⟩) (show w.heap.size ≠ w1.heap.size by omega) _).cells | go_keep)
        (first
          | (go_at_call 72; refine (l1Own_row b off n k n ws w1.drew hn9 (by omega) hw1.out.drew).mono ?_; rintro e w4 ⟨v4, rfl, hown4, hb4⟩; have hx4 := hx1.drew.now hb4; have hr4 := hr1.drew.now hb4; have hw4 := Lib.hid (hw1.out.drew.now hb4); have g4 := bfrom g1.drew hb4; have hbe : w1.heap.size ≤ w1.drew.heap.size := Nat.le_refl _; have hsz4 := hb4.size; have hn4 : True := trivial; obtain ⟨k0, k1⟩ := hx4.cells)
          | (go_at_call 72; refine (l1Own_row b off n k n ws (w1.drew.alloc (.cells #[.int .i64 0, .slice none 0 0] 29)) hn9 (by omega) (hw1.out.drew.alloc _)).mono ?_; rintro e w4 ⟨v4, rfl, hown4, hb4⟩; have hx4 := (hx1.drew.alloc _).now hb4; have hr4 := (hr1.drew.alloc _).now hb4; have hw4 := Lib.hid ((hw1.out.drew.alloc _).now hb4); have g4 := bfrom ((g1.drew).alloc g1.size _) hb4; have hbe : w1.heap.size ≤ (w1.drew.alloc (.cells #[.int .i64 0, .slice none 0 0] 29)).heap.size := (by simp); have hsz4 := hb4.size; have hn4 := (Box.new w1.drew (.int .i64 0) (.slice none 0 0)).now hb4; obtain ⟨k0, k1⟩ := hx4.cells)
          | (refine step_append_at _ (by rfl) _ _ _ (by rfl) _ 3 i0 _ 1 8 Try.underlying22 hi0 hz0 hz1 hz2 rfl (by omega) v4 k (cut ws 0 k) (by rfl) hown4 ⟨b, off + (k + 1), none⟩ (n - (k + 1)) (n - (k + 1)) (cut ws (k + 1) (n - (k + 1))) (by rfl) (by rw [cut_len]; omega) (cut_cells hw4.out (by omega) _ rfl) (cut_one _ _ _) (by unfold maxLen; omega) (by omega) hsz4 ?_; intro B cp w7 hown7 hgrow7 hob7; have hx7 := hx4.grown hgrow7 (owns_ne hown4 (by omega)); have hr7 := hr4.grown hgrow7 (owns_ne hown4 (by omega)); have g7 := (show Below w.heap.size w w4 from g4).grown hgrow7 (by have := g4.size; omega) (fun j hj => by have := owns_le hown4 hj; omega); (first | (have hm7 := (show BoxT 29 w4 w1.heap.size (.int .i64 0) (.slice none 0 0) from hn4).grown hgrow7 (owns_ne hown4 (by simp)); have hnon : ∀ j, Value.ownBlock (.slice B (k + (n - (k + 1))) cp) = some j → j ≠ w1.heap.size := (fun j hj => by have := owns_le hown7 hj; simp at this; omega); obtain ⟨p0, p1⟩ := hm7.cells; obtain ⟨q0, q1⟩ := frozen_box2 hm7) | skip); obtain ⟨j0, j1⟩ := hx7.cells)
          | (refine step_append_at _ (by rfl) _ _ _ (by rfl) _ 3 i0 _ 1 8 Try.underlying22 hi0 hz0 hz1 hz2 rfl (by omega) v4 k (cut ws 0 k) (by rfl) (hown4.alloc _) ⟨b, off + (k + 1), none⟩ (n - (k + 1)) (n - (k + 1)) (cut ws (k + 1) (n - (k + 1))) (by rfl) (by rw [cut_len]; omega) (cut_cells (hw4.out.alloc _) (by omega) _ rfl) (cut_one _ _ _) (by unfold maxLen; omega) (by omega) (by rw [World.size_alloc]; exact Nat.le_succ_of_le hsz4) ?_; intro B cp w7 hown7 hgrow7 hob7; have hx7 := (hx4.alloc _).grown hgrow7 (owns_ne hown4 (by omega)); have hr7 := (hr4.alloc _).grown hgrow7 (owns_ne hown4 (by omega)); have g7 := ((show Below w.heap.size w w4 from g4).alloc g4.size _).grown hgrow7 (by have := g4.size; simp; omega) (fun j hj => by have := owns_le hown4 hj; omega); have hm7 := (Box.new w4 (.int .i64 0) (.slice none 0 0)).grown hgrow7 (fun e => by have := owns_lt hown4 e.symm; omega); have hnon : ∀ j, Value.ownBlock (.slice B (k + (n - (k + 1))) cp) = some j → j ≠ w4.heap.size := (fun j hj => by rcases hob7 with ho | ho; (· have := owns_lt hown4 (ho.symm.trans hj); omega); (· have := hj.symm.trans ho; simp at this; omega)); obtain ⟨p0, p1⟩ := hm7.cells; obtain ⟨q0, q1⟩ := frozen_box2 hm7; obtain ⟨j0, j1⟩ := hx7.cells))
      all_goals (first
        | (have hb9 := Box.new w7 (.int .i64 q) (.slice B (k + (n - (k + 1))) cp)
           have hr9 := hr7.alloc (.cells #[.int .i64 q, .slice B (k + (n - (k + 1))) cp] 29)
           have ho9 := (HOWN.out _ _ _ hown7).alloc (.cells #[.int .i64 q, .slice B (k + (n - (k + 1))) cp] 29)
           have g9 := g7.alloc g7.size (.cells #[.int .i64 q, .slice B (k + (n - (k + 1))) cp] 29)
           obtain ⟨W9, hW9⟩ : ∃ W9, W9 = w7.alloc (.cells #[.int .i64 q, .slice B (k + (n - (k + 1))) cp] 29) := ⟨_, rfl⟩
           rw [← hW9] at hb9 hr9 ho9 g9 ⊢
           clear hW9
           generalize w7.heap.size = nb at hb9 ⊢)
        | (have hb9 := box_put (show BoxT 29 w7 w4.heap.size (.int .i64 0) (.slice none 0 0) from hm7) (.int .i64 q) (.slice B (k + (n - (k + 1))) cp)
           have hnb9 : w.heap.size + 1 < w4.heap.size ∧ True := ⟨by have := hr4.lt; omega, trivial⟩
           have hr9 := (hr7.far (p := ⟨w4.heap.size, 0, none⟩) (show w.heap.size + 1 ≠ w4.heap.size by omega) (.int .i64 q)).far (p := ⟨w4.heap.size, 1, none⟩) (show w.heap.size + 1 ≠ w4.heap.size by omega) (.slice B (k + (n - (k + 1))) cp)
           have ho9 := owns_sets (HOWN.out _ _ _ hown7) (nb := w4.heap.size) hnon (.int .i64 q) (.slice B (k + (n - (k + 1))) cp)
           have g9 := (g7.setCell (p := ⟨w4.heap.size, 0, none⟩) (show w.heap.size ≤ w4.heap.size by omega) (.int .i64 q)).setCell (p := ⟨w4.heap.size, 1, none⟩) (show w.heap.size ≤ w4.heap.size by omega) (.slice B (k + (n - (k + 1))) cp)
           obtain ⟨W9, hW9⟩ : ∃ W9, W9 = (w7.setCell ⟨w4.heap.size, 0, none⟩ (.int .i64 q)).setCell ⟨w4.heap.size, 1, none⟩ (.slice B (k + (n - (k + 1))) cp) := ⟨_, rfl⟩
           rw [← hW9] at hb9 hr9 ho9 g9 ⊢
           clear hW9
           generalize w4.heap.size = nb at hb9 hnb9 ⊢)
        | (have hb9 := box_put (show BoxT 29 w7 w1.heap.size (.int .i64 0) (.slice none 0 0) from hm7) (.int .i64 q) (.slice B (k + (n - (k + 1))) cp)
           have hnb9 : w.heap.size + 1 < w1.heap.size ∧ True := ⟨by have := hr4.lt; omega, trivial⟩
           have hr9 := (hr7.far (p := ⟨w1.heap.size, 0, none⟩) (show w.heap.size + 1 ≠ w1.heap.size by omega) (.int .i64 q)).far (p := ⟨w1.heap.size, 1, none⟩) (show w.heap.size + 1 ≠ w1.heap.size by omega) (.slice B (k + (n - (k + 1))) cp)
           have ho9 := owns_sets (HOWN.out _ _ _ hown7) (nb := w1.heap.size) hnon (.int .i64 q) (.slice B (k + (n - (k + 1))) cp)
           have g9 := (g7.setCell (p := ⟨w1.heap.size, 0, none⟩) (show w.heap.size ≤ w1.heap.size by omega) (.int .i64 q)).setCell (p := ⟨w1.heap.size, 1, none⟩) (show w.heap.size ≤ w1.heap.size by omega) (.slice B (k + (n - (k + 1))) cp)
           obtain ⟨W9, hW9⟩ : ∃ W9, W9 = (w7.setCell ⟨w1.heap.size, 0, none⟩ (.int .i64 q)).setCell ⟨w1.heap.size, 1, none⟩ (.slice B (k + (n - (k + 1))) cp) := ⟨_, rfl⟩
           rw [← hW9] at hb9 hr9 ho9 g9 ⊢
           clear hW9
           generalize w1.heap.size = nb at hb9 hnb9 ⊢))
      all_goals
        have HB9 := Lib.hid (show Box W9 nb (.int .i64 q) (.slice B (n - 1) cp) from by have h := hb9; rw [show k + (n - (k + 1)) = n - 1 by omega] at h; exact h)
        have HO9 := Lib.hid (show W9.ownsRow w1.heap.size 3 1 (.slice B (n - 1) cp) (n - 1) ((dropL ws k n).map (Value.int .i64)) from by have h := owns_less ho9 hbe; rw [show k + (n - (k + 1)) = n - 1 by omega] at h; exact h)
        have hmm : k + (n - (k + 1)) = n - 1 := by omega
        simp only [hmm]
        clear hb9 ho9 hmm hown7 hgrow7 hx7 hr7 g7 j0 j1 hown4 hb4 hx4 hr4 g4 hsz4 hn4 k0 k1 hw4 hc0 hc1 hwk hwt
        have hkn' : Known W9 B (n - 1) (dropL ws k n) := by
          by_cases h0 : n - 1 = 0
          · exact ⟨0, 0, fun h => absurd h (by omega), fun h => absurd h (by omega)⟩
          · obtain ⟨g, cp', hv, _, _, _⟩ := owns_head HO9.out (by omega)
            obtain ⟨rfl, rfl⟩ : B = some ⟨g, 0, none⟩ ∧ cp = cp' := by simpa using hv
            exact Known.of (Ints.sl (Own.of_own HO9.out fun i hi => by
              have : i < (dropL ws k n).length := by rw [HLN.out]; exact hi
              simp [List.getD_eq_getElem?_getD, this]))
        have HKN := Lib.hid hkn'
        clear hkn'
        obtain ⟨e0, e1⟩ := HB9.out.cells
        cases hgd : goodB q (dropL ws k n) (n - 1) with
        | true =>
          have HGD := Lib.hid hgd
          have hn2 : 1 ≤ n - 1 := by unfold goodB at hgd; exact (of_decide_eq_true hgd).lo
          clear hgd
          rw [HGD.out] at HDO
          go_wp2_with (go_at_call 52; refine (voGood_any q B (n - 1) cp (dropL ws k n) _ (by omega) HKN.out).mono ?_; rintro e w8 ⟨rfl, hb8⟩; rw [HGD.out]; obtain ⟨q0, q1⟩ := (HB9.out.now hb8).cells; obtain ⟨d0, d1⟩ := (hr9.now hb8).cells; obtain ⟨f0, f1⟩ := KF.out _ (hr9.now hb8))
          have b8 := bfromB g9 hb8 g9.size
          refine bodyPost_ret (v := .tuple #[.agg #[.int .i64 q, .slice B (n - 1) cp], .bool true]) (by simp [results, Try.results37, go_sem, d0, d1]) rfl ?_
          rw [HDO.out, dropQ_yes HDO.out, dropN_yes HDO.out]
          refine ⟨_, _, rfl, ?_, (b8.setCell (by simp) _).setCell (by simp) _⟩
          obtain ⟨g, cp', hv, hg, _, _⟩ := owns_head HO9.out (by omega)
          obtain ⟨rfl, rfl⟩ : B = some ⟨g, 0, none⟩ ∧ cp = cp' := by simpa using hv
          refine Or.inr ⟨g, rfl, by omega, ?_⟩
          have hI : Ints _ g (n - 1) (dropL ws k n) := Own.of_own (owns_now HO9.out hb8) fun i hi => by
            have : i < (dropL ws k n).length := by rw [HLN.out]; exact hi
            simp [List.getD_eq_getElem?_getD, this]
          exact (hI.far (by simp; omega) _).far (by simp; omega) _
        | false =>
          have HGD := Lib.hid hgd
          clear hgd
          rw [HGD.out] at HDO
          go_wp2_with (go_at_call 52; refine (voGood_any q B (n - 1) cp (dropL ws k n) _ (by omega) HKN.out).mono ?_; rintro e w8 ⟨rfl, hb8⟩; rw [HGD.out]; obtain ⟨d0, d1⟩ := (hr9.now hb8).cells; obtain ⟨f0, f1⟩ := KF.out _ (hr9.now hb8))
          have b8 := bfromB g9 hb8 g9.size
          refine bodyPost_ret (v := .tuple #[.agg #[.int .i64 0, .slice none 0 0], .bool false]) (by simp [results, Try.results37, go_sem, d0, d1]) rfl ?_
          rw [HDO.out, dropQ_no HDO.out, dropN_no HDO.out]
          exact ⟨_, _, rfl, Or.inl ⟨rfl, rfl⟩, (b8.setCell (by simp) _).setCell (by simp) _⟩
    · obtain rfl : n = k + 1 := by omega
      clear hkl
      have hkn5 : (k : Int) ≤ (k : Int) + 1 := by omega
      have hkn6 : (k : Int) < (k : Int) + 1 := by omega
      have hkn7 : k ≤ k + 1 := by omega
      have HOWN := Lib.hid (show ∀ (W : World) (v : Value) (B : Nat), W.ownsRow B 3 1 v k (cut ws 0 k) → W.ownsRow B 3 1 v (k + 1 - 1) ((dropL ws k (k + 1)).map (Value.int .i64)) from fun W v B h => by rw [HCUT.out, show k + 1 - (k + 1) = 0 by omega]; simpa [cut] using h)
      go_region_held3 (fun w' => w'.cell? ⟨w.heap.size, 0, none⟩ = some (.int .i64 q) ∧ w'.cell? ⟨w.heap.size, 1, none⟩ = some (.slice (some ⟨b, off, none⟩) (k + 1) (k + 1)))
        (first | exact ⟨hc0, hc1⟩ | exact ⟨k0, k1⟩ | exact ⟨j0, j1⟩ | exact (hx1.drew.alloc _).cells | exact (hx4.alloc _).cells | exact (hx7.alloc _).cells | exact ((hx7.far (p := ⟨w4.heap.size, 0, none⟩) (show w.heap.size ≠ w4.heap.size by have := hx4.lt; omega) _).far (p := ⟨w4.heap.size, 1, none⟩) (show w.heap.size ≠ w4.heap.size by have := hx4.lt; omega) _).cells | exact ((hx7.far (p := ⟨w1.heap.size, 0, none⟩) (show w.heap.size ≠ w1.heap.size by omega) _).far (p := ⟨w1.heap.size, 1, none⟩) (show w.heap.size ≠ w1.heap.size by omega) _).cells | go_keep)
        (first
          | (go_at_call 72; refine (l1Own_row b off (k + 1) k (k + 1) ws w1.drew hn9 (by omega) hw1.out.drew).mono ?_; rintro e w4 ⟨v4, rfl, hown4, hb4⟩; have hx4 := hx1.drew.now hb4; have hr4 := hr1.drew.now hb4; have hw4 := Lib.hid (hw1.out.drew.now hb4); have g4 := bfrom g1.drew hb4; have hbe : w1.heap.size ≤ w1.drew.heap.size := Nat.le_refl _; have hsz4 := hb4.size; have hn4 : True := trivial; obtain ⟨k0, k1⟩ := hx4.cells)
          | (go_at_call 72; refine (l1Own_row b off (k + 1) k (k + 1) ws (w1.drew.alloc (.cells #[.int .i64 0, .slice none 0 0] 29)) hn9 (by omega) (hw1.out.drew.alloc _)).mono ?_; rintro e w4 ⟨v4, rfl, hown4, hb4⟩; have hx4 := (hx1.drew.alloc _).now hb4; have hr4 := (hr1.drew.alloc _).now hb4; have hw4 := Lib.hid ((hw1.out.drew.alloc _).now hb4); have g4 := bfrom ((g1.drew).alloc g1.size _) hb4; have hbe : w1.heap.size ≤ (w1.drew.alloc (.cells #[.int .i64 0, .slice none 0 0] 29)).heap.size := (by simp); have hsz4 := hb4.size; have hn4 := (Box.new w1.drew (.int .i64 0) (.slice none 0 0)).now hb4; obtain ⟨k0, k1⟩ := hx4.cells)
          | (refine step_append_nil _ (by rfl) _ _ _ (by rfl) _ 3 i0 _ 1 8 Try.underlying22 hi0 hz0 hz1 hz2 rfl (by omega) v4 k (cut ws 0 k) (by rfl) hown4 ⟨b, off, none⟩ 0 (by rfl) (by unfold maxLen; omega) (by omega) hsz4 ?_; intro B cp w7 hown7 hgrow7 hob7; have hx7 := hx4.grown hgrow7 (owns_ne hown4 (by omega)); have hr7 := hr4.grown hgrow7 (owns_ne hown4 (by omega)); have g7 := (show Below w.heap.size w w4 from g4).grown hgrow7 (by have := g4.size; omega) (fun j hj => by have := owns_le hown4 hj; omega); (first | (have hm7 := (show BoxT 29 w4 w1.heap.size (.int .i64 0) (.slice none 0 0) from hn4).grown hgrow7 (owns_ne hown4 (by simp)); have hnon : ∀ j, Value.ownBlock (.slice B k cp) = some j → j ≠ w1.heap.size := (fun j hj => by have := owns_le hown7 hj; simp at this; omega); obtain ⟨p0, p1⟩ := hm7.cells; obtain ⟨q0, q1⟩ := frozen_box2 hm7) | skip); obtain ⟨j0, j1⟩ := hx7.cells)
          | (refine step_append_nil _ (by rfl) _ _ _ (by rfl) _ 3 i0 _ 1 8 Try.underlying22 hi0 hz0 hz1 hz2 rfl (by omega) v4 k (cut ws 0 k) (by rfl) (hown4.alloc _) ⟨b, off, none⟩ 0 (by rfl) (by unfold maxLen; omega) (by omega) (by rw [World.size_alloc]; exact Nat.le_succ_of_le hsz4) ?_; intro B cp w7 hown7 hgrow7 hob7; have hx7 := (hx4.alloc _).grown hgrow7 (owns_ne hown4 (by omega)); have hr7 := (hr4.alloc _).grown hgrow7 (owns_ne hown4 (by omega)); have g7 := ((show Below w.heap.size w w4 from g4).alloc g4.size _).grown hgrow7 (by have := g4.size; simp; omega) (fun j hj => by have := owns_le hown4 hj; omega); have hm7 := (Box.new w4 (.int .i64 0) (.slice none 0 0)).grown hgrow7 (fun e => by have := owns_lt hown4 e.symm; omega); have hnon : ∀ j, Value.ownBlock (.slice B k cp) = some j → j ≠ w4.heap.size := (fun j hj => by rcases hob7 with ho | ho; (· have := owns_lt hown4 (ho.symm.trans hj); omega); (· have := hj.symm.trans ho; simp at this; omega)); obtain ⟨p0, p1⟩ := hm7.cells; obtain ⟨q0, q1⟩ := frozen_box2 hm7; obtain ⟨j0, j1⟩ := hx7.cells))
      all_goals (first
        | (have hb9 := Box.new w7 (.int .i64 q) (.slice B k cp)
           have hr9 := hr7.alloc (.cells #[.int .i64 q, .slice B k cp] 29)
           have ho9 := (HOWN.out _ _ _ hown7).alloc (.cells #[.int .i64 q, .slice B k cp] 29)
           have g9 := g7.alloc g7.size (.cells #[.int .i64 q, .slice B k cp] 29)
           obtain ⟨W9, hW9⟩ : ∃ W9, W9 = w7.alloc (.cells #[.int .i64 q, .slice B k cp] 29) := ⟨_, rfl⟩
           rw [← hW9] at hb9 hr9 ho9 g9 ⊢
           clear hW9
           generalize w7.heap.size = nb at hb9 ⊢)
        | (have hb9 := box_put (show BoxT 29 w7 w4.heap.size (.int .i64 0) (.slice none 0 0) from hm7) (.int .i64 q) (.slice B k cp)
           have hnb9 : w.heap.size + 1 < w4.heap.size ∧ True := ⟨by have := hr4.lt; omega, trivial⟩
           have hr9 := (hr7.far (p := ⟨w4.heap.size, 0, none⟩) (show w.heap.size + 1 ≠ w4.heap.size by omega) (.int .i64 q)).far (p := ⟨w4.heap.size, 1, none⟩) (show w.heap.size + 1 ≠ w4.heap.size by omega) (.slice B k cp)
           have ho9 := owns_sets (HOWN.out _ _ _ hown7) (nb := w4.heap.size) hnon (.int .i64 q) (.slice B k cp)
           have g9 := (g7.setCell (p := ⟨w4.heap.size, 0, none⟩) (show w.heap.size ≤ w4.heap.size by omega) (.int .i64 q)).setCell (p := ⟨w4.heap.size, 1, none⟩) (show w.heap.size ≤ w4.heap.size by omega) (.slice B k cp)
           obtain ⟨W9, hW9⟩ : ∃ W9, W9 = (w7.setCell ⟨w4.heap.size, 0, none⟩ (.int .i64 q)).setCell ⟨w4.heap.size, 1, none⟩ (.slice B k cp) := ⟨_, rfl⟩
           rw [← hW9] at hb9 hr9 ho9 g9 ⊢
           clear hW9
           generalize w4.heap.size = nb at hb9 hnb9 ⊢)
        | (have hb9 := box_put (show BoxT 29 w7 w1.heap.size (.int .i64 0) (.slice none 0 0) from hm7) (.int .i64 q) (.slice B k cp)
           have hnb9 : w.heap.size + 1 < w1.heap.size ∧ True := ⟨by have := hr4.lt; omega, trivial⟩
           have hr9 := (hr7.far (p := ⟨w1.heap.size, 0, none⟩) (show w.heap.size + 1 ≠ w1.heap.size by omega) (.int .i64 q)).far (p := ⟨w1.heap.size, 1, none⟩) (show w.heap.size + 1 ≠ w1.heap.size by omega) (.slice B k cp)
           have ho9 := owns_sets (HOWN.out _ _ _ hown7) (nb := w1.heap.size) hnon (.int .i64 q) (.slice B k cp)
           have g9 := (g7.setCell (p := ⟨w1.heap.size, 0, none⟩) (show w.heap.size ≤ w1.heap.size by omega) (.int .i64 q)).setCell (p := ⟨w1.heap.size, 1, none⟩) (show w.heap.size ≤ w1.heap.size by omega) (.slice B k cp)
           obtain ⟨W9, hW9⟩ : ∃ W9, W9 = (w7.setCell ⟨w1.heap.size, 0, none⟩ (.int .i64 q)).setCell ⟨w1.heap.size, 1, none⟩ (.slice B k cp) := ⟨_, rfl⟩
           rw [← hW9] at hb9 hr9 ho9 g9 ⊢
           clear hW9
           generalize w1.heap.size = nb at hb9 hnb9 ⊢))
      all_goals
        have HB9 := Lib.hid (show Box W9 nb (.int .i64 q) (.slice B (k + 1 - 1) cp) from by have h := hb9; exact h)
        have HO9 := Lib.hid (show W9.ownsRow w1.heap.size 3 1 (.slice B (k + 1 - 1) cp) (k + 1 - 1) ((dropL ws k (k + 1)).map (Value.int .i64)) from by have h := owns_less ho9 hbe; exact h)
        clear hb9 ho9 hown7 hgrow7 hx7 hr7 g7 j0 j1 hown4 hb4 hx4 hr4 g4 hsz4 hn4 k0 k1 hw4 hc0 hc1 hwk hwt
        have hkn' : Known W9 B (k + 1 - 1) (dropL ws k (k + 1)) := by
          by_cases h0 : k + 1 - 1 = 0
          · exact ⟨0, 0, fun h => absurd h (by omega), fun h => absurd h (by omega)⟩
          · obtain ⟨g, cp', hv, _, _, _⟩ := owns_head HO9.out (by omega)
            obtain ⟨rfl, rfl⟩ : B = some ⟨g, 0, none⟩ ∧ cp = cp' := by simpa using hv
            exact Known.of (Ints.sl (Own.of_own HO9.out fun i hi => by
              have : i < (dropL ws k (k + 1)).length := by rw [HLN.out]; exact hi
              simp [List.getD_eq_getElem?_getD, this]))
        have HKN := Lib.hid hkn'
        clear hkn'
        obtain ⟨e0, e1⟩ := HB9.out.cells
        cases hgd : goodB q (dropL ws k (k + 1)) (k + 1 - 1) with
        | true =>
          have HGD := Lib.hid hgd
          have hn2 : 1 ≤ k + 1 - 1 := by unfold goodB at hgd; exact (of_decide_eq_true hgd).lo
          clear hgd
          rw [HGD.out] at HDO
          go_wp2_with (go_at_call 52; refine (voGood_any q B (k + 1 - 1) cp (dropL ws k (k + 1)) _ (by omega) HKN.out).mono ?_; rintro e w8 ⟨rfl, hb8⟩; rw [HGD.out]; obtain ⟨q0, q1⟩ := (HB9.out.now hb8).cells; obtain ⟨d0, d1⟩ := (hr9.now hb8).cells; obtain ⟨f0, f1⟩ := KF.out _ (hr9.now hb8))
          have b8 := bfromB g9 hb8 g9.size
          refine bodyPost_ret (v := .tuple #[.agg #[.int .i64 q, .slice B (k + 1 - 1) cp], .bool true]) (by simp [results, Try.results37, go_sem, d0, d1]) rfl ?_
          rw [HDO.out, dropQ_yes HDO.out, dropN_yes HDO.out]
          refine ⟨_, _, rfl, ?_, (b8.setCell (by simp) _).setCell (by simp) _⟩
          obtain ⟨g, cp', hv, hg, _, _⟩ := owns_head HO9.out (by omega)
          obtain ⟨rfl, rfl⟩ : B = some ⟨g, 0, none⟩ ∧ cp = cp' := by simpa using hv
          refine Or.inr ⟨g, rfl, by omega, ?_⟩
          have hI : Ints _ g (k + 1 - 1) (dropL ws k (k + 1)) := Own.of_own (owns_now HO9.out hb8) fun i hi => by
            have : i < (dropL ws k (k + 1)).length := by rw [HLN.out]; exact hi
            simp [List.getD_eq_getElem?_getD, this]
          exact (hI.far (by simp; omega) _).far (by simp; omega) _
        | false =>
          have HGD := Lib.hid hgd
          clear hgd
          rw [HGD.out] at HDO
          go_wp2_with (go_at_call 52; refine (voGood_any q B (k + 1 - 1) cp (dropL ws k (k + 1)) _ (by omega) HKN.out).mono ?_; rintro e w8 ⟨rfl, hb8⟩; rw [HGD.out]; obtain ⟨d0, d1⟩ := (hr9.now hb8).cells; obtain ⟨f0, f1⟩ := KF.out _ (hr9.now hb8))
          have b8 := bfromB g9 hb8 g9.size
          refine bodyPost_ret (v := .tuple #[.agg #[.int .i64 0, .slice none 0 0], .bool false]) (by simp [results, Try.results37, go_sem, d0, d1]) rfl ?_
          rw [HDO.out, dropQ_no HDO.out, dropN_no HDO.out]
          exact ⟨_, _, rfl, Or.inl ⟨rfl, rfl⟩, (b8.setCell (by simp) _).setCell (by simp) _⟩
  | false =>
    have HE := Lib.hid (show dropOk q ws n x = false from by unfold dropOk; rw [hok]; rfl)
    by_cases hg : Vo.Good q ws n
    · have HGB := Lib.hid (goodB_true hg)
      have HIN := Lib.hid (show inB x 0 ((n : Int) - 1) = false from by unfold memOk at hok; rw [HGB.out] at hok; simpa using hok)
      have hn9 := hg.hi
      clear hg hok
      go_enter Try.func37, Try.ntmps37
      go_wp2_with fail
      refine (voGood_any q _ n n ws _ hm (HK.out.now hb0)).mono ?_
      rintro e w1 ⟨rfl, hb⟩
      rw [HGB.out]
      have hr1 := hr.now hb
      have g1 := bfrom hb0 hb
      obtain ⟨hc0, hc1⟩ := (hx.now hb).cells
      obtain ⟨d0, d1⟩ := hr1.cells
      obtain ⟨f0, f1⟩ := KF.out _ hr1
      go_wp2_with (go_at_call 71; refine (l1In_any x 0 _ _).mono ?_; rintro e w3 ⟨rfl, rfl⟩; rw [HIN.out])
      refine bodyPost_ret (v := .tuple #[.agg #[.int .i64 0, .slice none 0 0], .bool false]) (by simp [results, Try.results37, go_sem, d0, d1]) rfl ?_
      rw [HE.out, dropQ_no HE.out, dropN_no HE.out]
      exact ⟨_, _, rfl, Or.inl ⟨rfl, rfl⟩, (g1.setCell (by simp) _).setCell (by simp) _⟩
    · have HGB := Lib.hid (goodB_false hg)
      clear hg hok
      go_enter Try.func37, Try.ntmps37
      go_wp2_with fail
      refine (voGood_any q A n n ws _ hm (HK.out.now hb0)).mono ?_
      rintro e w1 ⟨rfl, hb⟩
      rw [HGB.out]
      have g1 := bfrom hb0 hb
      have hr1 := hr.now hb
      obtain ⟨d0, d1⟩ := hr1.cells
      obtain ⟨f0, f1⟩ := KF.out _ hr1
      go_wp2
      refine bodyPost_ret (v := .tuple #[.agg #[.int .i64 0, .slice none 0 0], .bool false]) (by simp [results, Try.results37, go_sem, d0, d1]) rfl ?_
      rw [HE.out, dropQ_no HE.out, dropN_no HE.out]
      exact ⟨_, _, rfl, Or.inl ⟨rfl, rfl⟩, (g1.setCell (by simp) _).setCell (by simp) _⟩
end Go.Proofs.Ytldpdjnedoflcab
