/- A clue more: the program's side. -/
import Derived.Test.YtlcfimddcedbcaaGf
import Derived.Outline
namespace Go.Proofs.Ytlcfimddcedbcaa
open Go.RowKit Vo

theorem owns_base2 {w : World} {base base' : Nat} {e : TypeId} {size : Nat} {v : Value} {n : Nat} {xs : List Value} (h : w.ownsRow base e size v n xs) (hb : base' ≤ base) : w.ownsRow base' e size v n xs := by
  obtain ⟨h1, h2⟩ := h
  refine ⟨h1, ?_⟩
  rcases h2 with h2 | ⟨g', cap', cur, hv, hg, hh, r⟩
  · exact Or.inl h2
  · exact Or.inr ⟨g', cap', cur, hv, Nat.le_trans hb hg, hh, r⟩
theorem box_put2 {t : TypeId} {w : World} {g : Nat} {u v : Value} (h : BoxT t w g u v) (b : Value) : BoxT t (w.setCell ⟨g, 1, none⟩ b) g u b := by
  unfold BoxT at *
  simp [World.setCell, Array.getElem?_modify, h]
theorem box_far2 {t : TypeId} {w : World} {g : Nat} {u v : Value} (h : BoxT t w g u v) {p : Addr} (hp : g ≠ p.block) (b : Value) : BoxT t (w.setCell p b) g u v := by
  unfold BoxT at *; exact (Below.heap_setCell w p b g hp).trans h
theorem box_soft2 {t : TypeId} {w : World} {g : Nat} {u v : Value} (h : BoxT t w g u v) : w.frozen? ⟨g, 0, none⟩ = false ∧ w.frozen? ⟨g, 1, none⟩ = false := by
  unfold BoxT at h; exact ⟨by simp [World.frozen?, h], by simp [World.frozen?, h]⟩

set_option maxRecDepth 20000 in
set_option maxHeartbeats 4000000 in
theorem readPuzzle_no (m : Int) (A : Option Addr) (n cap : Nat) (C : List Clu) (w : World) (hl : n ≤ 1048576) (hk : KCl w A n C) (hp : puzB m C = false) :
    Calls Try.prog 85 #[.agg #[.int .i64 m, .slice A n cap]] w fun e w' => e = .returned (.tuple #[.agg #[.int .i64 0, .slice none 0 0], .bool false]) ∧ Below w.heap.size w w' := by
  have hb2 : Below w.heap.size w ((w.alloc (.cells #[.int .i64 m, .slice A n cap] 55)).alloc (.cells #[.int .i64 0, .slice none 0 0] 55)) := (below1 w _).alloc (by simp) _
  have hx := (BoxT.new 55 w (.int .i64 m) (.slice A n cap)).alloc (.cells #[.int .i64 0, .slice none 0 0] 55)
  have hr := BoxT.new 55 (w.alloc (.cells #[.int .i64 m, .slice A n cap] 55)) (.int .i64 0) (.slice none 0 0)
  simp only [World.size_alloc] at hr
  obtain ⟨c0, c1⟩ := hx.cells
  have HK := Lib.hid (hk.now hb2)
  have HP := Lib.hid (iIsPuzzle_any m A n cap C _ (by omega) HK.out)
  rw [hp] at HP
  clear hk hp
  go_enter Try.func85, Try.ntmps85
  go_wp2_with fail
  refine HP.out.mono ?_
  rintro e w1 ⟨rfl, hb1⟩
  have hr1 := hr.now hb1
  have b1 := bfrom hb2 hb1
  have hz1 := b1.size
  obtain ⟨f0, f1⟩ := box_soft2 hr1
  obtain ⟨r0, r1⟩ := hr1.cells
  clear c0 c1 hx hr hb1 hb2
  go_wp2
  refine bodyPost_ret (v := .tuple #[.agg #[.int .i64 0, .slice none 0 0], .bool false]) (by simp [results, Try.results85, go_sem, r0, r1]) rfl ⟨rfl, ?_⟩
  exact (b1.setCell (by simp) _).setCell (by simp) _

def addB (m : Int) (C : List Clu) (c : Clu) : Bool := puzB m C && puzB m (C ++ [c])
theorem puzB_le {m : Int} {C : List Clu} (h : puzB m C = true) : C.length ≤ 8 := by
  rcases Nat.lt_or_ge 8 C.length with h1 | h1
  · rw [puzB_long (by omega)] at h; cases h
  · exact h1
/-- What readPuzzle gives, be it a puzzle or not. -/
theorem readPuzzle_any (m : Int) (A : Option Addr) (n cap : Nat) (C : List Clu) (w : World) (hl : n ≤ 1048576) (hk : KCl w A n C) :
    Calls Try.prog 85 #[.agg #[.int .i64 m, .slice A n cap]] w fun e w' => ∃ (m' : Int) (A' : Option Addr) (n' cp' : Nat) (C' : List Clu), e = .returned (.tuple #[.agg #[.int .i64 m', .slice A' n' cp'], .bool (puzB m C)]) ∧ C'.length = n' ∧ n' ≤ 8 ∧ OwnCl w' w.heap.size (.slice A' n' cp') C' ∧ Below w.heap.size w w' ∧ (puzB m C = true → m' = m ∧ C' = C) := by
  cases hp : puzB m C with
  | false =>
    refine (readPuzzle_no m A n cap C w hl hk hp).mono ?_
    rintro e w' ⟨rfl, hb⟩
    exact ⟨0, none, 0, 0, [], rfl, rfl, by omega, World.ownsRow_nil _ _ _ _, hb, fun h => by cases h⟩
  | true =>
    refine (readPuzzle_yes m A n cap C w hl hk hp).mono ?_
    rintro e w' ⟨g, rfl, ho, hb⟩
    exact ⟨m, _, n, n, C, rfl, hk.1, by have := puzB_le hp; have := hk.1; omega, ho, hb, fun _ => ⟨rfl, rfl⟩⟩
theorem ansP_no {w w' : World} (hb : Below w.heap.size w w') : AnsP 0 [] false w w' (.returned (.tuple #[.agg #[.int .i64 0, .slice none 0 0], .bool false])) :=
  ⟨none, 0, rfl, RCl.lies ⟨none, 0, rfl, Or.inl rfl⟩ (Nat.le_refl _), hb⟩
theorem ansP_yes {w w' : World} {m : Int} {C : List Clu} {A : Option Addr} {n cap : Nat} (hn : C.length = n) (ho : OwnCl w' w.heap.size (.slice A n cap) C) (hb : Below w.heap.size w w') : AnsP m C true w w' (.returned (.tuple #[.agg #[.int .i64 m, .slice A n cap], .bool true])) := by
  subst hn
  exact ⟨A, cap, rfl, OwnCl.rcl rfl ho, hb⟩

set_option maxRecDepth 20000 in
set_option maxHeartbeats 8000000 in
theorem iAddClue_any (m : Int) (A : Option Addr) (n cap : Nat) (C : List Clu) (x y z : Int) (w : World) (hl : n ≤ 1048576) (hk : KCl w A n C) :
    Calls Try.prog 44 #[.agg #[.int .i64 m, .slice A n cap], .agg #[.int .i64 x, .int .i64 y, .int .i64 z]] w fun e w' => AnsP (if addB m C (x, y, z) then m else 0) (if addB m C (x, y, z) then C ++ [(x, y, z)] else []) (addB m C (x, y, z)) w w' e := by
  obtain ⟨P, hP⟩ : ∃ P : World → Ending → Prop, P = fun w' e => AnsP (if addB m C (x, y, z) then m else 0) (if addB m C (x, y, z) then C ++ [(x, y, z)] else []) (addB m C (x, y, z)) w w' e := ⟨_, rfl⟩
  suffices h : Calls Try.prog 44 #[.agg #[.int .i64 m, .slice A n cap], .agg #[.int .i64 x, .int .i64 y, .int .i64 z]] w fun e w' => P w' e by rw [hP] at h; exact h
  have HNO := Lib.hid (show addB m C (x, y, z) = false → ∀ w' e, AnsP 0 [] false w w' e → P w' e from fun h w' e k => by rw [hP, h]; exact k)
  have HYES := Lib.hid (show addB m C (x, y, z) = true → ∀ w' e, AnsP m (C ++ [(x, y, z)]) true w w' e → P w' e from fun h w' e k => by rw [hP, h]; exact k)
  clear hP
  have b0 : Below w.heap.size w (((w.alloc (.cells #[.int .i64 m, .slice A n cap] 55)).alloc (.cells #[.int .i64 x, .int .i64 y, .int .i64 z] 45)).alloc (.cells #[.int .i64 0, .slice none 0 0] 55)) := ((below1 w _).alloc (by simp) _).alloc (by simp; omega) _
  have hx := ((BoxT.new 55 w (.int .i64 m) (.slice A n cap)).alloc (.cells #[.int .i64 x, .int .i64 y, .int .i64 z] 45)).alloc (.cells #[.int .i64 0, .slice none 0 0] 55)
  have hy := (Bx3.new 45 (w.alloc (.cells #[.int .i64 m, .slice A n cap] 55)) (.int .i64 x) (.int .i64 y) (.int .i64 z)).alloc (.cells #[.int .i64 0, .slice none 0 0] 55)
  have hr := BoxT.new 55 ((w.alloc (.cells #[.int .i64 m, .slice A n cap] 55)).alloc (.cells #[.int .i64 x, .int .i64 y, .int .i64 z] 45)) (.int .i64 0) (.slice none 0 0)
  simp only [World.size_alloc] at hr hy
  obtain ⟨i0, hi0, hz0, hz1, hz2⟩ := info_parts infoClue
  have HR := Lib.hid (readPuzzle_any m A n cap C _ hl (hk.now b0))
  obtain ⟨c0, c1⟩ := hx.cells
  have HADD := Lib.hid (show addB m C (x, y, z) = (puzB m C && puzB m (C ++ [(x, y, z)])) from rfl)
  generalize puzB m C = ok at *
  clear hk
  go_enter Try.func44, Try.ntmps44
  go_wp2_with fail
  refine HR.out.mono ?_
  rintro e w1 ⟨m', A', n', cp', C', rfl, hn', h8, ho, hb1, hyes⟩
  have b1 := bfrom b0 hb1
  have hz1' := hb1.size
  have hb0z := b0.size
  simp only [World.size_alloc] at hz1'
  have b6 := below1 w1 (.cells #[.int .i64 m', .slice A' n' cp'] 55)
  have hr6 := (hr.now hb1).now b6
  have hy6 := (hy.now hb1).now b6
  have hx6 := BoxT.new 55 w1 (.int .i64 m') (.slice A' n' cp')
  have HO := Lib.hid (show (w1.alloc (.cells #[.int .i64 m', .slice A' n' cp'] 55)).ownsRow w.heap.size 45 3 (.slice A' n' cp') n' (cluesV C') from by
    have h := owns_now (owns_base2 ho hb0z) b6
    rw [hn'] at h
    exact h)
  have HOL := Lib.hid (fun k (h : (Value.slice A' n' cp').ownBlock = some k) => ho.lt k h)
  obtain ⟨y0, y1, y2⟩ := hy6.cells
  obtain ⟨x0, x1⟩ := hx6.cells
  have HN := Lib.hid hn'
  have HY := Lib.hid hyes
  have b16 := bfrom b1 b6
  clear c0 c1 ho hyes hn' hx hy hr hb1 b0
  cases ok with
  | false =>
    go_wp2_with (first
      | (at_builtin; refine wpList_append_lies _ rfl _ _ _ rfl w.heap.size 45 i0 _ 3 24 Try.underlying53 hi0 hz0 hz1 hz2 rfl (by decide) (.slice A' n' cp') n' (cluesV C') rfl (HO.out.alloc _) ⟨w1.heap.size + 1, 0, none⟩ 1 1 [.int .i64 x, .int .i64 y, .int .i64 z] rfl rfl (World.news_of_block (cs := #[.int .i64 x, .int .i64 y, .int .i64 z]) (t := 45) (fr := (0, 0)) (by have h := heap_alloc_new (w1.alloc (.cells #[.int .i64 m', .slice A' n' cp'] 55)) (.cells #[.int .i64 x, .int .i64 y, .int .i64 z] 45); simpa using h)) (by simp [Value.oneCell']) (by omega) (by unfold maxLen; omega) (by omega) (by simp; omega) (w1.heap.size + 2) (by simp) ?_; intro gg cap3 w7 hown hgrow hat hlt7; have hx7 := (hx6.alloc (.cells #[.int .i64 x, .int .i64 y, .int .i64 z] 45)).grown hgrow (fun e => by have := HOL.out _ e.symm; omega); have hr7 := (hr6.alloc (.cells #[.int .i64 x, .int .i64 y, .int .i64 z] 45)).grown hgrow (fun e => by have := HOL.out _ e.symm; simp only [World.size_alloc] at this; omega); obtain ⟨x70, x71⟩ := hx7.cells; obtain ⟨r70, r71⟩ := hr7.cells; obtain ⟨s70, s71⟩ := box_soft2 hx7; obtain ⟨t70, t71⟩ := box_soft2 hr7)
      | fail)
    have g7 : Below w.heap.size w w7 := Below.grown (b16.alloc b16.size _) hgrow (by simp; omega) (fun i hi => (HO.out.lt i hi).1)
    refine bodyPost_ret (v := .tuple #[.agg #[.int .i64 0, .slice none 0 0], .bool false]) (by simp [results, Try.results44, go_sem, r70, r71]) rfl (HNO.out (by rw [HADD.out]; rfl) _ _ (ansP_no (((g7.setCell (by simp; omega) _).setCell (by simp; omega) _).setCell (by simp; omega) _)))
  | true =>
    obtain ⟨rfl, rfl⟩ := HY.out rfl
    have HP := Lib.hid (fun W gg cap3 (h : OwnCl W w.heap.size (.slice (some ⟨gg, 0, none⟩) (n' + 1) cap3) (C' ++ [(x, y, z)])) => iIsPuzzle_any m' _ (n' + 1) cap3 (C' ++ [(x, y, z)]) W (by omega) ((OwnCl.cls (by simp [HN.out]) h).2.kcl (by simp [HN.out])))
    have HNOW := Lib.hid (fun W W' gg cap3 (h : OwnCl W w.heap.size (.slice (some ⟨gg, 0, none⟩) (n' + 1) cap3) (C' ++ [(x, y, z)])) (hb : Below W.heap.size W W') => (show OwnCl W' w.heap.size (.slice (some ⟨gg, 0, none⟩) (n' + 1) cap3) (C' ++ [(x, y, z)]) from owns_now h hb))
    obtain ⟨r, hrr⟩ : ∃ r, puzB m' (C' ++ [(x, y, z)]) = r := ⟨_, rfl⟩
    rw [hrr] at HP
    have HRR := Lib.hid hrr
    clear hrr
    cases r with
    | false =>
      go_wp2_with (first
        | (at_builtin; refine wpList_append_lies _ rfl _ _ _ rfl w.heap.size 45 i0 _ 3 24 Try.underlying53 hi0 hz0 hz1 hz2 rfl (by decide) (.slice A' n' cp') n' (cluesV C') rfl (HO.out.alloc _) ⟨w1.heap.size + 1, 0, none⟩ 1 1 [.int .i64 x, .int .i64 y, .int .i64 z] rfl rfl (World.news_of_block (cs := #[.int .i64 x, .int .i64 y, .int .i64 z]) (t := 45) (fr := (0, 0)) (by have h := heap_alloc_new (w1.alloc (.cells #[.int .i64 m', .slice A' n' cp'] 55)) (.cells #[.int .i64 x, .int .i64 y, .int .i64 z] 45); simpa using h)) (by simp [Value.oneCell']) (by omega) (by unfold maxLen; omega) (by omega) (by simp; omega) (w1.heap.size + 2) (by simp) ?_; intro gg cap3 w7 hown hgrow hat hlt7; have hx7 := (hx6.alloc (.cells #[.int .i64 x, .int .i64 y, .int .i64 z] 45)).grown hgrow (fun e => by have := HOL.out _ e.symm; omega); have hr7 := (hr6.alloc (.cells #[.int .i64 x, .int .i64 y, .int .i64 z] 45)).grown hgrow (fun e => by have := HOL.out _ e.symm; simp only [World.size_alloc] at this; omega); obtain ⟨x70, x71⟩ := hx7.cells; obtain ⟨r70, r71⟩ := hr7.cells; obtain ⟨s70, s71⟩ := box_soft2 hx7; obtain ⟨t70, t71⟩ := box_soft2 hr7; have hgg : gg ≠ w1.heap.size := hat.elim (fun h => by have := HOL.out _ h; omega) (fun h => by omega); have hgg2 : w.heap.size + 1 + 1 + 1 ≤ gg := hat.elim (fun h => by have := HOL.out _ h; simp only [World.size_alloc] at this; omega) (fun h => by omega); have hO8 : OwnCl (w7.setCell ⟨w1.heap.size, 1, none⟩ (.slice (some ⟨gg, 0, none⟩) (n' + 1) cap3)) w.heap.size (.slice (some ⟨gg, 0, none⟩) (n' + 1) cap3) (C' ++ [(x, y, z)]) := (by unfold OwnCl; rw [cluesV_snoc, List.length_append, HN.out]; exact owns_far_ hown (by simpa using hgg) _); have hx8 := box_put2 hx7 (.slice (some ⟨gg, 0, none⟩) (n' + 1) cap3))
        | (go_at_call 29; refine (HP.out _ gg cap3 hO8).mono ?_; rintro e w8 ⟨rfl, hb8⟩; have g7 : Below w.heap.size w w7 := Below.grown (b16.alloc b16.size _) hgrow (by simp; omega) (fun i hi => (HO.out.lt i hi).1); have hz7 := g7.size; have hz7' : w1.heap.size + 1 ≤ w7.heap.size := (by have := hgrow.size; simp at this; omega); have g8 : Below w.heap.size w w8 := (g7.setCell (p := ⟨w1.heap.size, 1, none⟩) (by simp; omega) (.slice (some ⟨gg, 0, none⟩) (n' + 1) cap3)).trans (hb8.mono (by simp; omega)); have hx9 := hx8.now hb8; have hr9 := (box_far2 hr7 (p := ⟨w1.heap.size, 1, none⟩) (by simp; omega) (.slice (some ⟨gg, 0, none⟩) (n' + 1) cap3)).now hb8; have hO9 := HNOW.out _ _ gg cap3 hO8 hb8; obtain ⟨x90, x91⟩ := hx9.cells; obtain ⟨r90, r91⟩ := hr9.cells; obtain ⟨t90, t91⟩ := box_soft2 hr9; have HO9 := Lib.hid hO9)
        | fail)
      refine bodyPost_ret (v := .tuple #[.agg #[.int .i64 0, .slice none 0 0], .bool false]) (by simp [results, Try.results44, go_sem, r90, r91]) rfl (HNO.out (by rw [HADD.out, HRR.out]; rfl) _ _ (ansP_no ((g8.setCell (by simp; omega) _).setCell (by simp; omega) _)))
    | true =>
      go_wp2_with (first
        | (at_builtin; refine wpList_append_lies _ rfl _ _ _ rfl w.heap.size 45 i0 _ 3 24 Try.underlying53 hi0 hz0 hz1 hz2 rfl (by decide) (.slice A' n' cp') n' (cluesV C') rfl (HO.out.alloc _) ⟨w1.heap.size + 1, 0, none⟩ 1 1 [.int .i64 x, .int .i64 y, .int .i64 z] rfl rfl (World.news_of_block (cs := #[.int .i64 x, .int .i64 y, .int .i64 z]) (t := 45) (fr := (0, 0)) (by have h := heap_alloc_new (w1.alloc (.cells #[.int .i64 m', .slice A' n' cp'] 55)) (.cells #[.int .i64 x, .int .i64 y, .int .i64 z] 45); simpa using h)) (by simp [Value.oneCell']) (by omega) (by unfold maxLen; omega) (by omega) (by simp; omega) (w1.heap.size + 2) (by simp) ?_; intro gg cap3 w7 hown hgrow hat hlt7; have hx7 := (hx6.alloc (.cells #[.int .i64 x, .int .i64 y, .int .i64 z] 45)).grown hgrow (fun e => by have := HOL.out _ e.symm; omega); have hr7 := (hr6.alloc (.cells #[.int .i64 x, .int .i64 y, .int .i64 z] 45)).grown hgrow (fun e => by have := HOL.out _ e.symm; simp only [World.size_alloc] at this; omega); obtain ⟨x70, x71⟩ := hx7.cells; obtain ⟨r70, r71⟩ := hr7.cells; obtain ⟨s70, s71⟩ := box_soft2 hx7; obtain ⟨t70, t71⟩ := box_soft2 hr7; have hgg : gg ≠ w1.heap.size := hat.elim (fun h => by have := HOL.out _ h; omega) (fun h => by omega); have hgg2 : w.heap.size + 1 + 1 + 1 ≤ gg := hat.elim (fun h => by have := HOL.out _ h; simp only [World.size_alloc] at this; omega) (fun h => by omega); have hO8 : OwnCl (w7.setCell ⟨w1.heap.size, 1, none⟩ (.slice (some ⟨gg, 0, none⟩) (n' + 1) cap3)) w.heap.size (.slice (some ⟨gg, 0, none⟩) (n' + 1) cap3) (C' ++ [(x, y, z)]) := (by unfold OwnCl; rw [cluesV_snoc, List.length_append, HN.out]; exact owns_far_ hown (by simpa using hgg) _); have hx8 := box_put2 hx7 (.slice (some ⟨gg, 0, none⟩) (n' + 1) cap3))
        | (go_at_call 29; refine (HP.out _ gg cap3 hO8).mono ?_; rintro e w8 ⟨rfl, hb8⟩; have g7 : Below w.heap.size w w7 := Below.grown (b16.alloc b16.size _) hgrow (by simp; omega) (fun i hi => (HO.out.lt i hi).1); have hz7 := g7.size; have hz7' : w1.heap.size + 1 ≤ w7.heap.size := (by have := hgrow.size; simp at this; omega); have g8 : Below w.heap.size w w8 := (g7.setCell (p := ⟨w1.heap.size, 1, none⟩) (by simp; omega) (.slice (some ⟨gg, 0, none⟩) (n' + 1) cap3)).trans (hb8.mono (by simp; omega)); have hx9 := hx8.now hb8; have hr9 := (box_far2 hr7 (p := ⟨w1.heap.size, 1, none⟩) (by simp; omega) (.slice (some ⟨gg, 0, none⟩) (n' + 1) cap3)).now hb8; have hO9 := HNOW.out _ _ gg cap3 hO8 hb8; obtain ⟨x90, x91⟩ := hx9.cells; obtain ⟨r90, r91⟩ := hr9.cells; obtain ⟨t90, t91⟩ := box_soft2 hr9; have HO9 := Lib.hid hO9)
        | fail)
      refine bodyPost_ret (v := .tuple #[.agg #[.int .i64 m', .slice (some ⟨gg, 0, none⟩) (n' + 1) cap3], .bool true]) (by simp [results, Try.results44, go_sem, r90, r91]) rfl (HYES.out (by rw [HADD.out, HRR.out]; rfl) _ _ (ansP_yes (by simp [HN.out]) (owns_far_ (owns_far_ HO9.out (by simp; omega) _) (by simp; omega) _) ((g8.setCell (by simp; omega) _).setCell (by simp; omega) _)))
end Go.Proofs.Ytlcfimddcedbcaa
