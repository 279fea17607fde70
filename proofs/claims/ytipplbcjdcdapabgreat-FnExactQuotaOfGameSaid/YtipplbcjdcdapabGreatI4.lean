/- Contracts of the program's readGame and IsGame. -/
import Derived.Test.YtipplbcjdcdapabGreatI3
import Derived.Outline
namespace Go.Proofs.YtipplbcjdcdapabGreat
open Go.RowKit Vo

theorem leastL_nodup (S : Nat → Bool) : (leastL S).Nodup := by
  have := filter_sorted 9 (minB S)
  unfold Sorted at this
  rw [List.pairwise_map] at this
  exact this.imp fun {a b} hb e => by rw [e, before_irrefl] at hb; cases hb
theorem leastL_low {S : Nat → Bool} (hS : ∀ s, S s = true → s < 512) : ∀ s ∈ leastL S, s < 512 := fun s h => hS s ((minB_iff hS).1 ((mem_leastL hS).1 h)).1
theorem leastL_len {S : Nat → Bool} (hS : ∀ s, S s = true → s < 512) : (leastL S).length ≤ 512 := nodup_len 512 _ (leastL_nodup S) (leastL_low hS)
theorem goodG_small {m : Int} {L : List (List Int)} (h : ¬ (1 ≤ m ∧ m ≤ 9)) : goodG m L = false := by
  unfold goodG; rw [decide_eq_false (fun ⟨a, b, _⟩ => h ⟨a, b⟩)]; rfl
theorem goodG_nil {m : Int} : goodG m [] = false := by
  unfold goodG; rw [decide_eq_false (fun ⟨_, _, c⟩ => c rfl)]; rfl
theorem goodG_rows {n : Nat} {L : List (List Int)} (h : rowsB n L = false) : goodG (n : Int) L = false := by
  unfold goodG; rw [Int.toNat_natCast, h]; simp
theorem goodG_least {n : Nat} {L : List (List Int)} (h : ¬ setsN L = leastL (inS (setsN L))) : goodG (n : Int) L = false := by
  unfold goodG; rw [decide_eq_false h]; simp
theorem goodG_yes {n : Nat} {L : List (List Int)} (h1 : 1 ≤ n) (h9 : n ≤ 9) (hL : L ≠ []) (hr : rowsB n L = true) (h : setsN L = leastL (inS (setsN L))) : goodG (n : Int) L = true := by
  unfold goodG; rw [Int.toNat_natCast, hr, decide_eq_true h, decide_eq_true (show 1 ≤ (n : Int) ∧ (n : Int) ≤ 9 ∧ L ≠ [] from ⟨by omega, by omega, hL⟩)]; rfl
theorem goodG_parts {m : Int} {L : List (List Int)} (h : goodG m L = true) : 1 ≤ m ∧ m ≤ 9 ∧ L ≠ [] ∧ rowsB m.toNat L = true ∧ setsN L = leastL (inS (setsN L)) := by
  unfold goodG at h
  simp only [Bool.and_eq_true, decide_eq_true_eq] at h
  exact ⟨h.1.1, h.1.2.1, h.1.2.2, h.2.1, h.2.2⟩

/-- A game read: its sets, or none. -/
def ReadG (m : Int) (L : List (List Int)) (w w' : World) (e : Ending) : Prop :=
  Below w.heap.size w w' ∧ ((goodG m L = true ∧ ∃ B cp, e = .returned (.tuple #[.agg #[.int .i64 m, .slice B L.length cp], .bool true]) ∧ w'.ownsRow w.heap.size 66 1 (.slice B L.length cp) L.length (setsV (setsN L))) ∨ (goodG m L = false ∧ e = .returned (.tuple #[.agg #[.int .i64 0, .slice none 0 0], .bool false])))

set_option maxRecDepth 20000 in
set_option maxHeartbeats 6000000 in
theorem readGame_any (m : Int) (A : Option Addr) (n cap : Nat) (L : List (List Int)) (w : World) (hl : n ≤ 1048576) (hk : Lists w A n L) :
    Calls Tryz.prog 18 #[.agg #[.int .i64 m, .slice A n cap]] w fun e w' => ReadG m L w w' e := by
  have HK := Lib.hid hk
  have HLEN := Lib.hid hk.1
  clear hk
  have hb0 : Below w.heap.size w ((w.alloc (.cells #[.int .i64 m, .slice A n cap] 29)).alloc (.cells #[.int .i64 0, .slice none 0 0] 45)) := (below1 w _).alloc (by simp) _
  have hx := (BoxT.new 29 w (.int .i64 m) (.slice A n cap)).alloc (.cells #[.int .i64 0, .slice none 0 0] 45)
  have hr := BoxT.new 45 (w.alloc (.cells #[.int .i64 m, .slice A n cap] 29)) (.int .i64 0) (.slice none 0 0)
  simp only [World.size_alloc] at hr
  have KF := Lib.hid (show ∀ W, BoxT 45 W (w.heap.size + 1) (.int .i64 0) (.slice none 0 0) → (W.frozen? ⟨w.heap.size + 1, 0, none⟩ = false ∧ W.frozen? ⟨w.heap.size + 1, 1, none⟩ = false) from fun W h => by unfold BoxT at h; exact ⟨by simp [World.frozen?, h], by simp [World.frozen?, h]⟩)
  obtain ⟨w0, hw0⟩ : ∃ w0, w0 = (w.alloc (.cells #[.int .i64 m, .slice A n cap] 29)).alloc (.cells #[.int .i64 0, .slice none 0 0] 45) := ⟨_, rfl⟩
  have hsz0 : w0.heap.size = w.heap.size + 2 := by rw [hw0]; simp
  rw [← hw0] at hb0 hx hr
  have K := Lib.hid (show ∀ W, Below w0.heap.size w0 W → (W.cell? ⟨w.heap.size, 0, none⟩ = some (.int .i64 m) ∧ W.cell? ⟨w.heap.size, 1, none⟩ = some (.slice A n cap) ∧ W.cell? ⟨w.heap.size + 1, 0, none⟩ = some (.int .i64 0) ∧ W.cell? ⟨w.heap.size + 1, 1, none⟩ = some (.slice none 0 0) ∧ W.frozen? ⟨w.heap.size + 1, 0, none⟩ = false ∧ W.frozen? ⟨w.heap.size + 1, 1, none⟩ = false) from fun W hb => ⟨(hx.now hb).cells.1, (hx.now hb).cells.2, (hr.now hb).cells.1, (hr.now hb).cells.2, (KF.out _ (hr.now hb)).1, (KF.out _ (hr.now hb)).2⟩)
  obtain ⟨c0, c1, c2, c3, c4, c5⟩ := K.out _ (Below.refl _ _)
  have HB0 := Lib.hid hb0
  have HK0 := Lib.hid (HK.out.now hb0)
  clear hx hr hb0 KF HK
  by_cases hmm : 1 ≤ m ∧ m ≤ 9
  · obtain ⟨q, rfl⟩ : ∃ q : Nat, m = q := ⟨m.toNat, by omega⟩
    have hq1 : 1 ≤ q := by omega
    have hq9 : q ≤ 9 := by omega
    have HIN := Lib.hid (inB_yes hmm.1 hmm.2)
    clear hmm
    by_cases hn0 : n = 0
    · subst hn0
      have HG := Lib.hid (show goodG (q : Int) L = false from by rw [List.length_eq_zero_iff.1 HLEN.out]; exact goodG_nil)
      go_enter Tryz.func18, Tryz.ntmps18
      go_wp2_with fail
      rw [← hw0]
      clear hw0
      refine (isNumberOfMembers_any q _).mono ?_
      rintro e w1 ⟨rfl, rfl⟩
      rw [HIN.out]
      go_wp2
      refine bodyPost_ret (v := .tuple #[.agg #[.int .i64 0, .slice none 0 0], .bool false]) (by simp [results, Tryz.results18, go_sem, c2, c3]) rfl ⟨?_, Or.inr ⟨HG.out, rfl⟩⟩
      exact ((HB0.out).setCell (by simp) _).setCell (by simp) _
    · have HNE := Lib.hid (show L ≠ [] from fun e => hn0 (by rw [← HLEN.out, e]; rfl))
      have hnz : ((n : Int) == 0) = false := beq_false_of_ne (by omega)
      go_enter Tryz.func18, Tryz.ntmps18
      go_wp2_with fail
      rw [← hw0]
      clear hw0
      refine (isNumberOfMembers_any q _).mono ?_
      rintro e w1 ⟨rfl, rfl⟩
      rw [HIN.out]
      go_wp2_with fail
      refine (readWinningSets_any q A n cap L _ hq9 hl HK0.out).mono ?_
      rintro e w1 ⟨hb1, h⟩
      have g1 := bfrom HB0.out hb1
      clear c0 c1 c2 c3 c4 c5
      obtain ⟨c0, c1, c2, c3, c4, c5⟩ := K.out _ hb1
      rcases h with ⟨hrows, B, cp, rfl, hown⟩ | ⟨hrows, v0, rfl⟩
      · rw [HLEN.out] at hown ⊢
        have HO1 := Lib.hid hown
        have HSN := Lib.hid (show n = (setsN L).length from by rw [← HLEN.out]; simp [setsN])
        have HSL := Lib.hid (setsN_512 hq9 hrows)
        have HINS := Lib.hid (show ∀ s, inS (setsN L) s = true → s < 512 from fun s h => HSL.out s (inS_iff.1 h))
        have HLOW := Lib.hid (leastL_low HINS.out)
        have hlen : (leastL (inS (setsN L))).length ≤ 512 := leastL_len HINS.out
        have HR := Lib.hid hrows
        have HL := Lib.hid (fun W base h => leastOf_any (setsN L) base n cp B W HSN.out hl HSL.out h)
        have HE := Lib.hid (fun A2 k2 cap2 base2 W h1 h2 h3 h4 => sliceEqual_any (setsN L) (leastL (inS (setsN L))) w0.heap.size base2 n k2 cp cap2 B A2 W HSN.out h1 hl h2 HSL.out HLOW.out h3 h4)
        obtain ⟨T, hT⟩ : ∃ T, T = leastL (inS (setsN L)) := ⟨_, rfl⟩
        have HTT := Lib.hid hT
        have HL := Lib.hid (show ∀ W base, W.ownsRow base 66 1 (.slice B n cp) n (setsV (setsN L)) → Calls Tryz.prog 33 #[.slice B n cp] W fun e w' => SetsAt W.heap.size T W w' e from fun W base h => by rw [hT]; exact HL.out W base h)
        rw [← hT] at hlen HE
        clear hrows hown HINS HLOW hT
        go_wp2_with fail
        refine (HL.out _ _ HO1.out).mono ?_
        rintro e w2 ⟨A2, cap2, rfl, hown2, hb2⟩
        obtain ⟨k2, hk2⟩ : ∃ k2, k2 = T.length := ⟨_, rfl⟩
        rw [← hk2] at hown2 hlen ⊢
        have HK2 := Lib.hid hk2
        have HO2 := Lib.hid hown2
        have HO12 := Lib.hid (owns_now HO1.out hb2)
        clear hk2 hown2
        go_wp2_with fail
        refine (HE.out A2 k2 cap2 _ _ HK2.out (by omega) HO12.out HO2.out).mono ?_
        rintro e w3 ⟨rfl, hb3⟩
        have HO13 := Lib.hid (owns_now HO12.out hb3)
        have g2 := bfrom hb2 hb3
        have g13 := bfrom hb1 g2
        have g3 := bfrom HB0.out g13
        have hz3 := g13.size
        clear c0 c1 c2 c3 c4 c5
        obtain ⟨c0, c1, c2, c3, c4, c5⟩ := K.out _ g13
        clear HE HL HO12 HO2
        by_cases he : setsN L = T
        · have HG := Lib.hid (goodG_yes hq1 hq9 HNE.out HR.out (by rw [← HTT.out]; exact he))
          rw [decide_eq_true he]
          clear he
          go_wp2
          refine bodyPost_ret (v := .tuple #[.agg #[.int .i64 q, .slice B n cp], .bool true]) (by simp [results, Tryz.results18, go_sem, c2, c3]) rfl ⟨(g3.setCell (by simp) _).setCell (by simp) _, Or.inl ⟨HG.out, B, cp, by rw [HLEN.out], ?_⟩⟩
          rw [HLEN.out]
          exact owns_less (ownsRow_setCell_below (ownsRow_setCell_below HO13.out (by simp; omega) _) (by simp; omega) _) (by omega)
        · have HG := Lib.hid (goodG_least (n := q) (L := L) (by rw [← HTT.out]; exact he))
          rw [decide_eq_false he]
          clear he
          go_wp2
          refine bodyPost_ret (v := .tuple #[.agg #[.int .i64 0, .slice none 0 0], .bool false]) (by simp [results, Tryz.results18, go_sem, c2, c3]) rfl ⟨(g3.setCell (by simp) _).setCell (by simp) _, Or.inr ⟨HG.out, rfl⟩⟩
      · have HG := Lib.hid (goodG_rows hrows)
        clear hrows
        go_wp2
        refine bodyPost_ret (v := .tuple #[.agg #[.int .i64 0, .slice none 0 0], .bool false]) (by simp [results, Tryz.results18, go_sem, c2, c3]) rfl ⟨(g1.setCell (by simp) _).setCell (by simp) _, Or.inr ⟨HG.out, rfl⟩⟩
  · have HIN := Lib.hid (inB_no hmm)
    have HG := Lib.hid (goodG_small (L := L) hmm)
    clear hmm
    go_enter Tryz.func18, Tryz.ntmps18
    go_wp2_with fail
    rw [← hw0]
    clear hw0
    refine (isNumberOfMembers_any m _).mono ?_
    rintro e w1 ⟨rfl, rfl⟩
    rw [HIN.out]
    go_wp2
    refine bodyPost_ret (v := .tuple #[.agg #[.int .i64 0, .slice none 0 0], .bool false]) (by simp [results, Tryz.results18, go_sem, c2, c3]) rfl ⟨?_, Or.inr ⟨HG.out, rfl⟩⟩
    exact ((HB0.out).setCell (by simp) _).setCell (by simp) _

end Go.Proofs.YtipplbcjdcdapabGreat
