/- DropClue: the program's side. -/
import Derived.Test.YtnldodnpakpeeaaYk
import Derived.Outline
namespace Go.Proofs.Ytnldodnpakpeeaa
open Go.RowKit Vo

theorem owns_headO {w : World} {base : Nat} {e : TypeId} {size : Nat} {v : Value} {n : Nat} {xs : List Value} (h : w.ownsRow base e size v n xs) (hn : 0 < n) : ∃ g cap, v = .slice (some ⟨g, 0, none⟩) n cap ∧ base ≤ g ∧ n ≤ cap ∧ cap ≤ maxLen := by
  obtain ⟨h1, h2⟩ := h
  rcases h2 with ⟨_, h2⟩ | ⟨g', cap, cur, hv, hg', hh, h3, h4, r⟩
  · omega
  · exact ⟨g', cap, hv, hg', h3, h4⟩
set_option maxRecDepth 20000 in
set_option maxHeartbeats 8000000 in
theorem iDropClue_any (m : Int) (A : Option Addr) (n cap : Nat) (C : List Clu) (x : Int) (w : World) (hl : n ≤ 1048576) (hk : KCl w A n C) :
    Calls Try.prog 13 #[.agg #[.int .i64 m, .slice A n cap], .int .i64 x] w fun e w' => AnsP (if dropB m C x then m else 0) (if dropB m C x then dropC C x.toNat else []) (dropB m C x) w w' e := by
  obtain ⟨P, hP⟩ : ∃ P : World → Ending → Prop, P = fun w' e => AnsP (if dropB m C x then m else 0) (if dropB m C x then dropC C x.toNat else []) (dropB m C x) w w' e := ⟨_, rfl⟩
  suffices h : Calls Try.prog 13 #[.agg #[.int .i64 m, .slice A n cap], .int .i64 x] w fun e w' => P w' e by rw [hP] at h; exact h
  have HNO := Lib.hid (show dropB m C x = false → ∀ w' e, AnsP 0 [] false w w' e → P w' e from fun h w' e k => by rw [hP, h]; exact k)
  have HYES := Lib.hid (show dropB m C x = true → ∀ w' e, AnsP m (dropC C x.toNat) true w w' e → P w' e from fun h w' e k => by rw [hP, h]; exact k)
  clear hP
  have b0 : Below w.heap.size w ((w.alloc (.cells #[.int .i64 m, .slice A n cap] 28)).alloc (.cells #[.int .i64 0, .slice none 0 0] 28)) := (below1 w _).alloc (by simp) _
  have hx := (BoxT.new 28 w (.int .i64 m) (.slice A n cap)).alloc (.cells #[.int .i64 0, .slice none 0 0] 28)
  have hr := BoxT.new 28 (w.alloc (.cells #[.int .i64 m, .slice A n cap] 28)) (.int .i64 0) (.slice none 0 0)
  simp only [World.size_alloc] at hr
  have HR := Lib.hid (readPuzzle_any m A n cap C _ hl (hk.now b0))
  obtain ⟨c0, c1⟩ := hx.cells
  have HD := Lib.hid (show dropB m C x = (puzB m C && inB x 0 ((C.length : Int) - 1)) from rfl)
  generalize puzB m C = ok at *
  clear hk
  go_enter Try.func13, Try.ntmps13
  go_wp2_with fail
  refine HR.out.mono ?_
  rintro e w1 ⟨m', A', n', cp', C', rfl, hn', h8, ho, hb1, hyes⟩
  have b1 := bfrom b0 hb1
  have hz1' := hb1.size
  have hb0z := b0.size
  simp only [World.size_alloc] at hz1'
  have b6 := below1 w1 (.cells #[.int .i64 m', .slice A' n' cp'] 28)
  have hr6 := (hr.now hb1).now b6
  have hx6 := BoxT.new 28 w1 (.int .i64 m') (.slice A' n' cp')
  have HO1 := Lib.hid (show OwnCl w1 (w.heap.size + 2) (.slice A' n' cp') C' from owns_base2 ho (by simp))
  obtain ⟨x0, x1⟩ := hx6.cells
  obtain ⟨r0, r1⟩ := hr6.cells
  obtain ⟨t0, t1⟩ := box_soft2 hr6
  have HN := Lib.hid hn'
  have HY := Lib.hid hyes
  have b16 := bfrom b1 b6
  clear c0 c1 ho hyes hn' hx hr hb1 b0
  have NO := Lib.hid (fun hd => HNO.out hd _ _ (ansP_no ((b16.setCell (p := ⟨w.heap.size + 1, 0, none⟩) (by simp) (.int .i64 0)).setCell (p := ⟨w.heap.size + 1, 1, none⟩) (by simp) (.slice none 0 0))))
  cases ok with
  | false =>
    have ND := Lib.hid (NO.out (by rw [HD.out]; rfl))
    go_wp2
    refine bodyPost_ret (v := .tuple #[.agg #[.int .i64 0, .slice none 0 0], .bool false]) (by simp [results, Try.results13, go_sem, r0, r1]) rfl ND.out
  | true =>
    obtain ⟨rfl, rfl⟩ := HY.out rfl
    by_cases hx0 : x < 0
    · have ND := Lib.hid (NO.out (by rw [HD.out]; unfold inB; rw [decide_eq_false (show ¬ 0 ≤ x by omega)]; rfl))
      go_wp2
      refine bodyPost_ret (v := .tuple #[.agg #[.int .i64 0, .slice none 0 0], .bool false]) (by simp [results, Try.results13, go_sem, r0, r1]) rfl ND.out
    · by_cases hxn : (n' : Int) ≤ x
      · have ND := Lib.hid (NO.out (by rw [HD.out, HN.out]; unfold inB; rw [decide_eq_false (show ¬ x ≤ (n' : Int) - 1 by omega)]; simp))
        go_wp2
        refine bodyPost_ret (v := .tuple #[.agg #[.int .i64 0, .slice none 0 0], .bool false]) (by simp [results, Try.results13, go_sem, r0, r1]) rfl ND.out
      · obtain ⟨k, rfl⟩ : ∃ k : Nat, x = k := ⟨x.toNat, by omega⟩
        have hkn : k < n' := by omega
        have HDT := Lib.hid (show dropB m' C' k = true from by rw [HD.out, HN.out]; unfold inB; rw [decide_eq_true (show (0:Int) ≤ (k:Int) by omega), decide_eq_true (show (k : Int) ≤ (n' : Int) - 1 by omega)]; rfl)
        have ho := HO1.out
        unfold OwnCl at ho
        rw [HN.out] at ho
        obtain ⟨g, cg, hv, hgb, hgc, hgm⟩ := owns_headO ho (by omega)
        obtain ⟨rfl, rfl⟩ : A' = some ⟨g, 0, none⟩ ∧ cp' = cg := by simpa using hv
        have hgl : g < w1.heap.size := (ho.lt g rfl).2
        clear ho hv
        have HT := Lib.hid (takeOut_any (w.heap.size + 2) w1.heap.size g n' cp' k C' (w1.alloc (.cells #[.int .i64 m', .slice (some ⟨g, 0, none⟩) n' cp'] 28)) HN.out hkn h8 (by omega) (by simp) x1 (box_soft2 hx6).2 (owns_now HO1.out b6))
        have HX6 := Lib.hid hx6
        have HR6 := Lib.hid hr6
        clear hx6 hr6 r0 r1 t0 t1
        go_wp2_with fail
        refine HT.out.mono ?_
        rintro e w2 ⟨rfl, _, hh, ho2, hk2⟩
        have hx2 : BoxT 28 w2 w1.heap.size (.int .i64 m') (.slice (some ⟨g, 0, none⟩) (n' - 1) cp') := hh.trans (box_put2 HX6.out _)
        have hr2 : BoxT 28 w2 (w.heap.size + 1) (.int .i64 0) (.slice none 0 0) := (hk2.block _ (by simp; omega) (by omega) (by omega)).trans HR6.out
        have HO2 := Lib.hid ho2
        have B2 := Lib.hid (hk2.below (B := w.heap.size) (by simp; omega) (by omega) (by omega))
        obtain ⟨y0, y1⟩ := hx2.cells
        obtain ⟨r0, r1⟩ := hr2.cells
        obtain ⟨t0, t1⟩ := box_soft2 hr2
        clear hh ho2 hk2 x0 x1
        go_wp2
        refine bodyPost_ret (v := .tuple #[.agg #[.int .i64 m', .slice (some ⟨g, 0, none⟩) (n' - 1) cp'], .bool true]) (by simp [results, Try.results13, go_sem, r0, r1]) rfl (HYES.out HDT.out _ _ (ansP_yes (by rw [dropC_len (by rw [HN.out]; exact hkn), HN.out]) (owns_base2 (owns_far_ (owns_far_ HO2.out (by simp; omega) _) (by simp; omega) _) (by omega)) (((b16.trans B2.out).setCell (p := ⟨w.heap.size + 1, 0, none⟩) (by simp) _).setCell (p := ⟨w.heap.size + 1, 1, none⟩) (by simp) _)))

theorem dropA_len (m : Int) (C : List Clu) (x : Int) : (if dropB m C x then dropC C x.toNat else []).length ≤ 1048576 := by
  cases h : dropB m C x with
  | false => simp
  | true =>
    have hp : puzB m C = true := by unfold dropB at h; simp at h; exact h.1
    have h8 := puzB_le hp
    rw [if_pos rfl]
    unfold dropC
    rw [List.length_append, List.length_take, List.length_drop]
    omega
theorem sDropClue_p (m : Int) (b0 : Nat) (n cap : Nat) (C : List Clu) (x : Int) (w : World) (hl : n ≤ 1048576) (hcap : n ≤ cap) (hk : KCl w (some ⟨b0, 0, none⟩) n C) (_hx : (Lit.int .i64 x).wf = true) (h2 : cap ≤ n := by exact Nat.le_refl _) :
    Calls Try.prog 11 #[.agg #[.int .i64 m, .slice (some ⟨b0, 0, none⟩) n cap], .int .i64 x] w fun e w' => AnsP (if dropB m C x then m else 0) (if dropB m C x then dropC C x.toNat else []) (dropB m C x) w w' e :=
  sDropClue_any m b0 n cap C x w hl hcap (by omega) hk
theorem iDropClue_p (m : Int) (b0 : Nat) (n cap : Nat) (C : List Clu) (x : Int) (w : World) (hl : n ≤ 1048576) (_hcap : n ≤ cap) (hk : KCl w (some ⟨b0, 0, none⟩) n C) (_hx : (Lit.int .i64 x).wf = true) :
    Calls Try.prog 13 #[.agg #[.int .i64 m, .slice (some ⟨b0, 0, none⟩) n cap], .int .i64 x] w fun e w' => AnsP (if dropB m C x then m else 0) (if dropB m C x then dropC C x.toNat else []) (dropB m C x) w w' e :=
  iDropClue_any m _ n cap C x w hl hk
end Go.Proofs.Ytnldodnpakpeeaa
