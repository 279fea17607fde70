/- Contract of the program's HeadsGame. -/
import Derived.Test.YtkckefjpkhjeaaaBh
import Derived.Test.YtkckefjpkhjeaaaO2
import Derived.BigQuiet
namespace Go.Proofs.Ytkckefjpkhjeaaa
open Go.RowKit Vo

/-- Does a set win that has at least h members? -/
def headsP (q : Int) (ws : List Int) (n : Nat) (h : Int) (s : Nat) : Bool := decide (h ≤ (((mem s 9).length : Nat) : Int)) && winB q ws n s
/-- Is there a committee, and a number of heads? -/
def headsB (q : Int) (ws : List Int) (n : Nat) (h : Int) : Bool := goodB q ws n && decide (0 ≤ h ∧ h ≤ (n : Int))

set_option maxRecDepth 20000 in
set_option maxHeartbeats 1000000 in
theorem heads1_any (q : Int) (A : Option Addr) (n cap : Nat) (ws : List Int) (h : Int) (s g g2 : Nat) (w : World) (hg : Vo.Good q ws n) (hs : s < 512) (hk : Known w A n ws) (hx : Box1 3 w g (.int .i64 h)) (hy : Box w g2 (.int .i64 q) (.slice A n cap)) :
    Calls Try.prog 81 #[.int .u64 s, .pointer (some ⟨g, 0, none⟩), .pointer (some ⟨g2, 0, none⟩)] w fun e w' => e = .returned (.bool (headsP q ws n h s)) ∧ Below w.heap.size w w' := by
  have HW := Lib.hid (fun W hb => wins_known q A n cap ws s W hg hs (hk.now (w' := W) hb))
  have HP := Lib.hid (show headsP q ws n h s = (decide (h ≤ (((mem s 9).length : Nat) : Int)) && winB q ws n s) from rfl)
  have K := Lib.hid (show ∀ W, Below w.heap.size w W → W.cell? ⟨g, 0, none⟩ = some (.int .i64 h) ∧ W.cell? ⟨g2, 0, none⟩ = some (.int .i64 q) ∧ W.cell? ⟨g2, 1, none⟩ = some (.slice A n cap) from fun W hb => ⟨(hx.now hb).cell, (hy.now hb).cells.1, (hy.now hb).cells.2⟩)
  obtain ⟨c0, c1, c2⟩ := K.out _ (Below.refl _ _)
  have HSZ := Lib.hid (fun W => size_any s W hs)
  clear hg hk hx hy
  generalize (mem s 9).length = l at *
  generalize winB q ws n s = r at *
  by_cases hl : h ≤ (l : Int)
  · have hd : decide (h ≤ (l : Int)) = true := decide_eq_true hl
    rw [hd] at HP
    go_enter Try.func81, Try.ntmps81
    go_wp2_with fail
    go_region_held3 (fun w' => w'.cell? ⟨g, 0, none⟩ = some (.int .i64 h) ∧ w'.cell? ⟨g2, 0, none⟩ = some (.int .i64 q) ∧ w'.cell? ⟨g2, 1, none⟩ = some (.slice A n cap))
      (first | exact ⟨c0, c1, c2⟩ | exact ⟨d0, d1, d2⟩ | go_keep)
      (first
        | (go_at_call 82; refine (HSZ.out _).mono ?_; rintro e w1 ⟨rfl, rfl⟩)
        | (go_at_call 83; refine (HW.out _ (Below.refl _ _).drew).mono ?_; rintro e w2 ⟨rfl, hb2⟩; have b2 := bfrom (Below.refl _ w).drew hb2; obtain ⟨d0, d1, d2⟩ := K.out _ b2)
        | fail)
    all_goals
      go_wp2
      go_ret
      exact ⟨by rw [HP.out]; simp, b2⟩
  · have hd : decide (h ≤ (l : Int)) = false := decide_eq_false hl
    rw [hd] at HP
    go_enter Try.func81, Try.ntmps81
    go_wp2_with fail
    first
      | (go_region_with (first
          | (go_at_call 82; refine (HSZ.out _).mono ?_; rintro e w1 ⟨rfl, rfl⟩)))
      | fail
    all_goals
      go_wp2
      go_ret
      exact ⟨by rw [HP.out]; rfl, by first | exact (Below.refl _ _).drew | exact below_drewN (Below.refl _ _) _ | exact Below.refl _ _⟩

theorem heads_asks (q : Int) (A : Option Addr) (n cap : Nat) (ws : List Int) (h : Int) (g g2 : Nat) (w : World) (hg : Vo.Good q ws n) (hk : Known w A n ws) (hx : Box1 3 w g (.int .i64 h)) (hy : Box w g2 (.int .i64 q) (.slice A n cap)) :
    Asks (headsP q ws n h) 81 #[] #[.pointer (some ⟨g, 0, none⟩), .pointer (some ⟨g2, 0, none⟩)] n w :=
  ⟨enters_of Try.func81 (by kernel_rfl) rfl, fun W s hs hb => heads1_any q A n cap ws h s g g2 W hg (by have := pow_lt (n := n) (by have := hg.hi; omega); omega) (hk.now hb) (hx.now hb) (hy.now hb)⟩

set_option maxRecDepth 20000 in
set_option maxHeartbeats 4000000 in
theorem iHeadsGame_ans (q : Int) (A : Option Addr) (n cap : Nat) (ws : List Int) (h : Int) (w : World) (hm : n ≤ 9223372036854775807) (hk : Known w A n ws) (_hw : (Lit.int .i64 h).wf = true) :
    Calls Try.prog 37 #[.agg #[.int .i64 q, .slice A n cap], .int .i64 h] w fun e w' => AnsG RSS (okM (headsB q ws n h) n) (okG (headsB q ws n h) ((inOrder n).filter (leastP (headsP q ws n h) n))) (headsB q ws n h) w w' e := by
  have HK := Lib.hid hk
  clear hk
  have hb0 : Below w.heap.size w (((w.alloc (.cells #[.int .i64 q, .slice A n cap] 47)).alloc (.cells #[.int .i64 h] 3)).alloc (.cells #[.int .i64 0, .slice none 0 0] 37)) := ((below1 w _).alloc (by simp) _).alloc (by simp; omega) _
  have hy := ((Box.new w (.int .i64 q) (.slice A n cap)).alloc (.cells #[.int .i64 h] 3)).alloc (.cells #[.int .i64 0, .slice none 0 0] 37)
  have hx := (Box1.new 3 (w.alloc (.cells #[.int .i64 q, .slice A n cap] 47)) (.int .i64 h)).alloc (.cells #[.int .i64 0, .slice none 0 0] 37)
  have hr := BoxT.new 37 ((w.alloc (.cells #[.int .i64 q, .slice A n cap] 47)).alloc (.cells #[.int .i64 h] 3)) (.int .i64 0) (.slice none 0 0)
  simp only [World.size_alloc] at hx hr
  have KF := Lib.hid (show ∀ W, BoxT 37 W (w.heap.size + 1 + 1) (.int .i64 0) (.slice none 0 0) → (W.frozen? ⟨w.heap.size + 1 + 1, 0, none⟩ = false ∧ W.frozen? ⟨w.heap.size + 1 + 1, 1, none⟩ = false) from fun W h => by unfold BoxT at h; exact ⟨by simp [World.frozen?, h], by simp [World.frozen?, h]⟩)
  obtain ⟨w0, hw0⟩ : ∃ w0, w0 = ((w.alloc (.cells #[.int .i64 q, .slice A n cap] 47)).alloc (.cells #[.int .i64 h] 3)).alloc (.cells #[.int .i64 0, .slice none 0 0] 37) := ⟨_, rfl⟩
  have hz0 : w0.heap.size = w.heap.size + 1 + 1 + 1 := by rw [hw0]; simp
  have K := Lib.hid (show ∀ W, Below w0.heap.size w0 W → (W.cell? ⟨w.heap.size, 0, none⟩ = some (.int .i64 q) ∧ W.cell? ⟨w.heap.size, 1, none⟩ = some (.slice A n cap) ∧ W.cell? ⟨w.heap.size + 1, 0, none⟩ = some (.int .i64 h)) from fun W hb => by
    rw [hw0] at hb
    exact ⟨(hy.now hb).cells.1, (hy.now hb).cells.2, (hx.now hb).cell⟩)
  have HB0 := Lib.hid (show Below w.heap.size w w0 from by rw [hw0]; exact hb0)
  have HY0 := Lib.hid (show Box w0 w.heap.size (.int .i64 q) (.slice A n cap) from by rw [hw0]; exact hy)
  have HX0 := Lib.hid (show Box1 3 w0 (w.heap.size + 1) (.int .i64 h) from by rw [hw0]; exact hx)
  have HR0 := Lib.hid (show BoxT 37 w0 (w.heap.size + 1 + 1) (.int .i64 0) (.slice none 0 0) from by rw [hw0]; exact hr)
  have HIC := Lib.hid (fun W (hb : Below w0.heap.size w0 W) => isCommittee_any q A n cap ws W hm (HK.out.now (HB0.out.trans (hb.mono (by have := HB0.out.size; omega)))))
  obtain ⟨c0, c1, c2⟩ := K.out _ (Below.refl _ _)
  clear hb0 hy hx hr
  cases hok : headsB q ws n h with
  | true =>
    obtain ⟨hgb, h0, h1⟩ : goodB q ws n = true ∧ 0 ≤ h ∧ h ≤ (n : Int) := by unfold headsB at hok; simpa using hok
    have hgood : Vo.Good q ws n := of_decide_eq_true hgb
    have h9 : n < 10 := by have := hgood.hi; omega
    have HGB := Lib.hid hgb
    have HM := Lib.hid (okM_yes (m := (n : Int)) (show true = true from rfl))
    have HG := Lib.hid (okG_yes (S := (inOrder n).filter (leastP (headsP q ws n h) n)) (show true = true from rfl))
    rw [HM.out, HG.out]
    clear HM HG hok
    have hd1 : decide (h < 0) = false := decide_eq_false (by omega)
    have hd2 : decide ((n : Int) < h) = false := decide_eq_false (by omega)
    have HNA := Lib.hid (fun W (hb : Below w0.heap.size w0 W) => newAssembly_any (headsP q ws n h) n _ _ _ W (heads_asks q A n cap ws h (w.heap.size + 1) w.heap.size W hgood (HK.out.now (HB0.out.trans (hb.mono (by have := HB0.out.size; omega)))) (HX0.out.now hb) (HY0.out.now hb)))
    have HGA := Lib.hid (fun g b wa W hh => aGame_any (headsP q ws n h) n g b wa W h9 hh)
    obtain ⟨L, hL⟩ : ∃ L, L = setsL ((inOrder n).filter (leastP (headsP q ws n h) n)) := ⟨_, rfl⟩
    simp only [← hL] at HGA
    rw [← hL]
    clear hL
    obtain ⟨ln, hln⟩ : ∃ z, z = L.length := ⟨_, rfl⟩
    simp only [← hln] at HGA
    have HLN := Lib.hid hln
    clear hln hgb hgood
    go_enter Try.func37, Try.ntmps37
    go_wp2_with fail
    rw [← hw0]
    clear hw0
    go_region_held3 (fun w' => w'.cell? ⟨w.heap.size, 0, none⟩ = some (.int .i64 q) ∧ w'.cell? ⟨w.heap.size, 1, none⟩ = some (.slice A n cap) ∧ w'.cell? ⟨w.heap.size + 1, 0, none⟩ = some (.int .i64 h))
      (first | exact ⟨c0, c1, c2⟩ | exact ⟨d0, d1, d2⟩ | exact ⟨e0, e1, e2⟩ | go_keep)
      (first
        | (go_at_call 80; refine (HIC.out _ (Below.refl _ _).drew).mono ?_; rintro e w2 ⟨rfl, hb2⟩; rw [HGB.out]; have b2 := bfrom (Below.refl _ w0).drew hb2; obtain ⟨d0, d1, d2⟩ := K.out _ b2)
        | (go_at_call 62; refine (members_any _ A n cap _).mono ?_; rintro e w3 ⟨rfl, hb3⟩; have b3 := bfrom b2 hb3; obtain ⟨e0, e1, e2⟩ := K.out _ b3)
        | fail)
    all_goals
      go_wp2_with (first
        | (go_at_call 62; refine (members_any _ A n cap _).mono ?_; rintro e w4 ⟨rfl, hb4⟩; have b4 := bfrom b3 hb4)
        | (go_at_call 84; refine (HNA.out _ b4).mono ?_; rintro e w5 ⟨g, b, rfl, hasm, hb5⟩; have HA := Lib.hid hasm; have HB5 := Lib.hid (bfrom b4 hb5); clear hasm)
        | (go_at_call 85; refine (HGA.out g b w4 _ HA.out).mono ?_; rintro e w6 ⟨B, cB, rfl, hl6, hg6⟩; have HL6 := Lib.hid hl6; have HG6 := Lib.hid hg6; clear hl6 hg6; have hr6 := (HR0.out.now HB5.out).grown HG6.out (by have := HA.out.bw; have := b4.size; simp; omega); obtain ⟨f0, f1⟩ := KF.out _ hr6; obtain ⟨p0, p1⟩ := hr6.cells)
        | fail)
      have hz5 := HB5.out.size
      have hz6 := HG6.out.size
      have hbb := HA.out.bw
      have hz4 := b4.size
      have HB6 := Lib.hid (show Below w.heap.size w w6 from (HB0.out.trans (HB5.out.mono (by omega))).grown HG6.out (by omega) (fun k hk => by cases hk; omega))
      refine bodyPost_ret (v := .tuple #[.agg #[.int .i64 n, .slice B ln cB], .bool true]) (by simp [results, Try.results37, go_sem, p0, p1]) rfl ⟨B, cB, by rw [HLN.out], ?_, ?_⟩
      · rw [← HLN.out]
        exact Lies.rss_wide (Lies.far (Lies.far HL6.out (by first | omega | (simp; omega)) _) (by first | omega | (simp; omega)) _) (by omega) (by first | exact Nat.le_refl _ | simp) (by first | exact Nat.le_refl _ | simp)
      · exact (HB6.out.setCell (by simp; omega) _).setCell (by simp; omega) _
  | false =>
    have HOK := Lib.hid hok
    have HM := Lib.hid (okM_no (m := (n : Int)) (show false = false from rfl))
    have HG := Lib.hid (okG_no (S := (inOrder n).filter (leastP (headsP q ws n h) n)) (show false = false from rfl))
    rw [HM.out, HG.out]
    clear HM HG hok
    cases hgb : goodB q ws n with
    | false =>
      have HGB := Lib.hid hgb
      clear hgb
      go_enter Try.func37, Try.ntmps37
      go_wp2_with fail
      rw [← hw0]
      clear hw0
      first
        | (go_region_with (first
            | (go_at_call 80; refine (HIC.out _ (Below.refl _ _).drew).mono ?_; rintro e w2 ⟨rfl, hb2⟩; rw [HGB.out]; have b2 := bfrom (Below.refl _ w0).drew hb2; obtain ⟨d0, d1, d2⟩ := K.out _ b2)))
        | fail
      all_goals
        have hr2 := HR0.out.now b2
        obtain ⟨f0, f1⟩ := KF.out _ hr2
        obtain ⟨p0, p1⟩ := hr2.cells
        have hz2 := b2.size
        have HB2 := Lib.hid (show Below w.heap.size w w2 from HB0.out.trans (b2.mono (by omega)))
        go_wp2
        refine bodyPost_ret (v := .tuple #[.agg #[.int .i64 0, .slice none 0 0], .bool false]) (by simp [results, Try.results37, go_sem, p0, p1]) rfl ?_
        exact AnsG.none_ RSS.none_ ((HB2.out.setCell (by simp; omega) _).setCell (by simp; omega) _)
    | true =>
      have HGB := Lib.hid hgb
      have hno : ¬ (0 ≤ h ∧ h ≤ (n : Int)) := fun hh => by have := HOK.out; unfold headsB at this; rw [hgb, decide_eq_true hh] at this; cases this
      clear hgb
      by_cases hz : h < 0
      · have hd1 : decide (h < 0) = true := decide_eq_true hz
        clear hno
        go_enter Try.func37, Try.ntmps37
        go_wp2_with fail
        rw [← hw0]
        clear hw0
        first
          | (go_region_with (first
              | (go_at_call 80; refine (HIC.out _ (Below.refl _ _).drew).mono ?_; rintro e w2 ⟨rfl, hb2⟩; rw [HGB.out]; have b2 := bfrom (Below.refl _ w0).drew hb2; obtain ⟨d0, d1, d2⟩ := K.out _ b2)))
          | fail
        all_goals
          have hr2 := HR0.out.now b2
          obtain ⟨f0, f1⟩ := KF.out _ hr2
          obtain ⟨p0, p1⟩ := hr2.cells
          have hz2 := b2.size
          have HB2 := Lib.hid (show Below w.heap.size w w2 from HB0.out.trans (b2.mono (by omega)))
          go_wp2
          refine bodyPost_ret (v := .tuple #[.agg #[.int .i64 0, .slice none 0 0], .bool false]) (by simp [results, Try.results37, go_sem, p0, p1]) rfl ?_
          exact AnsG.none_ RSS.none_ ((HB2.out.setCell (by simp; omega) _).setCell (by simp; omega) _)
      · have hd1 : decide (h < 0) = false := decide_eq_false hz
        have hd2 : decide ((n : Int) < h) = true := decide_eq_true (by omega)
        clear hno hz
        go_enter Try.func37, Try.ntmps37
        go_wp2_with fail
        rw [← hw0]
        clear hw0
        go_region_held3 (fun w' => w'.cell? ⟨w.heap.size, 0, none⟩ = some (.int .i64 q) ∧ w'.cell? ⟨w.heap.size, 1, none⟩ = some (.slice A n cap) ∧ w'.cell? ⟨w.heap.size + 1, 0, none⟩ = some (.int .i64 h))
          (first | exact ⟨c0, c1, c2⟩ | exact ⟨d0, d1, d2⟩ | exact ⟨e0, e1, e2⟩ | go_keep)
          (first
            | (go_at_call 80; refine (HIC.out _ (Below.refl _ _).drew).mono ?_; rintro e w2 ⟨rfl, hb2⟩; rw [HGB.out]; have b2 := bfrom (Below.refl _ w0).drew hb2; obtain ⟨d0, d1, d2⟩ := K.out _ b2)
            | (go_at_call 62; refine (members_any _ A n cap _).mono ?_; rintro e w3 ⟨rfl, hb3⟩; have b3 := bfrom b2 hb3; obtain ⟨e0, e1, e2⟩ := K.out _ b3)
            | fail)
        all_goals
          have hr2 := HR0.out.now b3
          obtain ⟨f0, f1⟩ := KF.out _ hr2
          obtain ⟨p0, p1⟩ := hr2.cells
          have hz2 := b3.size
          have HB2 := Lib.hid (show Below w.heap.size w w3 from HB0.out.trans (b3.mono (by omega)))
          go_wp2
          refine bodyPost_ret (v := .tuple #[.agg #[.int .i64 0, .slice none 0 0], .bool false]) (by simp [results, Try.results37, go_sem, p0, p1]) rfl ?_
          exact AnsG.none_ RSS.none_ ((HB2.out.setCell (by simp; omega) _).setCell (by simp; omega) _)
end Go.Proofs.Ytkckefjpkhjeaaa
