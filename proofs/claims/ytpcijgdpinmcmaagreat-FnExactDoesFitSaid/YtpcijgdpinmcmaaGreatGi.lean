/- DoesFit of the model and of the program. -/
import Derived.Test.YtpcijgdpinmcmaaGreatGh
import Derived.Test.YtpcijgdpinmcmaaGreatI6
import Derived.Outline
namespace Go.Proofs.YtpcijgdpinmcmaaGreat
open Go.RowKit Vo

/-- Is there a game of at most so many members? -/
def upG (most m : Int) (L : List (List Int)) : Bool := goodG m L && decide (m ≤ most)
theorem upG_bad {most m : Int} {L : List (List Int)} (h : goodG m L = false) : upG most m L = false := by unfold upG; rw [h]; rfl
theorem upG_at {most m : Int} {L : List (List Int)} (h : goodG m L = true) : upG most m L = decide (m ≤ most) := by unfold upG; rw [h]; rfl
theorem upG_parts {most m : Int} {L : List (List Int)} (h : upG most m L = true) : goodG m L = true ∧ m ≤ most := by
  unfold upG at h
  rw [Bool.and_eq_true, decide_eq_true_iff] at h
  exact h

/-- A game of at most so many members, as it was read. -/
def ReadU (most m : Int) (L : List (List Int)) (w w' : World) (e : Ending) : Prop :=
  Below w.heap.size w w' ∧ ((upG most m L = true ∧ ∃ B cp, e = .returned (.tuple #[.agg #[.int .i64 m, .slice B L.length cp], .bool true]) ∧ w'.ownsRow w.heap.size 77 1 (.slice B L.length cp) L.length (setsV (setsN L))) ∨ (upG most m L = false ∧ e = .returned (.tuple #[.agg #[.int .i64 0, .slice none 0 0], .bool false])))

theorem owns_other {w : World} {base : Nat} {e : TypeId} {size : Nat} {v : Value} {n : Nat} {xs : List Value} (h : w.ownsRow base e size v n xs) {p : Addr} (hp : ∀ g, v.ownBlock = some g → g ≠ p.block) (u : Value) : (w.setCell p u).ownsRow base e size v n xs := by
  obtain ⟨h1, h2⟩ := h
  refine ⟨h1, ?_⟩
  rcases h2 with h2 | ⟨g', cap', cur, hv, hg, hh, r⟩
  · exact Or.inl h2
  · exact Or.inr ⟨g', cap', cur, hv, hg, (Below.heap_setCell w p u g' (hp g' (by rw [hv]; rfl))).trans hh, r⟩
theorem owns_base {w : World} {base base' : Nat} {e : TypeId} {size : Nat} {v : Value} {n : Nat} {xs : List Value} (h : w.ownsRow base e size v n xs) (hb : base' ≤ base) : w.ownsRow base' e size v n xs := by
  obtain ⟨h1, h2⟩ := h
  refine ⟨h1, ?_⟩
  rcases h2 with h2 | ⟨g', cap', cur, hv, hg, hh, r⟩
  · exact Or.inl h2
  · exact Or.inr ⟨g', cap', cur, hv, by omega, hh, r⟩

set_option maxRecDepth 20000 in
set_option maxHeartbeats 6000000 in
theorem readGameUpTo_any (most m : Int) (A : Option Addr) (n cap : Nat) (L : List (List Int)) (w : World) (hl : n ≤ 1048576) (hk : Lists w A n L) :
    Calls Tryz.prog 23 #[.agg #[.int .i64 m, .slice A n cap], .int .i64 most] w fun e w' => ReadU most m L w w' e := by
  have hb0 : Below w.heap.size w ((w.alloc (.cells #[.int .i64 m, .slice A n cap] 32)).alloc (.cells #[.int .i64 0, .slice none 0 0] 54)) := (below1 w _).alloc (by simp) _
  have hx := (BoxT.new 32 w (.int .i64 m) (.slice A n cap)).alloc (.cells #[.int .i64 0, .slice none 0 0] 54)
  have hr := BoxT.new 54 (w.alloc (.cells #[.int .i64 m, .slice A n cap] 32)) (.int .i64 0) (.slice none 0 0)
  simp only [World.size_alloc] at hr
  have HK := Lib.hid (hk.now hb0)
  clear hk
  obtain ⟨c0, c1⟩ := hx.cells
  have HSL := Lib.hid (show ∀ (v : Value) (n : Nat) (xs : List Value) (W : World), W.ownsRow (w.heap.size + 2) 77 1 v n xs → ∀ g, v.ownBlock = some g → w.heap.size + 1 ≠ g from fun v n xs W h g hg => by have := owns_le h hg; omega)
  go_enter Tryz.func23, Tryz.ntmps23
  go_wp2_with fail
  refine (readGame_any m A n cap L _ hl HK.out).mono ?_
  rintro e w1 ⟨hb1, h⟩
  simp only [World.size_alloc] at h
  have g1 := bfrom hb0 hb1
  have hr1 := hr.now hb1
  have hz1 := g1.size
  rcases h with ⟨hg, B, cp, rfl, ho⟩ | ⟨hg, rfl⟩
  · have HU := Lib.hid (upG_at (most := most) hg)
    have HO := Lib.hid ho
    obtain ⟨ln, hln⟩ : ∃ z, z = L.length := ⟨_, rfl⟩
    rw [← hln] at HO
    have HLN := Lib.hid hln
    rw [← hln]
    clear ho hg hln c0 c1 hx hr
    have b2 := below1 w1 (.cells #[.int .i64 m, .slice B ln cp] 54)
    have g2 := bfrom g1 b2
    have hr2 := hr1.now b2
    have hs2 := BoxT.new 54 w1 (.int .i64 m) (.slice B ln cp)
    have HO2 := Lib.hid (owns_now HO.out b2)
    obtain ⟨r0, r1⟩ := hr2.cells
    have hf2 : (w1.alloc (.cells #[.int .i64 m, .slice B ln cp] 54)).frozen? ⟨w.heap.size + 1, 0, none⟩ = false ∧ (w1.alloc (.cells #[.int .i64 m, .slice B ln cp] 54)).frozen? ⟨w.heap.size + 1, 1, none⟩ = false := by
      unfold BoxT at hr2
      generalize w1.alloc (.cells #[.int .i64 m, .slice B ln cp] 54) = W at *
      exact ⟨by simp [World.frozen?, hr2], by simp [World.frozen?, hr2]⟩
    obtain ⟨f0, f1⟩ := hf2
    obtain ⟨s0, s1⟩ := hs2.cells
    by_cases hm : m ≤ most
    · have hm' : ¬ most < m := by omega
      have HT := Lib.hid (show upG most m L = true from by rw [HU.out]; exact decide_eq_true hm)
      go_wp2
      refine bodyPost_ret (v := .tuple #[.agg #[.int .i64 m, .slice B ln cp], .bool true]) (by simp [results, Tryz.results23, go_sem, r0, r1]) rfl ⟨(g2.setCell (by simp) _).setCell (by simp) _, Or.inl ⟨HT.out, B, cp, by rw [HLN.out], ?_⟩⟩
      rw [← HLN.out]
      refine owns_base (owns_other (owns_other HO2.out (fun g hg => ?_) _) (fun g hg => ?_) _) (by omega)
      · exact fun e => HSL.out _ _ _ _ HO.out g hg e.symm
      · exact fun e => HSL.out _ _ _ _ HO.out g hg e.symm
    · have hm' : most < m := by omega
      have HT := Lib.hid (show upG most m L = false from by rw [HU.out]; exact decide_eq_false hm)
      go_wp2
      refine bodyPost_ret (v := .tuple #[.agg #[.int .i64 0, .slice none 0 0], .bool false]) (by simp [results, Tryz.results23, go_sem, r0, r1]) rfl ⟨?_, Or.inr ⟨HT.out, rfl⟩⟩
      first | exact (g2.setCell (by simp) _).setCell (by simp) _ | exact g2
  · have HT := Lib.hid (show upG most m L = false from upG_bad hg)
    have b2 := below1 w1 (.cells #[.int .i64 0, .slice none 0 0] 54)
    have g2 := bfrom g1 b2
    have hr2 := hr1.now b2
    clear hg c0 c1 hx hr
    obtain ⟨r0, r1⟩ := hr2.cells
    have hf2 : (w1.alloc (.cells #[.int .i64 0, .slice none 0 0] 54)).frozen? ⟨w.heap.size + 1, 0, none⟩ = false ∧ (w1.alloc (.cells #[.int .i64 0, .slice none 0 0] 54)).frozen? ⟨w.heap.size + 1, 1, none⟩ = false := by
      unfold BoxT at hr2
      generalize w1.alloc (.cells #[.int .i64 0, .slice none 0 0] 54) = W at *
      exact ⟨by simp [World.frozen?, hr2], by simp [World.frozen?, hr2]⟩
    obtain ⟨f0, f1⟩ := hf2
    go_wp2
    refine bodyPost_ret (v := .tuple #[.agg #[.int .i64 0, .slice none 0 0], .bool false]) (by simp [results, Tryz.results23, go_sem, r0, r1]) rfl ⟨?_, Or.inr ⟨HT.out, rfl⟩⟩
    first | exact (g2.setCell (by simp) _).setCell (by simp) _ | exact g2
def fitOk (c : Clu) (m : Int) (L : List (List Int)) : Bool := upG 4 m L && clueB m.toNat c
def fitV (c : Clu) (m : Int) (L : List (List Int)) : Bool := fitOk c m L && fitK (setsN L) m.toNat c
theorem fitOk_no {c : Clu} {m : Int} {L : List (List Int)} (h : upG 4 m L = false) : fitOk c m L = false ∧ fitV c m L = false := by
  have : fitOk c m L = false := by unfold fitOk; rw [h]; rfl
  exact ⟨this, by unfold fitV; rw [this]; rfl⟩
theorem fitOk_at {c : Clu} {q : Nat} {L : List (List Int)} (h : upG 4 (q : Int) L = true) : fitOk c (q : Int) L = clueB q c ∧ fitV c (q : Int) L = (clueB q c && fitK (setsN L) q c) := by
  have : fitOk c (q : Int) L = clueB q c := by unfold fitOk; rw [h, Int.toNat_natCast]; rfl
  exact ⟨this, by unfold fitV; rw [this, Int.toNat_natCast]⟩
theorem upG_nat {m : Int} {L : List (List Int)} (h : upG 4 m L = true) : ∃ q : Nat, m = (q : Int) ∧ 1 ≤ q ∧ q ≤ 4 ∧ rowsB q L = true ∧ (setsN L).length = L.length ∧ ∀ t ∈ setsN L, t < 2^q := by
  obtain ⟨hg, h4⟩ := upG_parts h
  obtain ⟨h1, h9, _, hr, _⟩ := goodG_parts hg
  obtain ⟨q, rfl⟩ : ∃ q : Nat, m = q := ⟨m.toNat, by omega⟩
  rw [Int.toNat_natCast] at hr
  exact ⟨q, rfl, by omega, by omega, hr, by unfold setsN; simp, fun t ht => setsN_lt (by omega) hr t ht⟩

set_option maxRecDepth 20000 in
set_option maxHeartbeats 6000000 in
theorem iDoesFit_any (k a b : Int) (m : Int) (A : Option Addr) (n cap : Nat) (L : List (List Int)) (w : World) (hl : n ≤ 1048576) (hk : Lists w A n L) :
    Calls Tryz.prog 9 #[.agg #[.int .i64 k, .int .i64 a, .int .i64 b], .agg #[.int .i64 m, .slice A n cap]] w fun e w' => e = .returned (.tuple #[.bool (fitV (k, a, b) m L), .bool (fitOk (k, a, b) m L)]) ∧ Below w.heap.size w w' := by
  have hb0 : Below w.heap.size w ((w.alloc (.cells #[.int .i64 k, .int .i64 a, .int .i64 b] 30)).alloc (.cells #[.int .i64 m, .slice A n cap] 32)) := (below1 w _).alloc (by simp) _
  have hy := (Bx3.new 30 w (.int .i64 k) (.int .i64 a) (.int .i64 b)).alloc (.cells #[.int .i64 m, .slice A n cap] 32)
  have hx := BoxT.new 32 (w.alloc (.cells #[.int .i64 k, .int .i64 a, .int .i64 b] 30)) (.int .i64 m) (.slice A n cap)
  simp only [World.size_alloc] at hx
  have HK := Lib.hid (hk.now hb0)
  have HLEN := Lib.hid hk.1
  clear hk
  obtain ⟨c0, c1⟩ := hx.cells
  go_enter Tryz.func9, Tryz.ntmps9
  go_wp2_with fail
  refine (readGameUpTo_any 4 m A n cap L _ hl HK.out).mono ?_
  rintro e w1 ⟨hb1, h⟩
  have g1 := bfrom hb0 hb1
  have hy1 := hy.now hb1
  rcases h with ⟨hg, B, cp, rfl, ho⟩ | ⟨hg, rfl⟩
  · obtain ⟨q, rfl, hq1, hq4, hr, hsl, hS⟩ := upG_nat hg
    have HV := Lib.hid (fitOk_at (c := (k, a, b)) hg)
    have HO := Lib.hid ho
    obtain ⟨ln, hln⟩ : ∃ z, z = L.length := ⟨_, rfl⟩
    have hlm : ln ≤ 1048576 := by rw [hln, HLEN.out]; exact hl
    rw [← hln] at HO
    rw [← hln]
    have HF := Lib.hid (fun W => isFor_any q k a b W hq1 hq4)
    have HFT := Lib.hid (fun W h hc => fits_any (setsN L) q (w.heap.size + 1 + 1) ln cp B k a b W hq4 (by rw [hsl, hln]) hlm hS h (clueB_ask hc))
    have b2 := below1 w1 (.cells #[.int .i64 q, .slice B ln cp] 54)
    have g2 := bfrom g1 b2
    have hy2 := hy1.now b2
    have hs2 := BoxT.new 54 w1 (.int .i64 q) (.slice B ln cp)
    have HO2 := Lib.hid (owns_now HO.out b2)
    clear ho hg hln hr hsl hS c0 c1 hx hy
    obtain ⟨c0, c1, c2⟩ := hy2.cells
    obtain ⟨s0, s1⟩ := hs2.cells
    cases hc : clueB q (k, a, b) with
    | false =>
      have HW := Lib.hid (show fitOk (k, a, b) (q : Int) L = false ∧ fitV (k, a, b) (q : Int) L = false from by rw [HV.out.1, HV.out.2, hc]; exact ⟨rfl, rfl⟩)
      have HFF := Lib.hid (fun W => HF.out W)
      rw [hc] at HFF
      clear hc HV HF HFT
      go_wp2_with fail
      refine (HFF.out _).mono ?_
      rintro e w3 ⟨rfl, hb3⟩
      go_wp2
      go_ret2
      exact ⟨by rw [HW.out.1, HW.out.2]; rfl, bfrom g2 hb3⟩
    | true =>
      have HW := Lib.hid (show fitOk (k, a, b) (q : Int) L = true ∧ fitV (k, a, b) (q : Int) L = fitK (setsN L) q (k, a, b) from by rw [HV.out.1, HV.out.2, hc]; exact ⟨rfl, rfl⟩)
      have HFF := Lib.hid (fun W => HF.out W)
      rw [hc] at HFF
      have HT := Lib.hid (fun W h => HFT.out W h hc)
      generalize fitK (setsN L) q (k, a, b) = r at *
      clear hc HV HF HFT
      go_wp2_with fail
      refine (HFF.out _).mono ?_
      rintro e w3 ⟨rfl, hb3⟩
      clear c0 c1 c2 s0 s1
      obtain ⟨c0, c1, c2⟩ := (hy2.now hb3).cells
      obtain ⟨s0, s1⟩ := (hs2.now hb3).cells
      have HO3 := Lib.hid (owns_now HO2.out hb3)
      simp only [World.size_alloc] at HO3
      go_wp2_with fail
      refine (HT.out _ HO3.out).mono ?_
      rintro e w4 ⟨rfl, hb4⟩
      go_wp2
      go_ret2
      exact ⟨by rw [HW.out.1, HW.out.2]; rfl, bfrom (bfrom g2 hb3) hb4⟩
  · have HW := Lib.hid (fitOk_no (c := (k, a, b)) hg)
    have b2 := below1 w1 (.cells #[.int .i64 0, .slice none 0 0] 54)
    clear hg c0 c1 hx hy
    go_wp2
    go_ret2
    exact ⟨by rw [HW.out.1, HW.out.2]; rfl, bfrom g1 b2⟩
set_option maxRecDepth 20000 in
set_option maxHeartbeats 4000000 in
theorem pzGame_any (m : Int) (A : Option Addr) (n cap : Nat) (L : List (List Int)) (w : World) (hl : n ≤ 1048576) (hcap : n ≤ cap) (hk : ListsR w A n L) :
    Calls Tryz.prog 18 #[.agg #[.int .i64 m, .slice A n cap]] w fun e w' => e = .returned (.bool (upG 4 m L)) ∧ Below w.heap.size w w' := by
  have hb0 := below1 w (.cells #[.int .i64 m, .slice A n cap] 32)
  have hx := BoxT.new 32 w (.int .i64 m) (.slice A n cap)
  obtain ⟨c0, c1⟩ := hx.cells
  have HG := Lib.hid (gmGood_any m A n cap L _ hl hcap (hk.now hb0))
  clear hk
  cases hg : goodG m L with
  | false =>
    rw [hg] at HG
    rw [upG_bad hg]
    clear hg
    go_enter Tryz.func18, Tryz.ntmps18
    go_wp2_with fail
    refine HG.out.mono ?_
    rintro e w1 ⟨rfl, hb1⟩
    go_wp2
    go_ret
    exact ⟨rfl, bfrom hb0 hb1⟩
  | true =>
    rw [hg] at HG
    rw [upG_at hg]
    clear hg
    go_enter Tryz.func18, Tryz.ntmps18
    go_wp2_with fail
    refine HG.out.mono ?_
    rintro e w1 ⟨rfl, hb1⟩
    clear c0 c1
    obtain ⟨c0, c1⟩ := (hx.now hb1).cells
    go_wp2
    go_ret
    exact ⟨rfl, bfrom hb0 hb1⟩

set_option maxRecDepth 20000 in
set_option maxHeartbeats 6000000 in
theorem sDoesFit_any (k a b : Int) (m : Int) (A : Option Addr) (n cap : Nat) (L : List (List Int)) (w : World) (hl : n ≤ 1048576) (hcap : n ≤ cap) (hk : ListsR w A n L) :
    Calls Tryz.prog 6 #[.agg #[.int .i64 k, .int .i64 a, .int .i64 b], .agg #[.int .i64 m, .slice A n cap]] w fun e w' => e = .returned (.tuple #[.bool (fitV (k, a, b) m L), .bool (fitOk (k, a, b) m L)]) ∧ Below w.heap.size w w' := by
  have hb0 : Below w.heap.size w ((w.alloc (.cells #[.int .i64 k, .int .i64 a, .int .i64 b] 30)).alloc (.cells #[.int .i64 m, .slice A n cap] 32)) := (below1 w _).alloc (by simp) _
  have hy := (Bx3.new 30 w (.int .i64 k) (.int .i64 a) (.int .i64 b)).alloc (.cells #[.int .i64 m, .slice A n cap] 32)
  have hx := BoxT.new 32 (w.alloc (.cells #[.int .i64 k, .int .i64 a, .int .i64 b] 30)) (.int .i64 m) (.slice A n cap)
  simp only [World.size_alloc] at hx
  have HK := Lib.hid (hk.now hb0)
  have HG := Lib.hid (pzGame_any m A n cap L _ hl hcap HK.out)
  clear hk
  obtain ⟨c0, c1⟩ := hx.cells
  cases hg : upG 4 m L with
  | false =>
    obtain ⟨e1, e2⟩ := fitOk_no (c := (k, a, b)) hg
    rw [e1, e2]
    rw [hg] at HG
    clear hg e1 e2
    go_enter Tryz.func6, Tryz.ntmps6
    go_wp2_with fail
    refine HG.out.mono ?_
    rintro e w1 ⟨rfl, hb1⟩
    go_wp2
    go_ret2
    exact ⟨rfl, bfrom hb0 hb1⟩
  | true =>
    obtain ⟨q, rfl, hq1, hq4, hr, hsl, hS⟩ := upG_nat hg
    have HV := Lib.hid (fitOk_at (c := (k, a, b)) hg)
    rw [hg] at HG
    have HP := Lib.hid (fun W => pzClue_any q k a b W hq1 hq4)
    cases hc : clueB q (k, a, b) with
    | false =>
      rw [HV.out.1, HV.out.2, hc]
      rw [hc] at HP
      clear hg hc HV hr hsl hS
      go_enter Tryz.func6, Tryz.ntmps6
      go_wp2_with fail
      refine HG.out.mono ?_
      rintro e w1 ⟨rfl, hb1⟩
      clear c0 c1
      obtain ⟨c0, c1⟩ := (hx.now hb1).cells
      obtain ⟨d0, d1, d2⟩ := (hy.now hb1).cells
      go_wp2_with fail
      refine (HP.out _).mono ?_
      rintro e w2 ⟨rfl, hb2⟩
      go_wp2
      go_ret2
      exact ⟨rfl, bfrom (bfrom hb0 hb1) hb2⟩
    | true =>
      rw [HV.out.1, HV.out.2, hc, Bool.true_and]
      rw [hc] at HP
      have hask := clueB_ask hc
      have HA := Lib.hid (fun W h => gmAll_any q A n cap L W (by omega) hl hr h)
      have HF := Lib.hid (fun g W (h : Own W g 4 (2^q) (fun j => .bool (winS (setsN L) j))) => pzFits_any (winS (setsN L)) q g (2^q) k a b W hq4 h hask)
      rw [fitP_fitK hS hask] at HF
      have HA2 := Lib.hid (show ∀ W, Lists W A n L → Calls Tryz.prog 21 #[.agg #[.int .i64 q, .slice A n cap]] W fun e w' => e = .returned (.slice (some ⟨W.heap.size + 1, 0, none⟩) (2^q : Nat) (2^q : Nat)) ∧ Own w' (W.heap.size + 1) 4 (2^q) (fun j => .bool (winS (setsN L) j)) ∧ Below W.heap.size W w' from HA.out)
      generalize fitK (setsN L) q (k, a, b) = r at *
      generalize winS (setsN L) = P at *
      obtain ⟨N, hN⟩ : ∃ N, N = 2^q := ⟨_, rfl⟩
      rw [← hN] at HF HA2
      clear hg hc HV hr hsl hS hask HA hN
      go_enter Tryz.func6, Tryz.ntmps6
      go_wp2_with fail
      refine HG.out.mono ?_
      rintro e w1 ⟨rfl, hb1⟩
      clear c0 c1
      obtain ⟨c0, c1⟩ := (hx.now hb1).cells
      obtain ⟨d0, d1, d2⟩ := (hy.now hb1).cells
      go_wp2_with fail
      refine (HP.out _).mono ?_
      rintro e w2 ⟨rfl, hb2⟩
      have b2 := bfrom hb1 hb2
      have KX := Lib.hid (show ∀ W, Below w2.heap.size w2 W → (W.cell? ⟨w.heap.size, 0, none⟩ = some (.int .i64 k) ∧ W.cell? ⟨w.heap.size, 1, none⟩ = some (.int .i64 a) ∧ W.cell? ⟨w.heap.size, 2, none⟩ = some (.int .i64 b)) ∧ W.cell? ⟨w.heap.size + 1, 0, none⟩ = some (.int .i64 q) ∧ W.cell? ⟨w.heap.size + 1, 1, none⟩ = some (.slice A n cap) from fun W h => ⟨((hy.now b2).now h).cells, ((hx.now b2).now h).cells⟩)
      have HK2 := Lib.hid (HK.out.now b2)
      clear c0 c1 d0 d1 d2
      obtain ⟨⟨c0, c1, c2⟩, d0, d1⟩ := KX.out w2 (Below.refl _ _)
      go_wp2_with fail
      go_region_held3 (fun w' => (w'.cell? ⟨w.heap.size, 0, none⟩ = some (.int .i64 k) ∧ w'.cell? ⟨w.heap.size, 1, none⟩ = some (.int .i64 a) ∧ w'.cell? ⟨w.heap.size, 2, none⟩ = some (.int .i64 b)) ∧ w'.cell? ⟨w.heap.size + 1, 0, none⟩ = some (.int .i64 q) ∧ w'.cell? ⟨w.heap.size + 1, 1, none⟩ = some (.slice A n cap))
        (first | exact ⟨⟨c0, c1, c2⟩, d0, d1⟩ | exact k3 | exact k4 | go_keep)
        (first
          | (go_at_call 21; refine (HA2.out _ (HK2.out.lists.now (Below.refl _ _).drew)).mono ?_; rintro e w3 ⟨rfl, hO3, hb3⟩; have HO3 := Lib.hid hO3; clear hO3; have b3 := bfrom (Below.refl _ _).drew hb3; have k3 := KX.out _ b3)
          | (go_at_call 20; refine (HF.out _ _ HO3.out).mono ?_; rintro e w4 ⟨rfl, hb4⟩; have b4 := bfrom b3 hb4; have k4 := KX.out _ b4)
          | fail)
      go_wp2
      go_ret2
      exact ⟨rfl, bfrom (bfrom hb0 b2) b4⟩
end Go.Proofs.YtpcijgdpinmcmaaGreat
