/- Contracts of GameOfSets: the program's and the model's. -/
import Derived.Test.YtipplbcjdcdapaaJ2
import Derived.Test.YtipplbcjdcdapaaJz
import Derived.Test.YtipplbcjdcdapaaA5
import Derived.Outline
namespace Go.Proofs.Ytipplbcjdcdapaa
open Go.RowKit Vo

set_option maxRecDepth 20000 in
set_option maxHeartbeats 4000000 in
theorem gameOfAny_any (S : List Nat) (n : Int) (base k cap : Nat) (A : Option Addr) (w : World) (hk : k = S.length) (hs : k ≤ 1048576) (hin : ∀ s ∈ S, s < 512) (hown : w.ownsRow base 96 1 (.slice A k cap) k (setsV S)) :
    Calls Try.prog 69 #[.int .i64 n, .slice A k cap] w fun e w' => ∃ B cp, e = .returned (.agg #[.int .i64 n, .slice B (leastL (inS S)).length cp]) ∧ Lies (RSS (setsL (leastL (inS S))) w.heap.size w'.heap.size (.slice B (leastL (inS S)).length cp)) w.heap.size w'.heap.size w' ∧ Below w.heap.size w w' := by
  have hI : ∀ s, inS S s = true → s < 512 := fun s h => hin s (inS_iff.1 h)
  have hr := BoxT.new 28 w (.int .i64 0) (.slice none 0 0)
  have hb0 := below1 w (.cells #[.int .i64 0, .slice none 0 0] 28)
  have KF := Lib.hid (show ∀ W, BoxT 28 W w.heap.size (.int .i64 0) (.slice none 0 0) → (W.frozen? ⟨w.heap.size, 0, none⟩ = false ∧ W.frozen? ⟨w.heap.size, 1, none⟩ = false) from fun W h => by unfold BoxT at h; exact ⟨by simp [World.frozen?, h], by simp [World.frozen?, h]⟩)
  have HL := Lib.hid (show Calls Try.prog 112 #[.slice A k cap] (w.alloc (.cells #[.int .i64 0, .slice none 0 0] 28)) fun e w' => SetsAt (w.heap.size + 1) (leastL (inS S)) (w.alloc (.cells #[.int .i64 0, .slice none 0 0] 28)) w' e from (leastOf_any S base k cap A _ hk hs hin (owns_now hown hb0)).mono fun e w' h => by simp only [World.size_alloc] at h; exact h)
  have hlen : (leastL (inS S)).length ≤ 512 := leastL_len hI
  have HLOW := Lib.hid (leastL_low hI)
  clear hown hk hin hI
  obtain ⟨T, hT⟩ : ∃ T, T = leastL (inS S) := ⟨_, rfl⟩
  rw [← hT] at HL hlen HLOW ⊢
  clear hT
  obtain ⟨j, hj⟩ : ∃ j, j = T.length := ⟨_, rfl⟩
  have HTOLD := Lib.hid (fun (cap : Nat) (A : Option Addr) (base : Nat) W h => told_any T n base j cap A W hj (by omega) (fun i hi => HLOW.out _ (getD_mem (by omega))) h)
  have HJ := Lib.hid hj
  rw [← hj] at hlen ⊢
  clear hj
  go_enter Try.func69, Try.ntmps69
  go_wp2_with fail
  refine HL.out.mono ?_
  rintro e w1 ⟨A1, c1, rfl, hown1, hb1⟩
  rw [← HJ.out] at hown1 ⊢
  have hbw : Below (w.alloc (.cells #[.int .i64 0, .slice none 0 0] 28)).heap.size (w.alloc (.cells #[.int .i64 0, .slice none 0 0] 28)) w1 := by simpa using hb1
  have hr1 := hr.now hbw
  have g1 := bfrom hb0 hbw
  have HO1 := Lib.hid hown1
  have hz1 := hr1.lt
  clear hown1 hb1 hbw hr hb0
  go_wp2_with fail
  refine (HTOLD.out _ _ _ _ HO1.out).mono ?_
  rintro e w2 ⟨B, cp, rfl, hl2, hb2⟩
  have HL2 := Lib.hid hl2
  have hr2 := hr1.now hb2
  have g2 := bfrom g1 hb2
  obtain ⟨f0, f1⟩ := KF.out _ hr2
  obtain ⟨c2, c3⟩ := hr2.cells
  clear hl2 hr1 hr2 hb2
  go_wp2
  refine bodyPost_ret (v := .agg #[.int .i64 n, .slice B j cp]) (by simp [results, Try.results69, go_sem, c2, c3]) rfl ⟨B, cp, rfl, ?_, ?_⟩
  · exact Lies.rss_wide (Lies.far (Lies.far HL2.out (by first | omega | (simp; omega)) _) (by first | omega | (simp; omega)) _) (by omega) (by first | exact Nat.le_refl _ | simp) (by first | exact Nat.le_refl _ | simp)
  · exact (g2.setCell (by simp) _).setCell (by simp) _

/-- The sets of the game of some sets. -/
def ofSets (L : List (List Int)) : List Nat := leastL (inS (setsN L))
theorem ofSets_len {m : Int} {L : List (List Int)} {most : Int} (h : setsB m L most = true) : (ofSets L).length ≤ 512 := by
  obtain ⟨q, _, _, h9, _, _, hr⟩ := setsB_parts h
  exact leastL_len fun s h => setsN_512 h9 hr s (inS_iff.1 h)

set_option maxRecDepth 20000 in
set_option maxHeartbeats 4000000 in
theorem iGameOfSets_any (m : Int) (A : Option Addr) (n cap : Nat) (L : List (List Int)) (w : World) (hl : n ≤ 1048576) (hk : Lists w A n L) :
    Calls Try.prog 27 #[.int .i64 m, .slice A n cap] w fun e w' => AnsG RSS (okM (setsB m L 50) m) (okG (setsB m L 50) (ofSets L)) (setsB m L 50) w w' e := by
  have HLEN := Lib.hid hk.1
  have hb0 := below1 w (.cells #[.int .i64 0, .slice none 0 0] 28)
  have HK := Lib.hid (hk.now hb0)
  have hr := BoxT.new 28 w (.int .i64 0) (.slice none 0 0)
  have KF := Lib.hid (show ∀ W, BoxT 28 W w.heap.size (.int .i64 0) (.slice none 0 0) → (W.frozen? ⟨w.heap.size, 0, none⟩ = false ∧ W.frozen? ⟨w.heap.size, 1, none⟩ = false) from fun W h => by unfold BoxT at h; exact ⟨by simp [World.frozen?, h], by simp [World.frozen?, h]⟩)
  obtain ⟨f0, f1⟩ := KF.out _ hr
  obtain ⟨c2, c3⟩ := hr.cells
  clear hk
  have NO := Lib.hid (show setsB m L 50 = false → okM (setsB m L 50) m = 0 ∧ okG (setsB m L 50) (ofSets L) = [] from fun h => ⟨okM_no h, okG_no h⟩)
  by_cases hmm : 1 ≤ m ∧ m ≤ 9
  · obtain ⟨q, rfl⟩ : ∃ q : Nat, m = q := ⟨m.toNat, by omega⟩
    have hq9 : q ≤ 9 := by omega
    have HIN := Lib.hid (inB_yes hmm.1 hmm.2)
    by_cases hnn : 1 ≤ (n : Int) ∧ (n : Int) ≤ 50
    · have HSB := Lib.hid (setsB_rows (L := L) (most := 50) hmm.1 hmm.2 (by rw [HLEN.out]; exact hnn.1) (by rw [HLEN.out]; exact hnn.2))
      have hn1 : ¬ (n : Int) < 1 := by omega
      have hn5 : (n : Int) ≤ 50 := hnn.2
      clear hmm hnn
      go_enter Try.func27, Try.ntmps27
      go_wp2_with fail
      refine (isNumberOfMembers_any q _).mono ?_
      rintro e w1 ⟨rfl, rfl⟩
      rw [HIN.out]
      go_wp2_with fail
      refine (readWinningSets_any q A n cap L _ hq9 hl HK.out).mono ?_
      rintro e w1 ⟨hb1, h⟩
      have g1 := bfrom hb0 hb1
      have hr1 := hr.now hb1
      have hz1 := hr1.lt
      clear c2 c3 f0 f1
      rcases h with ⟨hrows, B, cp, rfl, hown⟩ | ⟨hrows, v0, rfl⟩
      · rw [HLEN.out] at hown ⊢
        have HOKB := Lib.hid (HSB.out.trans hrows)
        have HMM := Lib.hid (okM_yes (m := (q : Int)) HOKB.out)
        have HSS := Lib.hid (okG_yes (S := ofSets L) HOKB.out)
        have HG := Lib.hid (gameOfAny_any (setsN L) q _ n cp B _ (by rw [← HLEN.out]; simp [setsN]) hl (setsN_512 hq9 hrows) hown)
        have HDS := Lib.hid (show ofSets L = leastL (inS (setsN L)) from rfl)
        clear hown hrows
        obtain ⟨T, hT⟩ : ∃ T, T = leastL (inS (setsN L)) := ⟨_, rfl⟩
        rw [← hT] at HG HDS
        clear hT
        obtain ⟨j, hj⟩ : ∃ j, j = T.length := ⟨_, rfl⟩
        rw [← hj] at HG
        have HJ := Lib.hid (show (setsL T).length = j from by rw [setsL_len, hj])
        clear hj
        go_wp2_with fail
        refine HG.out.mono ?_
        rintro e w2 ⟨C, cC, rfl, hl2, hb2⟩
        have HL2 := Lib.hid hl2
        have hr2 := hr1.now hb2
        have g2 := bfrom g1 hb2
        have hz2 := hb2.size
        obtain ⟨f0, f1⟩ := KF.out _ hr2
        obtain ⟨c2, c3⟩ := hr2.cells
        clear hl2 hr1 hr2 hb2 hr
        go_wp2
        refine bodyPost_ret (v := .tuple #[.agg #[.int .i64 q, .slice C j cC], .bool true]) (by simp [results, Try.results27, go_sem, c2, c3]) rfl ?_
        rw [HMM.out, HSS.out, HDS.out, HOKB.out]
        refine ⟨C, cC, by rw [HJ.out], ?_, ?_⟩
        · rw [HJ.out]
          exact Lies.rss_wide (Lies.far (Lies.far HL2.out (by first | omega | (simp; omega)) _) (by first | omega | (simp; omega)) _) (by omega) (by first | exact Nat.le_refl _ | simp) (by first | exact Nat.le_refl _ | simp)
        · exact (g2.setCell (by simp) _).setCell (by simp) _
      · have HOKB := Lib.hid (HSB.out.trans hrows)
        obtain ⟨n1, n2⟩ := NO.out HOKB.out
        have N1 := Lib.hid n1
        have N2 := Lib.hid n2
        clear hrows n1 n2
        obtain ⟨f0, f1⟩ := KF.out _ hr1
        obtain ⟨c2, c3⟩ := hr1.cells
        go_wp2
        refine bodyPost_ret (v := .tuple #[.agg #[.int .i64 0, .slice none 0 0], .bool false]) (by simp [results, Try.results27, go_sem, c2, c3]) rfl ?_
        rw [N1.out, N2.out, HOKB.out]
        exact AnsG.none_ RSS.none_ ((g1.setCell (by simp) _).setCell (by simp) _)
    · have HOKB := Lib.hid (setsB_long (m := (q : Int)) (L := L) (most := 50) (by rw [HLEN.out]; exact hnn))
      obtain ⟨n1, n2⟩ := NO.out HOKB.out
      have N1 := Lib.hid n1
      have N2 := Lib.hid n2
      clear n1 n2 hmm
      by_cases hn0 : n = 0
      · subst hn0
        clear hnn
        go_enter Try.func27, Try.ntmps27
        go_wp2_with fail
        refine (isNumberOfMembers_any q _).mono ?_
        rintro e w1 ⟨rfl, rfl⟩
        rw [HIN.out]
        go_wp2
        refine bodyPost_ret (v := .tuple #[.agg #[.int .i64 0, .slice none 0 0], .bool false]) (by simp [results, Try.results27, go_sem, c2, c3]) rfl ?_
        rw [N1.out, N2.out, HOKB.out]
        exact AnsG.none_ RSS.none_ hb0
      · have hn1 : ¬ (n : Int) < 1 := by omega
        have hn5 : (50 : Int) < n := by omega
        clear hnn
        go_enter Try.func27, Try.ntmps27
        go_wp2_with fail
        refine (isNumberOfMembers_any q _).mono ?_
        rintro e w1 ⟨rfl, rfl⟩
        rw [HIN.out]
        go_wp2
        refine bodyPost_ret (v := .tuple #[.agg #[.int .i64 0, .slice none 0 0], .bool false]) (by simp [results, Try.results27, go_sem, c2, c3]) rfl ?_
        rw [N1.out, N2.out, HOKB.out]
        exact AnsG.none_ RSS.none_ hb0
  · have HIN := Lib.hid (inB_no hmm)
    have HOKB := Lib.hid (setsB_small (L := L) (most := 50) hmm)
    obtain ⟨n1, n2⟩ := NO.out HOKB.out
    have N1 := Lib.hid n1
    have N2 := Lib.hid n2
    clear hmm n1 n2
    go_enter Try.func27, Try.ntmps27
    go_wp2_with fail
    refine (isNumberOfMembers_any m _).mono ?_
    rintro e w1 ⟨rfl, rfl⟩
    rw [HIN.out]
    go_wp2
    refine bodyPost_ret (v := .tuple #[.agg #[.int .i64 0, .slice none 0 0], .bool false]) (by simp [results, Try.results27, go_sem, c2, c3]) rfl ?_
    rw [N1.out, N2.out, HOKB.out]
    exact AnsG.none_ RSS.none_ hb0

set_option maxRecDepth 20000 in
set_option maxHeartbeats 4000000 in
theorem sGameOfSets_any (m : Int) (A : Option Addr) (n cap : Nat) (L : List (List Int)) (w : World) (hl : n ≤ 1048576) (hk : Lists w A n L) :
    Calls Try.prog 25 #[.int .i64 m, .slice A n cap] w fun e w' => AnsG RSS0 (okM (setsB m L 50) m) (okG (setsB m L 50) (ofSets L)) (setsB m L 50) w w' e := by
  have hb0 := below1 w (.cells #[.int .i64 0, .slice none 0 0] 28)
  have HK := Lib.hid (hk.now hb0)
  have hr := BoxT.new 28 w (.int .i64 0) (.slice none 0 0)
  have KF := Lib.hid (show ∀ W, BoxT 28 W w.heap.size (.int .i64 0) (.slice none 0 0) → (W.frozen? ⟨w.heap.size, 0, none⟩ = false ∧ W.frozen? ⟨w.heap.size, 1, none⟩ = false) from fun W h => by unfold BoxT at h; exact ⟨by simp [World.frozen?, h], by simp [World.frozen?, h]⟩)
  clear hk
  cases hsb : setsB m L 50 with
  | true =>
    obtain ⟨q, rfl, hq1, hq9, _, _, hrows⟩ := setsB_parts hsb
    have hq10 : q < 10 := by omega
    have HSB := Lib.hid hsb
    have HMM := Lib.hid (okM_yes (ok := true) (m := (q : Int)) rfl)
    have HSS := Lib.hid (show okG true (ofSets L) = setsL ((inOrder q).filter (leastP (winS (setsN L)) q)) from by rw [okG_yes rfl, least_win hq9 (setsN_lt hq9 hrows)]; rfl)
    have HGW := Lib.hid (show ∀ W, Lists W A n L → Calls Try.prog 66 #[.int .i64 q, .slice A n cap] W fun e w' => e = .returned (.slice (some ⟨W.heap.size, 0, none⟩) (2^q : Nat) (2^q : Nat)) ∧ Own w' W.heap.size 4 (2^q) (fun j => .bool (winS (setsN L) j)) ∧ Below W.heap.size W w' from fun W h => gmWins_any q A n cap L W hq9 hl hrows h)
    have HGO := Lib.hid (fun g W h => gmOf_any (winS (setsN L)) q g (2^q) W hq10 h)
    rw [← HSS.out] at HGO
    obtain ⟨P, hP⟩ : ∃ P, P = 2 ^ q := ⟨_, rfl⟩
    rw [← hP] at HGW HGO
    clear hsb hrows hP
    go_enter Try.func25, Try.ntmps25
    go_wp2_with fail
    refine (gmSets_any q A n cap L 50 _ hl HK.out).mono ?_
    rintro e w1 ⟨rfl, hb1⟩
    rw [HSB.out]
    have g1 := bfrom hb0 hb1
    have hr1 := hr.now hb1
    have HK1 := Lib.hid (HK.out.now hb1)
    go_wp2_with fail
    refine (HGW.out _ HK1.out).mono ?_
    rintro e w2 ⟨rfl, hown, hb2⟩
    have HO2 := Lib.hid hown
    have g2 := bfrom g1 hb2
    have hr2 := hr1.now hb2
    have hz2 := hr2.lt
    clear hown hb2 hr1 hb1
    go_wp2_with fail
    refine (HGO.out _ _ HO2.out).mono ?_
    rintro e w3 ⟨C, cC, rfl, hl3, hb3⟩
    have HL3 := Lib.hid hl3
    have g3 := bfrom g2 hb3
    have hr3 := hr2.now hb3
    have hz3 := hb3.size
    obtain ⟨f0, f1⟩ := KF.out _ hr3
    obtain ⟨c2, c3⟩ := hr3.cells
    clear hl3 hb3 hr2 hr3 hr
    obtain ⟨k, hk⟩ : ∃ k, k = (okG true (ofSets L)).length := ⟨_, rfl⟩
    rw [← hk] at HL3 ⊢
    have HKL := Lib.hid hk
    clear hk
    go_wp2
    refine bodyPost_ret (v := .tuple #[.agg #[.int .i64 q, .slice C k cC], .bool true]) (by simp [results, Try.results25, go_sem, c2, c3]) rfl ?_
    rw [HMM.out]
    refine ⟨C, cC, by first | rfl | rw [HKL.out], ?_, ?_⟩
    · try rw [← HKL.out]
      exact Lies.rss0_wide (Lies.far (Lies.far HL3.out (by first | omega | (simp; omega)) _) (by first | omega | (simp; omega)) _) (by omega) (by first | exact Nat.le_refl _ | simp) (by first | exact Nat.le_refl _ | simp)
    · exact (g3.setCell (by simp) _).setCell (by simp) _
  | false =>
    have HSB := Lib.hid hsb
    have HMM := Lib.hid (okM_no (ok := false) (m := m) rfl)
    have HSS := Lib.hid (okG_no (ok := false) (S := ofSets L) rfl)
    clear hsb
    go_enter Try.func25, Try.ntmps25
    go_wp2_with fail
    refine (gmSets_any m A n cap L 50 _ hl HK.out).mono ?_
    rintro e w1 ⟨rfl, hb1⟩
    rw [HSB.out]
    have g1 := bfrom hb0 hb1
    have hr1 := hr.now hb1
    obtain ⟨f0, f1⟩ := KF.out _ hr1
    obtain ⟨c2, c3⟩ := hr1.cells
    go_wp2
    refine bodyPost_ret (v := .tuple #[.agg #[.int .i64 0, .slice none 0 0], .bool false]) (by simp [results, Try.results25, go_sem, c2, c3]) rfl ?_
    rw [HMM.out, HSS.out]
    exact AnsG.none_ RSS0.none_ ((g1.setCell (by simp) _).setCell (by simp) _)
end Go.Proofs.Ytipplbcjdcdapaa
