/- Contracts of the model's GameWithout and GameWith. -/
import Derived.Test.YtipplbcjdcdapaaJf
import Derived.Outline
namespace Go.Proofs.Ytipplbcjdcdapaa
open Go.RowKit Vo

theorem wide_lt {b k q : Nat} (hb : b < 2^q) (hk : k < q + 1) : wide b k + 2^k < 2^(q+1) := Nat.lt_pow_two_of_testBit _ fun i hi => by
  rw [bit_wide2, if_neg (by omega)]
  by_cases e : i = k
  · omega
  · rw [if_neg e]
    exact Nat.testBit_lt_two_pow (Nat.lt_of_lt_of_le hb (Nat.pow_le_pow_right (by omega) (by omega)))

set_option maxRecDepth 20000 in
set_option maxHeartbeats 8000000 in
theorem gmLess_any (wt : Bool) (m : Int) (A : Option Addr) (n cap : Nat) (L : List (List Int)) (x : Int) (w : World) (hl : n ≤ 1048576) (hcap : n ≤ cap) (hk : ListsR w A n L) :
    Calls Try.prog 86 #[.agg #[.int .i64 m, .slice A n cap], .int .i64 x, .bool wt] w fun e w' => AnsG RSS0 (okM (lessOk wt m L x) (m - 1)) (okG (lessOk wt m L x) (lessS wt m L x)) (lessOk wt m L x) w w' e := by
  have hb0 : Below w.heap.size w ((w.alloc (.cells #[.int .i64 m, .slice A n cap] 28)).alloc (.cells #[.int .i64 0, .slice none 0 0] 28)) := (below1 w _).alloc (by simp) _
  have HK := Lib.hid (hk.now hb0)
  have hx := (BoxT.new 28 w (.int .i64 m) (.slice A n cap)).alloc (.cells #[.int .i64 0, .slice none 0 0] 28)
  have hr := BoxT.new 28 (w.alloc (.cells #[.int .i64 m, .slice A n cap] 28)) (.int .i64 0) (.slice none 0 0)
  simp only [World.size_alloc] at hr
  clear hk
  have KF := Lib.hid (show ∀ W, BoxT 28 W (w.heap.size + 1) (.int .i64 0) (.slice none 0 0) → (W.frozen? ⟨w.heap.size + 1, 0, none⟩ = false ∧ W.frozen? ⟨w.heap.size + 1, 1, none⟩ = false) from fun W h => by unfold BoxT at h; exact ⟨by simp [World.frozen?, h], by simp [World.frozen?, h]⟩)
  have NO := Lib.hid (show lessOk wt m L x = false → okM (lessOk wt m L x) (m - 1) = 0 ∧ okG (lessOk wt m L x) (lessS wt m L x) = [] from fun h => ⟨okM_no h, okG_no h⟩)
  obtain ⟨c0, c1⟩ := hx.cells
  cases hg : goodG m L with
  | true =>
    obtain ⟨hm1, hm9, hne, hr', _⟩ := goodG_parts hg
    have HGB := Lib.hid hg
    have HMG := Lib.hid (memG_good (x := x) hg)
    by_cases hin : 0 ≤ x ∧ x ≤ m - 1
    · have HIN := Lib.hid (inB_yes hin.1 hin.2)
      by_cases hq1 : m = 1
      · subst hq1
        have HNOK := Lib.hid (show lessOk wt 1 L x = false from by unfold lessOk lessB; simp)
        obtain ⟨n1, n2⟩ := NO.out HNOK.out
        have N1 := Lib.hid n1
        have N2 := Lib.hid n2
        clear n1 n2 hg hr' hne
        go_enter Try.func86, Try.ntmps86
        go_wp2_with fail
        refine (gmGood_any 1 A n cap L _ hl hcap HK.out).mono ?_
        rintro e w1 ⟨rfl, hb1⟩
        rw [HGB.out]
        have g1 := bfrom hb0 hb1
        have hr1 := hr.now hb1
        clear c0 c1
        obtain ⟨c0, c1⟩ := (hx.now hb1).cells
        obtain ⟨f0, f1⟩ := KF.out _ hr1
        obtain ⟨c2, c3⟩ := hr1.cells
        go_wp2_with fail
        refine (l1In_any x 0 _ _).mono ?_
        rintro e w2 ⟨rfl, rfl⟩
        first | rw [HIN.out] | rw [show inB x 0 0 = true from HIN.out]
        go_wp2
        refine bodyPost_ret (v := .tuple #[.agg #[.int .i64 0, .slice none 0 0], .bool false]) (by simp [results, Try.results86, go_sem, c2, c3]) rfl ?_
        rw [N1.out, N2.out, HNOK.out]
        exact AnsG.none_ RSS0.none_ ((g1.setCell (by simp) _).setCell (by simp) _)
      · obtain ⟨q, rfl⟩ : ∃ q : Nat, m = (q : Int) + 1 := ⟨(m - 1).toNat, by omega⟩
        obtain ⟨k, rfl⟩ : ∃ k : Nat, x = k := ⟨x.toNat, by omega⟩
        have hkq : k < q + 1 := by omega
        have hq0 : q ≠ 0 := by omega
        have hq9 : q + 1 ≤ 9 := by omega
        have hr9 : rowsB (q + 1) L = true := by have : ((q : Int) + 1).toNat = q + 1 := by omega
                                                rw [this] at hr'; exact hr'
        have HGA := Lib.hid (show ∀ W, Lists W A n L → Calls Try.prog 72 #[.agg #[.int .i64 ((q : Int) + 1), .slice A n cap]] W fun e w' => e = .returned (.slice (some ⟨W.heap.size + 1, 0, none⟩) (2^(q+1) : Nat) (2^(q+1) : Nat)) ∧ Own w' (W.heap.size + 1) 4 (2^(q+1)) (fun j => .bool (winS (setsN L) j)) ∧ Below W.heap.size W w' from fun W h => gmAll_any (q + 1) A n cap L W hq9 hl hr9 h)
        have h512 := pow_lt hq9
        obtain ⟨N, hN⟩ : ∃ N, N = 2^q := ⟨_, rfl⟩
        have h2N : 2^(q+1) = 2 * N := by rw [hN, Nat.pow_succ]; omega
        rw [h2N] at HGA h512
        have hmk := run_make_row' (P := Try.prog) 65 4 (.bool false) 1 Try.underlying65 infoBool rfl .i64 .i64 N (by omega) (by omega)
        have hdiv : (2 * (N : Int)) / 2 = N := by omega
        have hdiv2 : ((2 * N : Nat) : Int) / 2 = N := by omega
        have HOKV := Lib.hid (show lessOk wt ((q : Int) + 1) L (k : Int) = (!lessP wt (setsN L) k 0 && lessP wt (setsN L) k (N - 1)) from by
          have e : (((q + 1 : Nat)) : Int) = (q : Int) + 1 := by omega
          have h1 : memG ((q + 1 : Nat) : Int) L (k : Int) = true := by rw [e, HMG.out, HIN.out]
          rw [← e, lessOk_good h1, hN]; unfold lessB; simp [hq0])
        have HSG := Lib.hid (show setsL (lessS wt ((q : Int) + 1) L k) = setsL ((inOrder q).filter (leastP (lessP wt (setsN L) k) q)) from by
          unfold lessS; rw [show ((q : Int) + 1 - 1).toNat = q from by omega, Int.toNat_natCast])
        have HGO := Lib.hid (fun g W h => gmOf_any (lessP wt (setsN L) k) q g (2^q) W (by omega) h)
        rw [← hN] at HGO
        have HQ1 := Lib.hid (show (q : Int) + 1 - 1 = (q : Int) from by omega)
        have HN := Lib.hid hN
        have hsh := shl_pow2 k (by omega)
        have HPL := Lib.hid (show ∀ b, b < 2^q → wide b k + 2^k < 2^(q+1) from fun b h => wide_lt h hkq)
        rw [← hN, h2N] at HPL
        have hN0 : 0 < N := by rw [hN]; exact Nat.two_pow_pos q
        obtain ⟨P, hP⟩ : ∃ P, 2^k = P := ⟨_, rfl⟩
        rw [hP] at hsh HPL
        have hP0 : 0 < P := by rw [← hP]; exact Nat.two_pow_pos k
        have HPK := Lib.hid hP
        have HWL := Lib.hid HPL.out
        clear hP HPL
        clear hg hr' hne hr9 h2N hN
        go_enter Try.func86, Try.ntmps86
        go_wp2_with fail
        refine (gmGood_any ((q : Int) + 1) A n cap L _ hl hcap HK.out).mono ?_
        rintro e w1 ⟨rfl, hb1⟩
        rw [HGB.out]
        have g1 := bfrom hb0 hb1
        have hr1 := hr.now hb1
        have hx1 := hx.now hb1
        have hzw : w.heap.size + 1 < w1.heap.size := hr1.lt
        have HK1 := Lib.hid (HK.out.now hb1).lists
        clear c0 c1 hb0 hb1
        obtain ⟨c0, c1⟩ := hx1.cells
        go_wp2_with fail
        refine (l1In_any k 0 _ _).mono ?_
        rintro e w2 ⟨rfl, rfl⟩
        first | rw [HIN.out] | rw [show inB (k : Int) 0 q = true from by have := HIN.out; simpa using this]
        go_wp2_with fail
        refine (HGA.out _ HK1.out).mono ?_
        rintro e w3 ⟨rfl, hown, hb3⟩
        have g3 := bfrom g1 hb3
        have hr3 := hr1.now hb3
        have hx3 := hx1.now hb3
        have HO3 := Lib.hid hown
        clear c0 c1 hown
        obtain ⟨c0, c1⟩ := hx3.cells
        go_wp2_with fail
        have HW := Lib.hid (show ∀ W, Below w3.heap.size w3 W → Own W (w1.heap.size + 1) 4 (2 * N) (fun j => .bool (winS (setsN L) j)) from fun W h => Own.below HO3.out h HO3.out.lt)
        have hgl3 : w1.heap.size + 1 < w3.heap.size := HO3.out.lt
        go_loopw [10, 11, 12, 38] (fun _ _ _ i wr => ∃ b : Nat, b ≤ N ∧ i = .int .i64 b ∧ Own wr w3.heap.size 4 N (fun j => .bool (decide (j < b) && lessP wt (setsN L) k j)) ∧ Below w3.heap.size w3 wr) (fun _ _ _ i _ => N - (intOf i).toNat)
        case atStart => exact ⟨0, Nat.zero_le _, rfl, (Own.of_row (World.rowIs_made w3 (.bool false) N 4)).congr fun i _ => by simp, below1 _ _⟩
        case round =>
          obtain ⟨b, hbN, rfl, hown, hb⟩ := hrel
          have HO := Lib.hid hown
          clear hown
          by_cases hlt : b < N
          · have hwl := HWL.out b hlt
            have hmodN : (b : Int) % (P : Int) = ((b % P : Nat) : Int) := by simp
            have hr0 : b % P ≤ b := Nat.mod_le _ _
            have hold := HO.out.cell hlt
            have hfr := HO.out.frozen b
            simp only [Nat.lt_irrefl, decide_false, Bool.false_and] at hold
            have HW5 := Lib.hid (HW.out _ hb)
            have HPK2 := Lib.hid HPK.out
            have HLP := Lib.hid (show lessP wt (setsN L) k b = winS (setsN L) (if wt then wide b k + P else wide b k) from by unfold lessP; rw [HPK.out])
            have hwd : wide b k = (b - b % P) * 2 + b % P := by unfold wide; rw [HPK.out]
            rw [hwd] at hwl HLP
            generalize b % P = r at *
            cases wt with
            | true =>
              simp only [if_true] at HLP
              have hcell := HW5.out.cell (show (b - r) * 2 + r + P < 2 * N by omega)
              have hcoi : (((b : Int) - r) * 2 + r + P).toNat = (b - r) * 2 + r + P := by omega
              have h0 : (0 : Int) ≤ ((b : Int) - r) * 2 + r + P := by omega
              have h1 : ((b : Int) - r) * 2 + r + P < 2 * N := by omega
              obtain ⟨y, hy⟩ : ∃ y, y = lessP true (setsN L) k b := ⟨_, rfl⟩
              rw [← HLP.out, ← hy] at hcell
              have HY := Lib.hid hy
              clear hy hwd hwl
              have HSET := Lib.hid (HO.out.set b (.bool y))
              have HO3 := Lib.hid (show Own (wr.setCell ⟨w3.heap.size, b, none⟩ (.bool y)) w3.heap.size 4 N (fun j => .bool (decide (j < b + 1) && lessP true (setsN L) k j)) from HSET.out.congr fun i _ => by
                by_cases e : i = b
                · subst e; simp [HY.out]
                · by_cases h : i < b
                  · simp [h, e, show i < b + 1 from by omega]
                  · simp [h, e, show ¬ i < b + 1 from by omega])
              have HB3 := Lib.hid (hb.setCell (p := ⟨w3.heap.size, b, none⟩) (Nat.le_refl _) (.bool y))
              clear HSET
              go_wp2
              go_roundw
              case rel => exact ⟨b + 1, by omega, by go_num, HO3.out, HB3.out⟩
              case measure => simp [intOf]; omega
            | false =>
              simp only [Bool.false_eq_true, if_false] at HLP
              have hcell := HW5.out.cell (show (b - r) * 2 + r < 2 * N by omega)
              have hcoi : (((b : Int) - r) * 2 + r).toNat = (b - r) * 2 + r := by omega
              have h0 : (0 : Int) ≤ ((b : Int) - r) * 2 + r := by omega
              have h1 : ((b : Int) - r) * 2 + r < 2 * N := by omega
              obtain ⟨y, hy⟩ : ∃ y, y = lessP false (setsN L) k b := ⟨_, rfl⟩
              rw [← HLP.out, ← hy] at hcell
              have HY := Lib.hid hy
              clear hy hwd hwl
              have HSET := Lib.hid (HO.out.set b (.bool y))
              have HO3 := Lib.hid (show Own (wr.setCell ⟨w3.heap.size, b, none⟩ (.bool y)) w3.heap.size 4 N (fun j => .bool (decide (j < b + 1) && lessP false (setsN L) k j)) from HSET.out.congr fun i _ => by
                by_cases e : i = b
                · subst e; simp [HY.out]
                · by_cases h : i < b
                  · simp [h, e, show i < b + 1 from by omega]
                  · simp [h, e, show ¬ i < b + 1 from by omega])
              have HB3 := Lib.hid (hb.setCell (p := ⟨w3.heap.size, b, none⟩) (Nat.le_refl _) (.bool y))
              clear HSET
              go_wp2
              go_roundw
              case rel => exact ⟨b + 1, by omega, by go_num, HO3.out, HB3.out⟩
              case measure => simp [intOf]; omega
          · obtain rfl : b = N := by omega
            have HO4 := Lib.hid (show Own wr w3.heap.size 4 b (fun j => .bool (lessP wt (setsN L) k j)) from HO.out.congr fun i hi => by simp [hi])
            have hc0 := HO4.out.cell (show 0 < b by omega)
            have hc1 := HO4.out.cell (show b - 1 < b by omega)
            have g5 := bfrom g3 hb
            have hr5 := hr3.now hb
            have hx5 := hx3.now hb
            have hz5 := hb.size
            obtain ⟨f0, f1⟩ := KF.out _ hr5
            obtain ⟨c2, c3⟩ := hr5.cells
            clear c0 c1
            obtain ⟨c0, c1⟩ := hx5.cells
            have hi0 : (0 : Int) ≤ (b : Int) - 1 := by omega
            have hi1 : (b : Int) - 1 < b := by omega
            have hi2 : ((b : Int) - 1).toNat = b - 1 := by omega
            cases y0 : lessP wt (setsN L) k 0 with
            | true =>
              have HNOK := Lib.hid (show lessOk wt ((q : Int) + 1) L (k : Int) = false from by rw [HOKV.out, y0]; rfl)
              obtain ⟨n1, n2⟩ := NO.out HNOK.out
              have N1 := Lib.hid n1
              have N2 := Lib.hid n2
              rw [y0] at hc0
              clear n1 n2 y0 hc1
              go_wp2
              refine bodyPost_ret (v := .tuple #[.agg #[.int .i64 0, .slice none 0 0], .bool false]) (by simp [results, Try.results86, go_sem, c2, c3]) rfl ?_
              rw [N1.out, N2.out, HNOK.out]
              exact AnsG.none_ RSS0.none_ ((g5.setCell (by simp) _).setCell (by simp) _)
            | false =>
              cases y1 : lessP wt (setsN L) k (b - 1) with
              | false =>
                have HNOK := Lib.hid (show lessOk wt ((q : Int) + 1) L (k : Int) = false from by rw [HOKV.out, y0, y1]; rfl)
                obtain ⟨n1, n2⟩ := NO.out HNOK.out
                have N1 := Lib.hid n1
                have N2 := Lib.hid n2
                rw [y1] at hc1; rw [y0] at hc0
                clear n1 n2 y0 y1
                go_wp2
                refine bodyPost_ret (v := .tuple #[.agg #[.int .i64 0, .slice none 0 0], .bool false]) (by simp [results, Try.results86, go_sem, c2, c3]) rfl ?_
                rw [N1.out, N2.out, HNOK.out]
                exact AnsG.none_ RSS0.none_ ((g5.setCell (by simp) _).setCell (by simp) _)
              | true =>
                have HYOK := Lib.hid (show lessOk wt ((q : Int) + 1) L (k : Int) = true from by rw [HOKV.out, y0, y1]; rfl)
                have HM1 := Lib.hid (okM_yes (m := (q : Int) + 1 - 1) HYOK.out)
                have HM2 := Lib.hid (okG_yes (S := lessS wt ((q : Int) + 1) L k) HYOK.out)
                have HG := Lib.hid (HGO.out w3.heap.size wr HO4.out)
                rw [← HSG.out] at HG
                rw [y1] at hc1
                rw [y0] at hc0
                clear y0 y1
                obtain ⟨T, hT⟩ : ∃ T, T = lessS wt ((q : Int) + 1) L k := ⟨_, rfl⟩
                rw [← hT] at HG HM2
                have HTT := Lib.hid hT
                clear hT
                obtain ⟨p, hp⟩ : ∃ p, p = (setsL T).length := ⟨_, rfl⟩
                rw [← hp] at HG
                have HJ := Lib.hid hp
                clear hp f0 f1 c2 c3
                go_wp2_with fail
                try rw [HQ1.out]
                refine HG.out.mono ?_
                rintro e w7 ⟨C, cC, rfl, hl7, hb7⟩
                have HL7 := Lib.hid hl7
                have g7 := bfrom g5 hb7
                have hr7 := hr5.now hb7
                have hz7 := hb7.size
                clear hl7 c0 c1
                obtain ⟨f0, f1⟩ := KF.out _ hr7
                obtain ⟨c2, c3⟩ := hr7.cells
                go_wp2
                refine bodyPost_ret (v := .tuple #[.agg #[.int .i64 q, .slice C p cC], .bool true]) (by simp [results, Try.results86, go_sem, c2, c3]) rfl ?_
                rw [HM1.out, ← HTT.out, HM2.out, HYOK.out, HQ1.out]
                refine ⟨C, cC, by rw [HJ.out], ?_, ?_⟩
                · rw [← HJ.out]
                  exact Lies.rss0_wide (Lies.far (Lies.far HL7.out (by first | omega | (simp; omega)) _) (by first | omega | (simp; omega)) _) (by omega) (by first | exact Nat.le_refl _ | simp) (by first | exact Nat.le_refl _ | simp)
                · exact (g7.setCell (by simp) _).setCell (by simp) _
    · have HINN := Lib.hid (inB_no (x := x) (lo := 0) (hi := m - 1) hin)
      have HNOK := Lib.hid (show lessOk wt m L x = false from lessOk_bad (by rw [HMG.out, HINN.out]))
      obtain ⟨n1, n2⟩ := NO.out HNOK.out
      have N1 := Lib.hid n1
      have N2 := Lib.hid n2
      clear n1 n2 hg hr' hne
      go_enter Try.func86, Try.ntmps86
      go_wp2_with fail
      refine (gmGood_any m A n cap L _ hl hcap HK.out).mono ?_
      rintro e w1 ⟨rfl, hb1⟩
      rw [HGB.out]
      have g1 := bfrom hb0 hb1
      have hr1 := hr.now hb1
      clear c0 c1
      obtain ⟨c0, c1⟩ := (hx.now hb1).cells
      obtain ⟨f0, f1⟩ := KF.out _ hr1
      obtain ⟨c2, c3⟩ := hr1.cells
      have hw1 : wrap64 (m - 1) = m - 1 := IntWalk.wrap64_in _ (by omega)
      go_wp2_with fail
      refine (l1In_any x 0 _ _).mono ?_
      rintro e w2 ⟨rfl, rfl⟩
      rw [HINN.out]
      go_wp2
      refine bodyPost_ret (v := .tuple #[.agg #[.int .i64 0, .slice none 0 0], .bool false]) (by simp [results, Try.results86, go_sem, c2, c3]) rfl ?_
      rw [N1.out, N2.out, HNOK.out]
      exact AnsG.none_ RSS0.none_ ((g1.setCell (by simp) _).setCell (by simp) _)
  | false =>
    have HGB := Lib.hid hg
    have HNOK := Lib.hid (show lessOk wt m L x = false from lessOk_bad (memG_bad hg))
    obtain ⟨n1, n2⟩ := NO.out HNOK.out
    have N1 := Lib.hid n1
    have N2 := Lib.hid n2
    clear n1 n2 hg
    go_enter Try.func86, Try.ntmps86
    go_wp2_with fail
    refine (gmGood_any m A n cap L _ hl hcap HK.out).mono ?_
    rintro e w1 ⟨rfl, hb1⟩
    rw [HGB.out]
    have g1 := bfrom hb0 hb1
    have hr1 := hr.now hb1
    clear c0 c1
    obtain ⟨f0, f1⟩ := KF.out _ hr1
    obtain ⟨c2, c3⟩ := hr1.cells
    go_wp2
    refine bodyPost_ret (v := .tuple #[.agg #[.int .i64 0, .slice none 0 0], .bool false]) (by simp [results, Try.results86, go_sem, c2, c3]) rfl ?_
    rw [N1.out, N2.out, HNOK.out]
    exact AnsG.none_ RSS0.none_ ((g1.setCell (by simp) _).setCell (by simp) _)

set_option maxRecDepth 20000 in
set_option maxHeartbeats 1000000 in
theorem sGameWithout_any (m : Int) (A : Option Addr) (n cap : Nat) (L : List (List Int)) (x : Int) (w : World) (hl : n ≤ 1048576) (hcap : n ≤ cap) (hk : ListsR w A n L) (_hxw : (Lit.int .i64 x).wf = true) :
    Calls Try.prog 44 #[.agg #[.int .i64 m, .slice A n cap], .int .i64 x] w fun e w' => AnsG RSS0 (okM (lessOk false m L x) (m - 1)) (okG (lessOk false m L x) (lessS false m L x)) (lessOk false m L x) w w' e := by
  have hb0 : Below w.heap.size w ((w.alloc (.cells #[.int .i64 m, .slice A n cap] 28)).alloc (.cells #[.int .i64 0, .slice none 0 0] 28)) := (below1 w _).alloc (by simp) _
  have H := Lib.hid (gmLess_any false m A n cap L x _ hl hcap (hk.now hb0))
  have hx := (BoxT.new 28 w (.int .i64 m) (.slice A n cap)).alloc (.cells #[.int .i64 0, .slice none 0 0] 28)
  have hr := BoxT.new 28 (w.alloc (.cells #[.int .i64 m, .slice A n cap] 28)) (.int .i64 0) (.slice none 0 0)
  simp only [World.size_alloc] at hr
  clear hk hl hcap
  have KF := Lib.hid (show ∀ W, BoxT 28 W (w.heap.size + 1) (.int .i64 0) (.slice none 0 0) → (W.frozen? ⟨w.heap.size + 1, 0, none⟩ = false ∧ W.frozen? ⟨w.heap.size + 1, 1, none⟩ = false) from fun W h => by unfold BoxT at h; exact ⟨by simp [World.frozen?, h], by simp [World.frozen?, h]⟩)
  obtain ⟨c0, c1⟩ := hx.cells
  generalize okM (lessOk false m L x) (m - 1) = mm at *
  generalize okG (lessOk false m L x) (lessS false m L x) = M at *
  generalize lessOk false m L x = ok at *
  obtain ⟨ln, hln⟩ : ∃ ln, ln = M.length := ⟨_, rfl⟩
  unfold AnsG at H ⊢
  rw [← hln] at H ⊢
  clear hln
  go_enter Try.func44, Try.ntmps44
  go_wp2_with fail
  refine H.out.mono ?_
  rintro e w1 ⟨A1, p1, rfl, hl1, hb1⟩
  have HL1 := Lib.hid hl1
  have g1 := bfrom hb0 hb1
  have hr1 := hr.now hb1
  have hzw : w.heap.size + 1 < w1.heap.size := hr1.lt
  obtain ⟨f0, f1⟩ := KF.out _ hr1
  obtain ⟨c2, c3⟩ := hr1.cells
  clear hl1 c0 c1
  go_wp2
  refine bodyPost_ret (v := .tuple #[.agg #[.int .i64 mm, .slice A1 ln p1], .bool ok]) (by simp [results, Try.results44, go_sem, c2, c3]) rfl ⟨A1, p1, rfl, ?_, (g1.setCell (by simp) _).setCell (by simp) _⟩
  have hl2 := HL1.out
  simp only [World.size_alloc] at hl2
  exact Lies.rss0_wide (Lies.far (Lies.far hl2 (by first | omega | (simp; done) | (simp; omega)) _) (by first | omega | (simp; done) | (simp; omega)) _) (by omega) (by first | exact Nat.le_refl _ | simp) (by first | exact Nat.le_refl _ | simp)

set_option maxRecDepth 20000 in
set_option maxHeartbeats 1000000 in
theorem sGameWith_any (m : Int) (A : Option Addr) (n cap : Nat) (L : List (List Int)) (x : Int) (w : World) (hl : n ≤ 1048576) (hcap : n ≤ cap) (hk : ListsR w A n L) (_hxw : (Lit.int .i64 x).wf = true) :
    Calls Try.prog 46 #[.agg #[.int .i64 m, .slice A n cap], .int .i64 x] w fun e w' => AnsG RSS0 (okM (lessOk true m L x) (m - 1)) (okG (lessOk true m L x) (lessS true m L x)) (lessOk true m L x) w w' e := by
  have hb0 : Below w.heap.size w ((w.alloc (.cells #[.int .i64 m, .slice A n cap] 28)).alloc (.cells #[.int .i64 0, .slice none 0 0] 28)) := (below1 w _).alloc (by simp) _
  have H := Lib.hid (gmLess_any true m A n cap L x _ hl hcap (hk.now hb0))
  have hx := (BoxT.new 28 w (.int .i64 m) (.slice A n cap)).alloc (.cells #[.int .i64 0, .slice none 0 0] 28)
  have hr := BoxT.new 28 (w.alloc (.cells #[.int .i64 m, .slice A n cap] 28)) (.int .i64 0) (.slice none 0 0)
  simp only [World.size_alloc] at hr
  clear hk hl hcap
  have KF := Lib.hid (show ∀ W, BoxT 28 W (w.heap.size + 1) (.int .i64 0) (.slice none 0 0) → (W.frozen? ⟨w.heap.size + 1, 0, none⟩ = false ∧ W.frozen? ⟨w.heap.size + 1, 1, none⟩ = false) from fun W h => by unfold BoxT at h; exact ⟨by simp [World.frozen?, h], by simp [World.frozen?, h]⟩)
  obtain ⟨c0, c1⟩ := hx.cells
  generalize okM (lessOk true m L x) (m - 1) = mm at *
  generalize okG (lessOk true m L x) (lessS true m L x) = M at *
  generalize lessOk true m L x = ok at *
  obtain ⟨ln, hln⟩ : ∃ ln, ln = M.length := ⟨_, rfl⟩
  unfold AnsG at H ⊢
  rw [← hln] at H ⊢
  clear hln
  go_enter Try.func46, Try.ntmps46
  go_wp2_with fail
  refine H.out.mono ?_
  rintro e w1 ⟨A1, p1, rfl, hl1, hb1⟩
  have HL1 := Lib.hid hl1
  have g1 := bfrom hb0 hb1
  have hr1 := hr.now hb1
  have hzw : w.heap.size + 1 < w1.heap.size := hr1.lt
  obtain ⟨f0, f1⟩ := KF.out _ hr1
  obtain ⟨c2, c3⟩ := hr1.cells
  clear hl1 c0 c1
  go_wp2
  refine bodyPost_ret (v := .tuple #[.agg #[.int .i64 mm, .slice A1 ln p1], .bool ok]) (by simp [results, Try.results46, go_sem, c2, c3]) rfl ⟨A1, p1, rfl, ?_, (g1.setCell (by simp) _).setCell (by simp) _⟩
  have hl2 := HL1.out
  simp only [World.size_alloc] at hl2
  exact Lies.rss0_wide (Lies.far (Lies.far hl2 (by first | omega | (simp; done) | (simp; omega)) _) (by first | omega | (simp; done) | (simp; omega)) _) (by omega) (by first | exact Nat.le_refl _ | simp) (by first | exact Nat.le_refl _ | simp)

end Go.Proofs.Ytipplbcjdcdapaa
