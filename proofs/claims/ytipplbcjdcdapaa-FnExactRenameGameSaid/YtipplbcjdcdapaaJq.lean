/- The model's renamed games. -/
import Derived.Test.YtipplbcjdcdapaaJp
import Derived.Test.YtipplbcjdcdapaaJg
import Derived.Test.YtipplbcjdcdapaaT12
import Derived.Outline
namespace Go.Proofs.Ytipplbcjdcdapaa
open Go.RowKit Vo

theorem atN_len (xs : List Int) (b n : Nat) : (atN xs b n).length = (mem b n).length := by unfold atN; rw [List.length_map]
theorem atN_at {xs : List Int} {b n t : Nat} (h : t < (mem b n).length) : (atN xs b n).getD t 0 = xs.getD ((mem b n).getD t 0).toNat 0 := by
  unfold atN
  rw [List.getD_eq_getElem?_getD, List.getElem?_map, List.getElem?_eq_getElem h, List.getD_eq_getElem?_getD (l := mem b n), List.getElem?_eq_getElem h]; rfl

set_option maxRecDepth 20000 in
set_option maxHeartbeats 8000000 in
theorem gmRename_any (k : Nat) (A : Option Addr) (n cap : Nat) (L : List (List Int)) (b2 off2 cap2 : Nat) (xs : List Int) (w : World) (hq9 : k ≤ 9) (hl : n ≤ 1048576) (hr9 : rowsB k L = true) (hp : Perm9 k xs) (hk : ListsR w A n L) (hs : Sl w b2 off2 k xs) :
    Calls Try.prog 92 #[.agg #[.int .i64 k, .slice A n cap], .slice (some ⟨b2, off2, none⟩) k cap2] w fun e w' => ∃ B c, e = .returned (.agg #[.int .i64 k, .slice B (setsL (renS xs k (setsN L))).length c]) ∧ Lies (RSS0 (setsL (renS xs k (setsN L))) w.heap.size w'.heap.size (.slice B (setsL (renS xs k (setsN L))).length c)) w.heap.size w'.heap.size w' ∧ Below w.heap.size w w' := by
  have hb0 : Below w.heap.size w ((w.alloc (.cells #[.int .i64 k, .slice A n cap] 28)).alloc (.cells #[.int .i64 0, .slice none 0 0] 28)) := (below1 w _).alloc (by simp) _
  have HK := Lib.hid (hk.now hb0).lists
  have HSL := Lib.hid hs
  have HG0 := Lib.hid hb0
  have hx := (BoxT.new 28 w (.int .i64 k) (.slice A n cap)).alloc (.cells #[.int .i64 0, .slice none 0 0] 28)
  have hr := BoxT.new 28 (w.alloc (.cells #[.int .i64 k, .slice A n cap] 28)) (.int .i64 0) (.slice none 0 0)
  simp only [World.size_alloc] at hr
  have KF := Lib.hid (show ∀ W, BoxT 28 W (w.heap.size + 1) (.int .i64 0) (.slice none 0 0) → (W.frozen? ⟨w.heap.size + 1, 0, none⟩ = false ∧ W.frozen? ⟨w.heap.size + 1, 1, none⟩ = false) from fun W h => by unfold BoxT at h; exact ⟨by simp [World.frozen?, h], by simp [World.frozen?, h]⟩)
  have hS2 : ∀ s ∈ setsN L, s < 2^k := setsN_lt hq9 hr9
  have HSS := Lib.hid (show setsL (renS xs k (setsN L)) = setsL ((inOrder k).filter (leastP (fun b => winS (setsN L) (imgN xs b k)) k)) from by rw [ren_sets hq9 hp hS2])
  have HGO := Lib.hid (fun g W h => gmOf_any (fun b => winS (setsN L) (imgN xs b k)) k g (2^k) W (by omega) h)
  rw [← HSS.out] at HGO
  have HGA := Lib.hid (show ∀ W, Lists W A n L → Calls Try.prog 72 #[.agg #[.int .i64 k, .slice A n cap]] W fun e w' => ∃ g, e = .returned (.slice (some ⟨g, 0, none⟩) (2^k : Nat) (2^k : Nat)) ∧ Own w' g 4 (2^k) (fun j => .bool (winS (setsN L) j)) ∧ Below W.heap.size W w' from fun W h => (gmAll_any k A n cap L W hq9 hl hr9 h).mono fun _ _ h => ⟨_, h.1, h.2.1, h.2.2⟩)
  have h512 := pow_lt hq9
  have HIMG := Lib.hid (fun b => img_lt hp b)
  have HMEM := Lib.hid (show ∀ b, b < 2^k → mem b 9 = mem b k from fun b hb => mem_stop hb hq9)
  have HP := Lib.hid hp
  obtain ⟨N, hN⟩ : ∃ N, N = 2^k := ⟨_, rfl⟩
  rw [← hN] at HGO HGA h512 HIMG HMEM
  have hmk := run_make_row' (P := Try.prog) 65 4 (.bool false) 1 Try.underlying65 infoBool rfl .i64 .i64 N (by omega) (by omega)
  obtain ⟨S, hS⟩ : ∃ S, S = setsN L := ⟨_, rfl⟩
  rw [← hS] at HGO HGA ⊢
  obtain ⟨X, hX⟩ : ∃ X, X = setsL (renS xs k S) := ⟨_, rfl⟩
  rw [← hX] at HGO
  rw [← hX]
  obtain ⟨pl, hpl⟩ : ∃ p, p = X.length := ⟨_, rfl⟩
  rw [← hpl] at HGO ⊢
  clear hk hs hN hS hX hpl hS2 HSS hp hr9
  obtain ⟨c0, c1⟩ := hx.cells
  go_enter Try.func92, Try.ntmps92
  go_wp2_with fail
  refine (HGA.out _ HK.out).mono ?_
  rintro e w3 ⟨gA, rfl, hown, hb3⟩
  have g3 := bfrom hb0 hb3
  have hr3 := hr.now hb3
  have hx3 := hx.now hb3
  have HO3 := Lib.hid hown
  have hzw : w.heap.size + 1 < w3.heap.size := hr3.lt
  have HW := Lib.hid (show ∀ W, Below w3.heap.size w3 W → Own W gA 4 N (fun j => .bool (winS S j)) from fun W h => Own.below HO3.out h HO3.out.lt)
  have hgl3 : gA < w3.heap.size := HO3.out.lt
  have HG3 := Lib.hid g3
  clear c0 c1 hown hb0 hb3 hx hr
  go_wp2_with fail
  go_loopw [7, 8, 18] (fun _ _ i wr => ∃ b : Nat, b ≤ N ∧ i = .int .i64 b ∧ Own wr w3.heap.size 4 N (fun j => .bool (decide (j < b) && winS S (imgN xs j k))) ∧ Below w3.heap.size w3 wr) (fun _ _ i _ => N - (intOf i).toNat)
  case atStart => exact ⟨0, Nat.zero_le _, rfl, (Own.of_row (World.rowIs_made w3 (.bool false) N 4)).congr fun i _ => by simp, below1 _ _⟩
  case round =>
    obtain ⟨b, hbN, rfl, hown, hb⟩ := hrel
    have HO := Lib.hid hown
    clear hown
    by_cases hlt : b < N
    · have hb5 : b < 512 := by omega
      have HMB := Lib.hid (HMEM.out b hlt)
      obtain ⟨M, hM⟩ : ∃ M, M = mem b 9 := ⟨_, rfl⟩
      have HM := Lib.hid hM
      have hml : M.length ≤ 9 := by rw [hM]; exact mem_len b 9
      obtain ⟨ml, hmll⟩ : ∃ ml, ml = M.length := ⟨_, rfl⟩
      have HML := Lib.hid hmll
      rw [← hmll] at hml
      clear hM hmll
      have hszr := hb.size
      go_wp2_with (go_at_call 96; refine (voList_any b _ hb5).mono ?_; rintro e w5 ⟨A5, cap5, rfl, hown5, hbv⟩; rw [← HM.out, ← HML.out] at hown5 ⊢; have HL5 := Lib.hid hown5; clear hown5)
      have hb35 := bfrom hb hbv
      have HO5 := Lib.hid (Own.below HO.out hbv HO.out.lt)
      clear hbv
      have HIN := Lib.hid (atN_in HP.out b)
      have HAL := Lib.hid (show (atN xs b k).length = ml from by rw [atN_len, ← HMB.out, ← HM.out, HML.out])
      go_loopw [8, 10, 24] (fun s _ i wi => ∃ t : Nat, t ≤ ml ∧ i = .int .i64 t ∧ s = .int .i64 (ofK (atN xs b k) t : Nat) ∧ wi = w5) (fun _ _ i _ => ml - (intOf i).toNat)
      case atStart => exact ⟨0, Nat.zero_le _, rfl, rfl, rfl⟩
      case round =>
        obtain ⟨t, ht, rfl, rfl, hwi⟩ := hrel
        obtain rfl : w5 = wr := hwi.symm
        have hof : ofK (atN xs b k) t < 512 := by
          have := ofK_small (n := k) (by omega) (HIN.out.mono (by rw [HAL.out]; exact ht))
          have h2 := pow_lt (n := k) (by omega); omega
        by_cases hlt2 : t < ml
        · obtain ⟨g, cp5, hv, _, _, _⟩ := owns_head HL5.out (by omega)
          obtain ⟨rfl, rfl⟩ : A5 = some ⟨g, 0, none⟩ ∧ cap5 = cp5 := by simpa using hv
          have hcell := (show Own w5 g 3 ml (fun i => .int .i64 (M.getD i 0)) from Own.of_own HL5.out fun i hi => by
            have : i < M.length := by rw [← HML.out]; exact hi
            simp [List.getD_eq_getElem?_getD, this]).cell hlt2
          have htM : t < M.length := by rw [← HML.out]; exact hlt2
          obtain ⟨z, hz9, hzz, _⟩ : ∃ z : Nat, z < k ∧ M.getD t 0 = z ∧ b.testBit z = true := by
            have h1 : M.getD t 0 ∈ M := by rw [List.getD_eq_getElem?_getD, List.getElem?_eq_getElem htM]; exact List.getElem_mem htM
            rw [HM.out, HMB.out] at h1
            obtain ⟨z, h2, h3, h4⟩ := mem_iff.1 h1
            exact ⟨z, h2, by rw [HM.out, HMB.out]; exact h3, h4⟩
          obtain ⟨y, hy, hyk⟩ := HP.out.at hz9
          have HO1 := Lib.hid (show ofK (atN xs b k) (t+1) = ofK (atN xs b k) t ||| 2^y from by
            show ofK (atN xs b k) t ||| 2^((atN xs b k).getD t 0).toNat = _
            rw [atN_at (by rw [← HMB.out, ← HM.out]; exact htM), ← HMB.out, ← HM.out, hzz, Int.toNat_natCast, hy, Int.toNat_natCast])
          rw [hzz] at hcell
          have hcl := (HSL.out.now (bfrom HG3.out hb35)).cell z hz9
          rw [hy] at hcl
          clear hzz hy hv
          generalize ofK (atN xs b k) t = s at *
          have HE := Lib.hid (or_pow64 s y (by omega) (by omega))
          go_wp2
          go_roundw
          case rel => exact ⟨t + 1, by omega, by go_num, by rw [HE.out, HO1.out], trivial⟩
          case measure => simp [intOf]; omega
        · obtain rfl : t = ml := by omega
          have HII := Lib.hid (show imgN xs b k = ofK (atN xs b k) t from by unfold imgN; rw [HAL.out])
          have him := HIMG.out b
          obtain ⟨o, ho⟩ : ∃ o, o = imgN xs b k := ⟨_, rfl⟩
          rw [← ho] at HII him
          have HOO := Lib.hid ho
          clear ho
          have hcell := (HW.out _ hb35).cell him
          have hold := HO5.out.cell hlt
          have hfr := HO5.out.frozen b
          simp only [Nat.lt_irrefl, decide_false, Bool.false_and] at hold
          have HSET := Lib.hid (HO5.out.set b (.bool (winS S o)))
          have HO6 := Lib.hid (show Own (w5.setCell ⟨w3.heap.size, b, none⟩ (.bool (winS S o))) w3.heap.size 4 N (fun j => .bool (decide (j < b + 1) && winS S (imgN xs j k))) from HSET.out.congr fun i _ => by
            by_cases e : i = b
            · subst e; simp [HOO.out]
            · by_cases h : i < b
              · simp [h, e, show i < b + 1 from by omega]
              · simp [h, e, show ¬ i < b + 1 from by omega])
          have HB6 := Lib.hid (hb35.setCell (p := ⟨w3.heap.size, b, none⟩) (Nat.le_refl _) (.bool (winS S o)))
          clear HSET
          generalize winS S o = y at *
          rw [← HII.out]
          go_wp2
          go_roundw
          case rel => exact ⟨b + 1, by omega, by go_num, HO6.out, HB6.out⟩
          case measure => simp [intOf]; omega
    · obtain rfl : b = N := by omega
      have HO4 := Lib.hid (show Own wr w3.heap.size 4 b (fun j => .bool (winS S (imgN xs j k))) from HO.out.congr fun i hi => by simp [hi])
      have HG := Lib.hid (HGO.out w3.heap.size wr HO4.out)
      have g5 := bfrom g3 hb
      have hr5 := hr3.now hb
      have hz5 := hb.size
      obtain ⟨c0, c1⟩ := (hx3.now hb).cells
      go_wp2_with fail
      refine HG.out.mono ?_
      rintro e w7 ⟨C, cC, rfl, hl7, hb7⟩
      have HL7 := Lib.hid hl7
      have g7 := bfrom g5 hb7
      have hr7 := hr5.now hb7
      have hz7 := hb7.size
      clear hl7 c0 c1
      obtain ⟨f0, f1⟩ := KF.out _ hr7
      obtain ⟨c2, c3⟩ := hr7.cells
      go_wp2
      refine bodyPost_ret (v := .agg #[.int .i64 k, .slice C pl cC]) (by simp [results, Try.results92, go_sem, c2, c3]) rfl ⟨C, cC, rfl, ?_, ?_⟩
      · exact Lies.rss0_wide (Lies.far (Lies.far HL7.out (by first | omega | (simp; done) | (simp; omega)) _) (by first | omega | (simp; done) | (simp; omega)) _) (by omega) (by first | exact Nat.le_refl _ | simp) (by first | exact Nat.le_refl _ | simp)
      · exact (g7.setCell (by simp; try omega) _).setCell (by simp; try omega) _
set_option maxRecDepth 20000 in
set_option maxHeartbeats 4000000 in
theorem sRenameGame_any (m : Int) (A : Option Addr) (n cap : Nat) (L : List (List Int)) (b2 off2 k cap2 : Nat) (xs : List Int) (w : World) (hl : n ≤ 1048576) (hcap : n ≤ cap) (hk : ListsR w A n L) (hm2 : k ≤ 9223372036854775807) (hcap2 : k ≤ cap2) (hs : Sl w b2 off2 k xs) :
    Calls Try.prog 48 #[.agg #[.int .i64 m, .slice A n cap], .slice (some ⟨b2, off2, none⟩) k cap2] w fun e w' => AnsG RSS0 (okM (renOk m L xs k) m) (okG (renOk m L xs k) (renG m L xs)) (renOk m L xs k) w w' e := by
  have hb0 : Below w.heap.size w ((w.alloc (.cells #[.int .i64 m, .slice A n cap] 28)).alloc (.cells #[.int .i64 0, .slice none 0 0] 28)) := (below1 w _).alloc (by simp) _
  have HK := Lib.hid (hk.now hb0)
  have HS := Lib.hid hs
  have hx := (BoxT.new 28 w (.int .i64 m) (.slice A n cap)).alloc (.cells #[.int .i64 0, .slice none 0 0] 28)
  have hr := BoxT.new 28 (w.alloc (.cells #[.int .i64 m, .slice A n cap] 28)) (.int .i64 0) (.slice none 0 0)
  simp only [World.size_alloc] at hr
  clear hk hs
  have KF := Lib.hid (show ∀ W, BoxT 28 W (w.heap.size + 1) (.int .i64 0) (.slice none 0 0) → (W.frozen? ⟨w.heap.size + 1, 0, none⟩ = false ∧ W.frozen? ⟨w.heap.size + 1, 1, none⟩ = false) from fun W h => by unfold BoxT at h; exact ⟨by simp [World.frozen?, h], by simp [World.frozen?, h]⟩)
  have NO := Lib.hid (show renOk m L xs k = false → okM (renOk m L xs k) m = 0 ∧ okG (renOk m L xs k) (renG m L xs) = [] from fun h => ⟨okM_no h, okG_no h⟩)
  obtain ⟨c0, c1⟩ := hx.cells
  cases hg : goodG m L with
  | false =>
    have HGB := Lib.hid hg
    have HNOK := Lib.hid (renOk_bad (xs := xs) (k := k) hg)
    obtain ⟨n1, n2'⟩ := NO.out HNOK.out
    have N1 := Lib.hid n1
    have N2 := Lib.hid n2'
    clear n1 n2' hg
    go_enter Try.func48, Try.ntmps48
    go_wp2_with fail
    refine (gmGood_any _ A n cap L _ hl hcap HK.out).mono ?_
    rintro e w1 ⟨rfl, hb1⟩
    rw [HGB.out]
    have g1 := bfrom hb0 hb1
    have hr1 := hr.now hb1
    clear c0 c1
    obtain ⟨c0, c1⟩ := (hx.now hb1).cells
    obtain ⟨f0, f1⟩ := KF.out _ hr1
    obtain ⟨c2, c3⟩ := hr1.cells
    go_wp2
    refine bodyPost_ret (v := .tuple #[.agg #[.int .i64 0, .slice none 0 0], .bool false]) (by simp [results, Try.results48, go_sem, c2, c3]) rfl ?_
    rw [N1.out, N2.out, HNOK.out]
    exact AnsG.none_ RSS0.none_ ((g1.setCell (by simp; try omega) _).setCell (by simp; try omega) _)
  | true =>
    have HGB := Lib.hid hg
    obtain ⟨a1, a9, _, ar, _⟩ := goodG_parts hg
    obtain ⟨q, rfl⟩ : ∃ q : Nat, m = q := ⟨m.toNat, by omega⟩
    rw [Int.toNat_natCast] at ar
    have HROK := Lib.hid (renOk_good (xs := xs) (k := k) hg)
    cases hord : orderB q xs k with
    | false =>
      have HORD := Lib.hid hord
      rw [hord] at HROK
      have HNOK := Lib.hid (HROK.out)
      obtain ⟨n1, n2'⟩ := NO.out HNOK.out
      have N1 := Lib.hid n1
      have N2 := Lib.hid n2'
      clear n1 n2' hg hord
      go_enter Try.func48, Try.ntmps48
      go_wp2_with fail
      refine (gmGood_any _ A n cap L _ hl hcap HK.out).mono ?_
      rintro e w1 ⟨rfl, hb1⟩
      rw [HGB.out]
      have g1 := bfrom hb0 hb1
      have hr1 := hr.now hb1
      clear c0 c1
      obtain ⟨c0, c1⟩ := (hx.now hb1).cells
      obtain ⟨f0, f1⟩ := KF.out _ hr1
      obtain ⟨c2, c3⟩ := hr1.cells
      go_wp2_with fail
      refine (voOrder_any q b2 off2 k cap2 xs _ (by omega) hm2 hcap2 ((HS.out.now hb0).now hb1)).mono ?_
      rintro e w2 ⟨rfl, rfl⟩
      rw [HORD.out]
      go_wp2
      refine bodyPost_ret (v := .tuple #[.agg #[.int .i64 0, .slice none 0 0], .bool false]) (by simp [results, Try.results48, go_sem, c2, c3]) rfl ?_
      rw [N1.out, N2.out, HNOK.out]
      exact AnsG.none_ RSS0.none_ ((g1.setCell (by simp; try omega) _).setCell (by simp; try omega) _)
    | true =>
      have HORD := Lib.hid hord
      rw [hord] at HROK
      obtain ⟨rfl, hperm⟩ := orderB_perm hord
      have HGR := Lib.hid (fun W h1 h2 => gmRename_any k A n cap L b2 off2 cap2 xs W (by omega) hl ar hperm h1 h2)
      have HM1 := Lib.hid (okM_yes (m := (k : Int)) HROK.out)
      have HM2 := Lib.hid (okG_yes (S := renG (k : Int) L xs) HROK.out)
      have HXX := Lib.hid (show renG (k : Int) L xs = renS xs k (setsN L) from by unfold renG; rw [Int.toNat_natCast])
      rw [HXX.out] at HM2
      have HXS := Lib.hid HXX.out
      obtain ⟨X, hX⟩ : ∃ X, X = setsL (renS xs k (setsN L)) := ⟨_, rfl⟩
      rw [← hX] at HGR HM2
      obtain ⟨pl, hpl⟩ : ∃ p, p = X.length := ⟨_, rfl⟩
      rw [← hpl] at HGR
      have HJL := Lib.hid hpl
      clear hX hpl hg hord hperm ar
      go_enter Try.func48, Try.ntmps48
      go_wp2_with fail
      refine (gmGood_any _ A n cap L _ hl hcap HK.out).mono ?_
      rintro e w1 ⟨rfl, hb1⟩
      rw [HGB.out]
      have g1 := bfrom hb0 hb1
      have hr1 := hr.now hb1
      have hzw : w.heap.size + 1 < w1.heap.size := hr1.lt
      clear c0 c1
      obtain ⟨c0, c1⟩ := (hx.now hb1).cells
      go_wp2_with fail
      refine (voOrder_any k b2 off2 k cap2 xs _ (by omega) hm2 hcap2 ((HS.out.now hb0).now hb1)).mono ?_
      rintro e w2 ⟨rfl, rfl⟩
      rw [HORD.out]
      go_wp2_with fail
      refine (HGR.out _ (HK.out.now hb1) ((HS.out.now hb0).now hb1)).mono ?_
      rintro e w7 ⟨C, cC, rfl, hl7, hb7⟩
      have HL7 := Lib.hid hl7
      have g7 := bfrom g1 hb7
      have hr7 := hr1.now hb7
      have hz7 := hb7.size
      clear hl7 c0 c1
      obtain ⟨f0, f1⟩ := KF.out _ hr7
      obtain ⟨c2, c3⟩ := hr7.cells
      go_wp2
      refine bodyPost_ret (v := .tuple #[.agg #[.int .i64 k, .slice C pl cC], .bool true]) (by simp [results, Try.results48, go_sem, c2, c3]) rfl ?_
      rw [HM1.out, HXS.out, HM2.out, HROK.out]
      refine ⟨C, cC, by rw [HJL.out], ?_, ?_⟩
      · rw [← HJL.out]
        exact Lies.rss0_wide (Lies.far (Lies.far HL7.out (by first | omega | (simp; done) | (simp; omega)) _) (by first | omega | (simp; done) | (simp; omega)) _) (by omega) (by first | exact Nat.le_refl _ | simp) (by first | exact Nat.le_refl _ | simp)
      · exact (g7.setCell (by simp; try omega) _).setCell (by simp; try omega) _
end Go.Proofs.Ytipplbcjdcdapaa
