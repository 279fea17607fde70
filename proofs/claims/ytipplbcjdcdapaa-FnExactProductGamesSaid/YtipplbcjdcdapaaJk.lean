/- The model's sums and products of games. -/
import Derived.Test.YtipplbcjdcdapaaJg
import Derived.Test.YtipplbcjdcdapaaJh
import Derived.Outline
namespace Go.Proofs.Ytipplbcjdcdapaa
open Go.RowKit Vo

/-- All sets asked, in memory of the call's own. -/
theorem gmAll_own (q : Nat) (A : Option Addr) (n cap : Nat) (L : List (List Int)) (W : World) (hq : q ≤ 9) (hl : n ≤ 1048576) (hr : rowsB q L = true) (h : Lists W A n L) :
    Calls Try.prog 72 #[.agg #[.int .i64 q, .slice A n cap]] W fun e w' => ∃ g, e = .returned (.slice (some ⟨g, 0, none⟩) (2^q : Nat) (2^q : Nat)) ∧ Own w' g 4 (2^q) (fun j => .bool (winS (setsN L) j)) ∧ Below W.heap.size W w' :=
  (gmAll_any q A n cap L W hq hl hr h).mono fun _ _ h => ⟨_, h.1, h.2.1, h.2.2⟩

set_option maxRecDepth 20000 in
set_option maxHeartbeats 8000000 in
theorem gmJoin_any (both : Bool) (m : Int) (A : Option Addr) (n cap : Nat) (L : List (List Int)) (m2 : Int) (A2 : Option Addr) (n2 cap2 : Nat) (L2 : List (List Int)) (w : World) (hl : n ≤ 1048576) (hcap : n ≤ cap) (hk : ListsR w A n L) (hl2 : n2 ≤ 1048576) (hcap2 : n2 ≤ cap2) (hk2 : ListsR w A2 n2 L2) :
    Calls Try.prog 82 #[.agg #[.int .i64 m, .slice A n cap], .agg #[.int .i64 m2, .slice A2 n2 cap2], .bool both] w fun e w' => AnsG RSS0 (okM (joinOk m L m2 L2) (m + m2)) (okG (joinOk m L m2 L2) (joinS both m L L2)) (joinOk m L m2 L2) w w' e := by
  have hb0 : Below w.heap.size w (((w.alloc (.cells #[.int .i64 m, .slice A n cap] 28)).alloc (.cells #[.int .i64 m2, .slice A2 n2 cap2] 28)).alloc (.cells #[.int .i64 0, .slice none 0 0] 28)) := ((below1 w _).alloc (by simp) _).alloc (by simp; omega) _
  have HK := Lib.hid (hk.now hb0)
  have HKB := Lib.hid (hk2.now hb0)
  have hx := ((BoxT.new 28 w (.int .i64 m) (.slice A n cap)).alloc (.cells #[.int .i64 m2, .slice A2 n2 cap2] 28)).alloc (.cells #[.int .i64 0, .slice none 0 0] 28)
  have hy := (BoxT.new 28 (w.alloc (.cells #[.int .i64 m, .slice A n cap] 28)) (.int .i64 m2) (.slice A2 n2 cap2)).alloc (.cells #[.int .i64 0, .slice none 0 0] 28)
  have hr := BoxT.new 28 ((w.alloc (.cells #[.int .i64 m, .slice A n cap] 28)).alloc (.cells #[.int .i64 m2, .slice A2 n2 cap2] 28)) (.int .i64 0) (.slice none 0 0)
  simp only [World.size_alloc] at hy hr
  clear hk hk2
  have KF := Lib.hid (show ∀ W, BoxT 28 W (w.heap.size + 1 + 1) (.int .i64 0) (.slice none 0 0) → (W.frozen? ⟨w.heap.size + 1 + 1, 0, none⟩ = false ∧ W.frozen? ⟨w.heap.size + 1 + 1, 1, none⟩ = false) from fun W h => by unfold BoxT at h; exact ⟨by simp [World.frozen?, h], by simp [World.frozen?, h]⟩)
  have NO := Lib.hid (show joinOk m L m2 L2 = false → okM (joinOk m L m2 L2) (m + m2) = 0 ∧ okG (joinOk m L m2 L2) (joinS both m L L2) = [] from fun h => ⟨okM_no h, okG_no h⟩)
  obtain ⟨c0, c1⟩ := hx.cells
  obtain ⟨d0, d1⟩ := hy.cells
  cases hg : goodG m L with
  | false =>
    have HGB := Lib.hid hg
    have HNOK := Lib.hid (joinOk_first (L := L) (k := m2) (K := L2) hg)
    obtain ⟨n1, n2'⟩ := NO.out HNOK.out
    have N1 := Lib.hid n1
    have N2 := Lib.hid n2'
    clear n1 n2' hg
    go_enter Try.func82, Try.ntmps82
    go_wp2_with fail
    refine (gmGood_any m A n cap L _ hl hcap HK.out).mono ?_
    rintro e w1 ⟨rfl, hb1⟩
    rw [HGB.out]
    have g1 := bfrom hb0 hb1
    have hr1 := hr.now hb1
    
    obtain ⟨f0, f1⟩ := KF.out _ hr1
    obtain ⟨c2, c3⟩ := hr1.cells
    go_wp2
    refine bodyPost_ret (v := .tuple #[.agg #[.int .i64 0, .slice none 0 0], .bool false]) (by simp [results, Try.results82, go_sem, c2, c3]) rfl ?_
    rw [N1.out, N2.out, HNOK.out]
    exact AnsG.none_ RSS0.none_ ((g1.setCell (by simp; try omega) _).setCell (by simp; try omega) _)
  | true =>
    have HGB := Lib.hid hg
    cases hg2 : goodG m2 L2 with
    | false =>
      have HGB2 := Lib.hid hg2
      have HNOK := Lib.hid (joinOk_second (m := m) (L := L) hg2)
      obtain ⟨n1, n2'⟩ := NO.out HNOK.out
      have N1 := Lib.hid n1
      have N2 := Lib.hid n2'
      clear n1 n2' hg hg2
      go_enter Try.func82, Try.ntmps82
      go_wp2_with fail
      refine (gmGood_any m A n cap L _ hl hcap HK.out).mono ?_
      rintro e w1 ⟨rfl, hb1⟩
      rw [HGB.out]
      have g1 := bfrom hb0 hb1
      have hr1 := hr.now hb1
      obtain ⟨z0, z1⟩ := (hy.now hb1).cells; clear d0 d1; obtain ⟨d0, d1⟩ : _ ∧ _ := ⟨z0, z1⟩
      go_wp2_with fail
      refine (gmGood_any m2 A2 n2 cap2 L2 _ hl2 hcap2 (HKB.out.now hb1)).mono ?_
      rintro e w2 ⟨rfl, hb2⟩
      rw [HGB2.out]
      have g2 := bfrom g1 hb2
      have hr2 := hr1.now hb2
      obtain ⟨f0, f1⟩ := KF.out _ hr2
      obtain ⟨c2, c3⟩ := hr2.cells
      clear c0 c1 d0 d1
      obtain ⟨c0, c1⟩ := ((hx.now hb1).now hb2).cells
      obtain ⟨d0, d1⟩ := ((hy.now hb1).now hb2).cells
      go_wp2
      refine bodyPost_ret (v := .tuple #[.agg #[.int .i64 0, .slice none 0 0], .bool false]) (by simp [results, Try.results82, go_sem, c2, c3]) rfl ?_
      rw [N1.out, N2.out, HNOK.out]
      exact AnsG.none_ RSS0.none_ ((g2.setCell (by simp; try omega) _).setCell (by simp; try omega) _)
    | true =>
      have HGB2 := Lib.hid hg2
      obtain ⟨a1, a9, _, ar, _⟩ := goodG_parts hg
      obtain ⟨z1, z9, _, zr, _⟩ := goodG_parts hg2
      by_cases hsum : m + m2 ≤ 9
      · have HYOK := Lib.hid (joinOk_yes hg hg2 hsum)
        have HM1 := Lib.hid (okM_yes (m := m + m2) HYOK.out)
        have HM2 := Lib.hid (okG_yes (S := joinS both m L L2) HYOK.out)
        obtain ⟨q, rfl⟩ : ∃ q : Nat, m = q := ⟨m.toNat, by omega⟩
        obtain ⟨r, rfl⟩ : ∃ r : Nat, m2 = r := ⟨m2.toNat, by omega⟩
        rw [Int.toNat_natCast] at ar zr
        have hq9 : q + r ≤ 9 := by omega
        have hS2 : ∀ s ∈ setsN L, s < 2^q := setsN_lt (by omega) ar
        have hT2 : ∀ s ∈ setsN L2, s < 2^r := setsN_lt (by omega) zr
        have HSS := Lib.hid (show setsL (joinS both (q : Int) L L2) = setsL ((inOrder (q + r)).filter (leastP (joinP both (setsN L) (setsN L2) q) (q + r))) from by
          rw [join_sets hq9 hS2 hT2]; unfold joinS; rw [Int.toNat_natCast])
        have HGO := Lib.hid (fun g W h => gmOf_any (joinP both (setsN L) (setsN L2) q) (q + r) g (2^(q + r)) W (by omega) h)
        rw [← HSS.out] at HGO
        have HA := Lib.hid (fun W h => gmAll_own q A n cap L W (by omega) hl ar h)
        have HB := Lib.hid (fun W h => gmAll_own r A2 n2 cap2 L2 W (by omega) hl2 zr h)
        have HCS := Lib.hid (show (q : Int) + (r : Int) = ((q + r : Nat) : Int) from by simp)
        have hp512 : (2:Nat)^(q+r) ≤ 2^9 := Nat.pow_le_pow_right (by omega) (by omega)
        obtain ⟨P, hP⟩ : ∃ P, P = 2^q := ⟨_, rfl⟩
        obtain ⟨R, hR⟩ : ∃ R, R = 2^r := ⟨_, rfl⟩
        have hPR : 2^(q+r) = P * R := by rw [hP, hR, Nat.pow_add]
        have hP0 : 0 < P := by rw [hP]; exact Nat.two_pow_pos q
        have hR0 : 0 < R := by rw [hR]; exact Nat.two_pow_pos r
        rw [hPR] at HGO hp512
        have HPD := Lib.hid (show ∀ b, b < P * R → b % P < P ∧ b / P < R from fun b h => ⟨Nat.mod_lt _ hP0, Nat.div_lt_of_lt_mul h⟩)
        have HJP := Lib.hid (show ∀ b, joinP both (setsN L) (setsN L2) q b = ((winS (setsN L) (b % P) && winS (setsN L2) (b / P)) || (!both && (winS (setsN L) (b % P) || winS (setsN L2) (b / P)))) from fun b => by unfold joinP; rw [hP])
        rw [← hP] at HA
        rw [← hR] at HB
        have hP5 : P ≤ 512 := by
          have : P * 1 ≤ P * R := Nat.mul_le_mul_left _ hR0
          omega
        have hR5 : R ≤ 512 := by
          have : 1 * R ≤ P * R := Nat.mul_le_mul_right _ hP0
          omega
        have hmulI : (P : Int) * (R : Int) = ((P * R : Nat) : Int) := by simp
        obtain ⟨N, hN⟩ : ∃ N, N = P * R := ⟨_, rfl⟩
        rw [← hN] at HGO hmulI hp512 HPD
        have hN5 : N ≤ 512 := by omega
        have hmk := run_make_row' (P := Try.prog) 65 4 (.bool false) 1 Try.underlying65 infoBool rfl .i64 .i64 N (by omega) (by omega)
        obtain ⟨S, hS⟩ : ∃ S, S = setsN L := ⟨_, rfl⟩
        obtain ⟨T, hT⟩ : ∃ T, T = setsN L2 := ⟨_, rfl⟩
        rw [← hS] at HA HGO HJP
        rw [← hT] at HB HGO HJP
        obtain ⟨X, hX⟩ : ∃ X, X = joinS both (q : Int) L L2 := ⟨_, rfl⟩
        rw [← hX] at HGO HM2
        have HXX := Lib.hid hX
        clear hX
        obtain ⟨pl, hpl⟩ : ∃ p, p = (setsL X).length := ⟨_, rfl⟩
        rw [← hpl] at HGO
        have HJL := Lib.hid hpl
        have HNN := Lib.hid hN
        clear hpl hS hT hg hg2 hS2 hT2 ar zr hP hR hPR hN HSS hp512
        go_enter Try.func82, Try.ntmps82
        go_wp2_with fail
        refine (gmGood_any q A n cap L _ hl hcap HK.out).mono ?_
        rintro e w1 ⟨rfl, hb1⟩
        rw [HGB.out]
        have g1 := bfrom hb0 hb1
        clear d0 d1
        obtain ⟨d0, d1⟩ := (hy.now hb1).cells
        go_wp2_with fail
        refine (gmGood_any r A2 n2 cap2 L2 _ hl2 hcap2 (HKB.out.now hb1)).mono ?_
        rintro e w2 ⟨rfl, hb2⟩
        rw [HGB2.out]
        have g2 := bfrom g1 hb2
        have hr2 := (hr.now hb1).now hb2
        have hx2 := (hx.now hb1).now hb2
        have hy2 := (hy.now hb1).now hb2
        have HK2 := Lib.hid ((HK.out.now hb1).now hb2)
        have HKB2 := Lib.hid ((HKB.out.now hb1).now hb2)
        have hzw : w.heap.size + 1 + 1 < w2.heap.size := hr2.lt
        clear c0 c1 d0 d1 hb0 hb1 hb2 hx hy hr g1 HK HKB
        obtain ⟨c0, c1⟩ := hx2.cells
        obtain ⟨d0, d1⟩ := hy2.cells
        have K := Lib.hid (show ∀ W, Below w2.heap.size w2 W → (W.cell? ⟨w.heap.size, 0, none⟩ = some (.int .i64 q) ∧ W.cell? ⟨w.heap.size, 1, none⟩ = some (.slice A n cap) ∧ W.cell? ⟨w.heap.size + 1, 0, none⟩ = some (.int .i64 r) ∧ W.cell? ⟨w.heap.size + 1, 1, none⟩ = some (.slice A2 n2 cap2)) from fun W hb => ⟨(hx2.now hb).cells.1, (hx2.now hb).cells.2, (hy2.now hb).cells.1, (hy2.now hb).cells.2⟩)
        go_wp2_with fail
        go_region_held3 (fun w' => w'.cell? ⟨w.heap.size, 0, none⟩ = some (.int .i64 q) ∧ w'.cell? ⟨w.heap.size, 1, none⟩ = some (.slice A n cap) ∧ w'.cell? ⟨w.heap.size + 1, 0, none⟩ = some (.int .i64 r) ∧ w'.cell? ⟨w.heap.size + 1, 1, none⟩ = some (.slice A2 n2 cap2))
          (first | exact ⟨c0, c1, d0, d1⟩ | exact K.out _ gA | exact K.out _ gB | go_keep)
          (first
            | (go_at_call 72; ((with_reducible refine (HA.out _ ?_).mono ?_)); (first | exact (HK2.out.now gB).lists | exact (HK2.out.now (Below.refl _ _).drew).lists); rintro e wA ⟨bA, rfl, hownA, hbA⟩; (first | have gA := bfrom gB hbA | have gA := bfrom (Below.refl _ _).drew hbA))
            | (go_at_call 72; ((with_reducible refine (HB.out _ ?_).mono ?_)); (first | exact (HKB2.out.now gA).lists | exact (HKB2.out.now (Below.refl _ _).drew).lists); rintro e wB ⟨bB, rfl, hownB, hbB⟩; (first | have gB := bfrom gA hbB | have gB := bfrom (Below.refl _ _).drew hbB)))
        have HOA := Lib.hid (Own.below hownA hbB hownA.lt)
        have HOB := Lib.hid hownB
        have HW := Lib.hid (show ∀ W, Below wB.heap.size wB W → Own W bA 4 P (fun j => .bool (winS S j)) ∧ Own W bB 4 R (fun j => .bool (winS T j)) from fun W h => ⟨Own.below HOA.out h HOA.out.lt, Own.below HOB.out h HOB.out.lt⟩)
        have hglA : bA < wB.heap.size := HOA.out.lt
        have hglB : bB < wB.heap.size := HOB.out.lt
        have g4 := bfrom g2 gB
        have hr4 := hr2.now gB
        have K4 := Lib.hid (fun W h => K.out W (bfrom gB h))
        have hzB := gB.size
        clear c0 c1 d0 d1 hownA hownB hbA hbB gA HOA HOB
        go_wp2_with fail
        go_loopw [11, 12, 13, 43] (fun _ _ _ i wr => ∃ b : Nat, b ≤ N ∧ i = .int .i64 b ∧ Own wr wB.heap.size 4 N (fun j => .bool (decide (j < b) && joinP both S T q j)) ∧ Below wB.heap.size wB wr) (fun _ _ _ i _ => N - (intOf i).toNat)
        case atStart => exact ⟨0, Nat.zero_le _, rfl, (Own.of_row (World.rowIs_made wB (.bool false) N 4)).congr fun i _ => by simp, below1 _ _⟩
        case round =>
          obtain ⟨b, hbN, rfl, hown, hb⟩ := hrel
          have HO := Lib.hid hown
          clear hown
          by_cases hlt : b < N
          · obtain ⟨hm1, hd1⟩ := HPD.out b hlt
            have hmodN : (b : Int) % (P : Int) = ((b % P : Nat) : Int) := by simp
            have hdivN : (b : Int) / (P : Int) = ((b / P : Nat) : Int) := by simp
            have hcx := (HW.out _ hb).1.cell hm1
            have hcy := (HW.out _ hb).2.cell hd1
            have HJ := Lib.hid (HJP.out b)
            have hold := HO.out.cell hlt
            have hfr := HO.out.frozen b
            simp only [Nat.lt_irrefl, decide_false, Bool.false_and] at hold
            generalize b % P = x at *
            generalize b / P = y at *
            obtain ⟨u, hu⟩ : ∃ u, u = joinP both S T q b := ⟨_, rfl⟩
            rw [← hu] at HJ
            have HU := Lib.hid hu
            clear hu
            have HSET := Lib.hid (HO.out.set b (.bool u))
            have HO3 := Lib.hid (show Own (wr.setCell ⟨wB.heap.size, b, none⟩ (.bool u)) wB.heap.size 4 N (fun j => .bool (decide (j < b + 1) && joinP both S T q j)) from HSET.out.congr fun i _ => by
              by_cases e : i = b
              · subst e; simp [HU.out]
              · by_cases h : i < b
                · simp [h, e, show i < b + 1 from by omega]
                · simp [h, e, show ¬ i < b + 1 from by omega])
            have HB3 := Lib.hid (fun nn => (below_drewN hb nn).setCell (p := ⟨wB.heap.size, b, none⟩) (Nat.le_refl _) (.bool u))
            clear HSET HU
            generalize winS S x = vx at *
            generalize winS T y = vy at *
            cases both
            all_goals cases vx
            all_goals cases vy
            all_goals
              simp only [Bool.not_false, Bool.not_true, Bool.and_true, Bool.and_false, Bool.or_false, Bool.or_true] at HJ
              rw [HJ.out] at HO3 HB3
              go_wp2_with fail
              go_quiet (fail)
              go_wp2
              go_roundw
              case rel => exact ⟨b + 1, by omega, by go_num, HO3.out, HB3.out _⟩
              case measure => simp [intOf]; omega
          · obtain rfl : b = N := by omega
            have HO4 := Lib.hid (show Own wr wB.heap.size 4 b (fun j => .bool (joinP both S T q j)) from HO.out.congr fun i hi => by simp [hi])
            have HG := Lib.hid (HGO.out wB.heap.size wr HO4.out)
            have g5 := bfrom g4 hb
            have hr5 := hr4.now hb
            have hz5 := hb.size
            obtain ⟨c0, c1, d0, d1⟩ := K4.out _ hb
            go_wp2_with fail
            rw [HCS.out]
            refine HG.out.mono ?_
            rintro e w7 ⟨C, cC, rfl, hl7, hb7⟩
            have HL7 := Lib.hid hl7
            have g7 := bfrom g5 hb7
            have hr7 := hr5.now hb7
            have hz7 := hb7.size
            clear hl7 c0 c1 d0 d1
            obtain ⟨f0, f1⟩ := KF.out _ hr7
            obtain ⟨c2, c3⟩ := hr7.cells
            go_wp2
            refine bodyPost_ret (v := .tuple #[.agg #[.int .i64 ((q + r : Nat) : Int), .slice C pl cC], .bool true]) (by simp [results, Try.results82, go_sem, c2, c3]) rfl ?_
            rw [HM1.out, ← HXX.out, HM2.out, HYOK.out, HCS.out]
            refine ⟨C, cC, by rw [HJL.out], ?_, ?_⟩
            · rw [← HJL.out]
              exact Lies.rss0_wide (Lies.far (Lies.far HL7.out (by first | omega | (simp; done) | (simp; omega)) _) (by first | omega | (simp; done) | (simp; omega)) _) (by omega) (by first | exact Nat.le_refl _ | simp) (by first | exact Nat.le_refl _ | simp)
            · exact (g7.setCell (by simp; try omega) _).setCell (by simp; try omega) _
      · have hgt : (9 : Int) < m + m2 := by omega
        have HNOK := Lib.hid (joinOk_many (L := L) (K := L2) hsum)
        obtain ⟨n1, n2'⟩ := NO.out HNOK.out
        have N1 := Lib.hid n1
        have N2 := Lib.hid n2'
        clear n1 n2' hg hg2
        go_enter Try.func82, Try.ntmps82
        go_wp2_with fail
        refine (gmGood_any m A n cap L _ hl hcap HK.out).mono ?_
        rintro e w1 ⟨rfl, hb1⟩
        rw [HGB.out]
        have g1 := bfrom hb0 hb1
        have hr1 := hr.now hb1
        obtain ⟨z0, z1⟩ := (hy.now hb1).cells; clear d0 d1; obtain ⟨d0, d1⟩ : _ ∧ _ := ⟨z0, z1⟩
        go_wp2_with fail
        refine (gmGood_any m2 A2 n2 cap2 L2 _ hl2 hcap2 (HKB.out.now hb1)).mono ?_
        rintro e w2 ⟨rfl, hb2⟩
        rw [HGB2.out]
        have g2 := bfrom g1 hb2
        have hr2 := hr1.now hb2
        obtain ⟨f0, f1⟩ := KF.out _ hr2
        obtain ⟨c2, c3⟩ := hr2.cells
        clear c0 c1 d0 d1
        obtain ⟨c0, c1⟩ := ((hx.now hb1).now hb2).cells
        obtain ⟨d0, d1⟩ := ((hy.now hb1).now hb2).cells
        go_wp2
        refine bodyPost_ret (v := .tuple #[.agg #[.int .i64 0, .slice none 0 0], .bool false]) (by simp [results, Try.results82, go_sem, c2, c3]) rfl ?_
        rw [N1.out, N2.out, HNOK.out]
        exact AnsG.none_ RSS0.none_ ((g2.setCell (by simp; try omega) _).setCell (by simp; try omega) _)

set_option maxRecDepth 20000 in
set_option maxHeartbeats 1000000 in
theorem sSumGames_any (m : Int) (A : Option Addr) (n cap : Nat) (L : List (List Int)) (m2 : Int) (A2 : Option Addr) (n2 cap2 : Nat) (L2 : List (List Int)) (w : World) (hl : n ≤ 1048576) (hcap : n ≤ cap) (hk : ListsR w A n L) (hl2 : n2 ≤ 1048576) (hcap2 : n2 ≤ cap2) (hk2 : ListsR w A2 n2 L2) :
    Calls Try.prog 40 #[.agg #[.int .i64 m, .slice A n cap], .agg #[.int .i64 m2, .slice A2 n2 cap2]] w fun e w' => AnsG RSS0 (okM (joinOk m L m2 L2) (m + m2)) (okG (joinOk m L m2 L2) (joinS false m L L2)) (joinOk m L m2 L2) w w' e := by
  have hb0 : Below w.heap.size w (((w.alloc (.cells #[.int .i64 m, .slice A n cap] 28)).alloc (.cells #[.int .i64 m2, .slice A2 n2 cap2] 28)).alloc (.cells #[.int .i64 0, .slice none 0 0] 28)) := ((below1 w _).alloc (by simp) _).alloc (by simp; omega) _
  have H := Lib.hid (gmJoin_any false m A n cap L m2 A2 n2 cap2 L2 _ hl hcap (hk.now hb0) hl2 hcap2 (hk2.now hb0))
  have hx := ((BoxT.new 28 w (.int .i64 m) (.slice A n cap)).alloc (.cells #[.int .i64 m2, .slice A2 n2 cap2] 28)).alloc (.cells #[.int .i64 0, .slice none 0 0] 28)
  have hy := (BoxT.new 28 (w.alloc (.cells #[.int .i64 m, .slice A n cap] 28)) (.int .i64 m2) (.slice A2 n2 cap2)).alloc (.cells #[.int .i64 0, .slice none 0 0] 28)
  have hr := BoxT.new 28 ((w.alloc (.cells #[.int .i64 m, .slice A n cap] 28)).alloc (.cells #[.int .i64 m2, .slice A2 n2 cap2] 28)) (.int .i64 0) (.slice none 0 0)
  simp only [World.size_alloc] at hy hr
  clear hk hk2 hl hl2 hcap hcap2
  have KF := Lib.hid (show ∀ W, BoxT 28 W (w.heap.size + 1 + 1) (.int .i64 0) (.slice none 0 0) → (W.frozen? ⟨w.heap.size + 1 + 1, 0, none⟩ = false ∧ W.frozen? ⟨w.heap.size + 1 + 1, 1, none⟩ = false) from fun W h => by unfold BoxT at h; exact ⟨by simp [World.frozen?, h], by simp [World.frozen?, h]⟩)
  obtain ⟨c0, c1⟩ := hx.cells
  obtain ⟨d0, d1⟩ := hy.cells
  generalize okM (joinOk m L m2 L2) (m + m2) = mm at *
  generalize okG (joinOk m L m2 L2) (joinS false m L L2) = M at *
  generalize joinOk m L m2 L2 = ok at *
  obtain ⟨ln, hln⟩ : ∃ ln, ln = M.length := ⟨_, rfl⟩
  unfold AnsG at H ⊢
  rw [← hln] at H ⊢
  clear hln
  go_enter Try.func40, Try.ntmps40
  go_wp2_with fail
  refine H.out.mono ?_
  rintro e w1 ⟨A1, p1, rfl, hl1, hb1⟩
  have HL1 := Lib.hid hl1
  have g1 := bfrom hb0 hb1
  have hr1 := hr.now hb1
  have hzw : w.heap.size + 1 + 1 < w1.heap.size := hr1.lt
  obtain ⟨f0, f1⟩ := KF.out _ hr1
  obtain ⟨c2, c3⟩ := hr1.cells
  clear hl1 c0 c1 d0 d1
  go_wp2
  refine bodyPost_ret (v := .tuple #[.agg #[.int .i64 mm, .slice A1 ln p1], .bool ok]) (by simp [results, Try.results40, go_sem, c2, c3]) rfl ⟨A1, p1, rfl, ?_, (g1.setCell (by simp; try omega) _).setCell (by simp; try omega) _⟩
  have hl2 := HL1.out
  simp only [World.size_alloc] at hl2
  exact Lies.rss0_wide (Lies.far (Lies.far hl2 (by first | omega | (simp; done) | (simp; omega)) _) (by first | omega | (simp; done) | (simp; omega)) _) (by omega) (by first | exact Nat.le_refl _ | simp) (by first | exact Nat.le_refl _ | simp)

set_option maxRecDepth 20000 in
set_option maxHeartbeats 1000000 in
theorem sProductGames_any (m : Int) (A : Option Addr) (n cap : Nat) (L : List (List Int)) (m2 : Int) (A2 : Option Addr) (n2 cap2 : Nat) (L2 : List (List Int)) (w : World) (hl : n ≤ 1048576) (hcap : n ≤ cap) (hk : ListsR w A n L) (hl2 : n2 ≤ 1048576) (hcap2 : n2 ≤ cap2) (hk2 : ListsR w A2 n2 L2) :
    Calls Try.prog 42 #[.agg #[.int .i64 m, .slice A n cap], .agg #[.int .i64 m2, .slice A2 n2 cap2]] w fun e w' => AnsG RSS0 (okM (joinOk m L m2 L2) (m + m2)) (okG (joinOk m L m2 L2) (joinS true m L L2)) (joinOk m L m2 L2) w w' e := by
  have hb0 : Below w.heap.size w (((w.alloc (.cells #[.int .i64 m, .slice A n cap] 28)).alloc (.cells #[.int .i64 m2, .slice A2 n2 cap2] 28)).alloc (.cells #[.int .i64 0, .slice none 0 0] 28)) := ((below1 w _).alloc (by simp) _).alloc (by simp; omega) _
  have H := Lib.hid (gmJoin_any true m A n cap L m2 A2 n2 cap2 L2 _ hl hcap (hk.now hb0) hl2 hcap2 (hk2.now hb0))
  have hx := ((BoxT.new 28 w (.int .i64 m) (.slice A n cap)).alloc (.cells #[.int .i64 m2, .slice A2 n2 cap2] 28)).alloc (.cells #[.int .i64 0, .slice none 0 0] 28)
  have hy := (BoxT.new 28 (w.alloc (.cells #[.int .i64 m, .slice A n cap] 28)) (.int .i64 m2) (.slice A2 n2 cap2)).alloc (.cells #[.int .i64 0, .slice none 0 0] 28)
  have hr := BoxT.new 28 ((w.alloc (.cells #[.int .i64 m, .slice A n cap] 28)).alloc (.cells #[.int .i64 m2, .slice A2 n2 cap2] 28)) (.int .i64 0) (.slice none 0 0)
  simp only [World.size_alloc] at hy hr
  clear hk hk2 hl hl2 hcap hcap2
  have KF := Lib.hid (show ∀ W, BoxT 28 W (w.heap.size + 1 + 1) (.int .i64 0) (.slice none 0 0) → (W.frozen? ⟨w.heap.size + 1 + 1, 0, none⟩ = false ∧ W.frozen? ⟨w.heap.size + 1 + 1, 1, none⟩ = false) from fun W h => by unfold BoxT at h; exact ⟨by simp [World.frozen?, h], by simp [World.frozen?, h]⟩)
  obtain ⟨c0, c1⟩ := hx.cells
  obtain ⟨d0, d1⟩ := hy.cells
  generalize okM (joinOk m L m2 L2) (m + m2) = mm at *
  generalize okG (joinOk m L m2 L2) (joinS true m L L2) = M at *
  generalize joinOk m L m2 L2 = ok at *
  obtain ⟨ln, hln⟩ : ∃ ln, ln = M.length := ⟨_, rfl⟩
  unfold AnsG at H ⊢
  rw [← hln] at H ⊢
  clear hln
  go_enter Try.func42, Try.ntmps42
  go_wp2_with fail
  refine H.out.mono ?_
  rintro e w1 ⟨A1, p1, rfl, hl1, hb1⟩
  have HL1 := Lib.hid hl1
  have g1 := bfrom hb0 hb1
  have hr1 := hr.now hb1
  have hzw : w.heap.size + 1 + 1 < w1.heap.size := hr1.lt
  obtain ⟨f0, f1⟩ := KF.out _ hr1
  obtain ⟨c2, c3⟩ := hr1.cells
  clear hl1 c0 c1 d0 d1
  go_wp2
  refine bodyPost_ret (v := .tuple #[.agg #[.int .i64 mm, .slice A1 ln p1], .bool ok]) (by simp [results, Try.results42, go_sem, c2, c3]) rfl ⟨A1, p1, rfl, ?_, (g1.setCell (by simp; try omega) _).setCell (by simp; try omega) _⟩
  have hl2 := HL1.out
  simp only [World.size_alloc] at hl2
  exact Lies.rss0_wide (Lies.far (Lies.far hl2 (by first | omega | (simp; done) | (simp; omega)) _) (by first | omega | (simp; done) | (simp; omega)) _) (by omega) (by first | exact Nat.le_refl _ | simp) (by first | exact Nat.le_refl _ | simp)

end Go.Proofs.Ytipplbcjdcdapaa
