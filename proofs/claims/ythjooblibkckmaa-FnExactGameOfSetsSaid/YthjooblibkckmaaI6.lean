/- Contracts of the model's gmGood and IsGame. -/
import Derived.Test.YthjooblibkckmaaI5
import Derived.Outline
namespace Go.Proofs.Ythjooblibkckmaa
open Go.RowKit Vo

theorem i64_and_nat (a b : Nat) (ha : a < 512) (hb : b < 512) : bits BinOp.and IntKind.i64 (a : Int) (b : Int) = ((a &&& b : Nat) : Int) := by
  have hx : a &&& b < 512 := Nat.lt_of_le_of_lt Nat.and_le_left ha
  show IntKind.i64.wrap ((BitVec.ofInt 64 (a : Int) &&& BitVec.ofInt 64 (b : Int)).toNat : Int) = _
  rw [BitVec.toNat_and, ofInt_u64 a (by omega), ofInt_u64 b (by omega)]
  exact IntWalk.i64_in _ (by omega)
/-- One more list is in order. -/
theorem ordK_succ {L : List (List Int)} {S : List Nat} {k : Nat} (h : ordK L S k) (h1 : 1 ≤ k → before (L.getD (k-1) []) (L.getD k []) = true) (h2 : ∀ j, j < k → S.getD k 0 &&& S.getD j 0 ≠ S.getD k 0 ∧ S.getD k 0 &&& S.getD j 0 ≠ S.getD j 0) : ordK L S (k+1) := fun i hi => by
  by_cases e : i = k
  · subst e; exact ⟨h1, h2⟩
  · exact h i (by omega)

set_option maxRecDepth 20000 in
set_option maxHeartbeats 8000000 in
theorem gmGood_any (m : Int) (A : Option Addr) (n cap : Nat) (L : List (List Int)) (w : World) (hl : n ≤ 1048576) (hcap : n ≤ cap) (hk : ListsR w A n L) :
    Calls Try.prog 65 #[.agg #[.int .i64 m, .slice A n cap]] w fun e w' => e = .returned (.bool (goodG m L)) ∧ Below w.heap.size w w' := by
  have HK := Lib.hid hk
  have HLEN := Lib.hid hk.1
  clear hk
  have hx := BoxT.new 28 w (.int .i64 m) (.slice A n cap)
  have hb0 := below1 w (.cells #[.int .i64 m, .slice A n cap] 28)
  obtain ⟨c0, c1⟩ := hx.cells
  cases hsb : setsB m L 126 with
  | false =>
    have HG := Lib.hid (goodG_no (m := m) (L := L) (fun h => by rw [hsb] at h; cases h.1))
    have HSB := Lib.hid hsb
    clear hsb
    go_enter Try.func65, Try.ntmps65
    go_wp2_with fail
    refine (gmSets_any m A n cap L 126 _ hl (HK.out.now hb0).lists).mono ?_
    rintro e w1 ⟨rfl, hb1⟩
    rw [HSB.out]
    go_wp2
    go_ret
    exact ⟨by rw [HG.out]; rfl, bfrom hb0 hb1⟩
  | true =>
    obtain ⟨q, rfl, hq1, hq9, hn1, hn126, hrows⟩ := setsB_parts hsb
    rw [HLEN.out] at hn1 hn126
    have HSB := Lib.hid hsb
    have hq10 : q < 10 := by omega
    have hq512 := pow_lt hq9
    have HROW := Lib.hid (show ∀ i, i < n → (L.getD i []).length ≠ 0 ∧ RiseK q (L.getD i []) (L.getD i []).length ∧ (setsN L).getD i 0 = ofK (L.getD i []) (L.getD i []).length from fun i hi => by
      have h := rowsB_row hrows (l := L.getD i []) (by rw [List.getD_eq_getElem?_getD, List.getElem?_eq_getElem (by rw [HLEN.out]; exact hi)]; exact List.getElem_mem _)
      exact ⟨h.1, h.2, setsN_at (by rw [HLEN.out]; exact hi)⟩)
    have HVB := Lib.hid (show ∀ i, i < n → (setsN L).getD i 0 < 512 ∧ ∀ A' cap W, Known W A' (L.getD i []).length (L.getD i []) → (L.getD i []).length ≤ 1048576 → Calls Try.prog 69 #[.slice A' (L.getD i []).length cap] W (fun e w' => e = .returned (.int .i64 ((setsN L).getD i 0 : Nat)) ∧ W = w') from fun i hi => by
      obtain ⟨h0, h1, h2⟩ := HROW.out i hi
      rw [h2]
      exact ⟨by have := ofK_lt h1; omega, fun A' cap W hk hm => voBits_known q A' _ cap _ W hq10 h0 (by omega) h1 hk⟩)
    have HNO := Lib.hid (fun (h : ¬ ordK L (setsN L) n) => goodG_no (m := (q : Int)) (L := L) (fun h2 => h (by rw [← HLEN.out]; exact h2.2)))
    have HYES := Lib.hid (fun (h : ordK L (setsN L) n) => goodG_split.2 ⟨hsb, by rw [HLEN.out]; exact h⟩)
    clear hsb hrows
    go_enter Try.func65, Try.ntmps65
    go_wp2_with fail
    refine (gmSets_any q A n cap L 126 _ hl (HK.out.now hb0).lists).mono ?_
    rintro e w1 ⟨rfl, hb1⟩
    rw [HSB.out]
    have hx1 := hx.now hb1
    have g1 := bfrom hb0 hb1
    have HK1 := Lib.hid (HK.out.now g1)
    have hz1 : w.heap.size < w1.heap.size := hx1.lt
    have HX := Lib.hid hx1
    clear c0 c1 hx hx1
    obtain ⟨c0, c1⟩ := HX.out.cells
    go_wp2_with fail
    go_loopw [3, 4, 5, 18] (fun _ _ _ i wr => ∃ j : Nat, j ≤ n ∧ i = .int .i64 j ∧ ordK L (setsN L) j ∧ Below w1.heap.size w1 wr) (fun _ _ _ i _ => n - (intOf i).toNat)
    case atStart => exact ⟨0, Nat.zero_le _, rfl, fun i hi => by omega, Below.refl _ _⟩
    case round =>
      obtain ⟨j, hj, rfl, hord, hb⟩ := hrel
      have HO := Lib.hid hord
      clear hord
      have HXR := Lib.hid (HX.out.now hb)
      obtain ⟨d0, d1⟩ := HXR.out.cells
      by_cases hlt : j < n
      · obtain ⟨g, v, rfl, hg, hcell, hml, hri⟩ := (HK1.out.now hb).2 j hlt
        have HRI := Lib.hid hri
        obtain ⟨A', cap', hv, hkn⟩ := RI.known hri
        have HKN := Lib.hid hkn
        clear hkn hri
        obtain ⟨hs512, hvb⟩ := HVB.out j hlt
        have HVJ := Lib.hid hvb
        clear hvb
        have HOS := Lib.hid (ordK_succ HO.out)
        have HRW := Lib.hid (show ∀ W, Below w1.heap.size w1 W → ∀ t, t < j → ∃ B c, W.cell? ⟨g, t, none⟩ = some (.slice B (L.getD t []).length c) ∧ (L.getD t []).length ≤ 1048576 ∧ Known W B (L.getD t []).length (L.getD t []) from fun W hW t ht => by
          obtain ⟨g', v', hA, _, hc, hm', hr'⟩ := (HK1.out.now hW).2 t (by omega)
          obtain ⟨B, c, rfl, hk'⟩ := RI.known hr'
          obtain rfl : g = g' := by simpa using hA
          exact ⟨B, c, hc, hm', hk'⟩)
        by_cases hj0 : j = 0
        · have hj1 : j ≤ 0 := by omega
          have HS := Lib.hid (HOS.out (fun h => by omega) (fun t h => by omega))
          generalize (setsN L).getD j 0 = s at *
          generalize L.getD j [] = row at *
          generalize row.length = p at *
          subst hv
          subst hj0
          clear HOS
          go_wp2_with (go_at_call 69; refine (HVJ.out A' cap' _ HKN.out hml).mono ?_; rintro e w' ⟨rfl, rfl⟩)
          refine wp_loop_rounds 1 ?_
          rw [rounds_succ]
          go_wp2
          go_roundw
          case rel => exact ⟨1, by omega, by go_num, HS.out, hb⟩
          case measure => simp [intOf]; omega
        · obtain ⟨i, rfl⟩ : ∃ i, j = i + 1 := ⟨j - 1, by omega⟩
          obtain ⟨g', v2, hA2, _, hcell2, hml2, hri2⟩ := (HK1.out.now hb).2 i (by omega)
          obtain rfl : g = g' := by simpa using hA2
          have HRI2 := Lib.hid hri2
          obtain ⟨B2, c2, hv2, _⟩ := RI.known hri2
          clear hri2 hA2 hj0
          have HBF := Lib.hid (fun W h1 h2 => voBefore_any v2 v (L.getD i []) (L.getD (i+1) []) W hml2 hml h1 h2)
          have HROWS := Lib.hid (show ∀ t, t < i + 1 → t < n from fun t h => by omega)
          cases hbf : before (L.getD i []) (L.getD (i+1) []) with
          | false =>
            have HG := Lib.hid (HNO.out (fun h => by
              have := (h (i+1) hlt).1 (by omega)
              simp only [Nat.add_sub_cancel] at this
              rw [hbf] at this; cases this))
            rw [hbf] at HBF
            clear hbf HOS HVJ HRW
            generalize L.getD i [] = row2 at *
            generalize L.getD (i+1) [] = row at *
            generalize row.length = p at *
            generalize row2.length = p2 at *
            subst hv
            subst hv2
            go_wp2_with (go_at_call 104; refine (HBF.out _ HRI2.out HRI.out).mono ?_; rintro e w5 ⟨rfl, hb5⟩)
            go_ret
            exact ⟨by rw [HG.out]; rfl, bfrom g1 (bfrom hb hb5)⟩
          | true =>
            have HOS2 := Lib.hid (fun h => HOS.out (fun _ => by simp only [Nat.add_sub_cancel]; exact hbf) h)
            have HVT := Lib.hid HVB.out
            have HNT := Lib.hid (fun t (ht : t < i + 1) (h : (setsN L).getD (i+1) 0 &&& (setsN L).getD t 0 = (setsN L).getD (i+1) 0 ∨ (setsN L).getD (i+1) 0 &&& (setsN L).getD t 0 = (setsN L).getD t 0) => HNO.out (fun ho => by
              have := (ho (i+1) hlt).2 t ht
              rcases h with h | h
              · exact this.1 h
              · exact this.2 h))
            rw [hbf] at HBF
            clear hbf HOS
            generalize (setsN L).getD (i+1) 0 = s at *
            generalize L.getD (i+1) [] = row at *
            generalize row.length = p at *
            have HL2 := Lib.hid (show ∃ p2, p2 = (L.getD i []).length from ⟨_, rfl⟩)
            obtain ⟨p2, hp2⟩ := HL2.out
            rw [← hp2] at hv2
            clear hp2 HL2 hml2
            subst hv
            subst hv2
            have hicap : i + 1 ≤ cap := by omega
            go_wp2_with (first
              | (go_at_call 104; refine (HBF.out _ HRI2.out HRI.out).mono ?_; rintro e w5 ⟨rfl, hb5⟩; have hb15 := bfrom hb hb5; have HK5 := Lib.hid (HKN.out.now hb5); clear d0 d1; obtain ⟨d0, d1⟩ := (HXR.out.now hb5).cells)
              | (go_at_call 69; refine (HVJ.out A' cap' _ HK5.out hml).mono ?_; rintro e w' ⟨rfl, rfl⟩))
            go_loopw [7, 8, 43] (fun _ _ k wi => ∃ t : Nat, t ≤ i + 1 ∧ k = .int .i64 t ∧ (∀ u, u < t → s &&& (setsN L).getD u 0 ≠ s ∧ s &&& (setsN L).getD u 0 ≠ (setsN L).getD u 0) ∧ wi = w5) (fun _ _ k _ => i + 1 - (intOf k).toNat)
            case atStart => exact ⟨0, Nat.zero_le _, rfl, fun u h => by omega, rfl⟩
            case round =>
              obtain ⟨t, ht, rfl, hds, rfl⟩ := hrel
              have HDS := Lib.hid hds
              clear hds
              by_cases hlt2 : t < i + 1
              · obtain ⟨B, c, hcell3, hml3, hkn3⟩ := HRW.out _ hb15 t hlt2
                obtain ⟨hu512, hvb3⟩ := HVT.out t (by omega)
                have HV3 := Lib.hid (hvb3 B c _ hkn3 hml3)
                have HNN := Lib.hid (HNT.out t hlt2)
                clear hkn3 hvb3 hml3
                obtain ⟨u, hu⟩ : ∃ u, u = (setsN L).getD t 0 := ⟨_, rfl⟩
                rw [← hu] at hu512 HV3 HNN
                have HU := Lib.hid hu
                clear hu
                generalize (L.getD t []).length = p3 at *
                have hand := i64_and_nat s u hs512 hu512
                have HBITS := Lib.hid hand
                by_cases e1 : s &&& u = s
                · have HG := Lib.hid (HNN.out (Or.inl e1))
                  rw [e1] at hand
                  clear e1
                  go_wp2_with (go_at_call 69; refine HV3.out.mono ?_; rintro e w' ⟨rfl, rfl⟩)
                  go_ret
                  exact ⟨by rw [HG.out]; rfl, bfrom g1 hb15⟩
                · by_cases e2 : s &&& u = u
                  · have HG := Lib.hid (HNN.out (Or.inr e2))
                    have hne : ((u : Int) == (s : Int)) = false := beq_false_of_ne (by rw [e2] at e1; omega)
                    rw [e2] at hand
                    clear e1 e2
                    go_wp2_with (go_at_call 69; refine HV3.out.mono ?_; rintro e w' ⟨rfl, rfl⟩)
                    go_ret
                    exact ⟨by rw [HG.out]; rfl, bfrom g1 hb15⟩
                  · have HD2 := Lib.hid (show ∀ x, x < t + 1 → s &&& (setsN L).getD x 0 ≠ s ∧ s &&& (setsN L).getD x 0 ≠ (setsN L).getD x 0 from fun x hx => by
                      by_cases e : x = t
                      · subst e; rw [← HU.out]; exact ⟨e1, e2⟩
                      · exact HDS.out x (by omega))
                    generalize s &&& u = z at *
                    have hne : ((z : Int) == (s : Int)) = false := beq_false_of_ne (by omega)
                    have hne2 : ((z : Int) == (u : Int)) = false := beq_false_of_ne (by omega)
                    clear e1 e2
                    go_wp2_with (go_at_call 69; refine HV3.out.mono ?_; rintro e w' ⟨rfl, rfl⟩)
                    go_roundw
                    case rel => exact ⟨t + 1, by omega, by go_num, HD2.out, trivial⟩
                    case measure => simp [intOf]; omega
              · obtain rfl : t = i + 1 := by omega
                have HS := Lib.hid (HOS2.out HDS.out)
                go_wp2
                go_roundw
                case rel => exact ⟨i + 2, by omega, by go_num, HS.out, hb15⟩
                case measure => simp [intOf]; omega
      · obtain rfl : n = j := by omega
        have HG := Lib.hid (HYES.out HO.out)
        go_wp2
        go_ret
        exact ⟨by rw [HG.out]; rfl, bfrom g1 hb⟩

set_option maxHeartbeats 1000000 in
theorem sIsGame_any (m : Int) (A : Option Addr) (n cap : Nat) (L : List (List Int)) (w : World) (hl : n ≤ 1048576) (hcap : n ≤ cap) (hk : ListsR w A n L) :
    Calls Try.prog 25 #[.agg #[.int .i64 m, .slice A n cap]] w fun e w' => e = .returned (.bool (goodG m L)) ∧ Below w.heap.size w w' := by
  have HK := Lib.hid (hk.now (below1 w (.cells #[.int .i64 m, .slice A n cap] 28)))
  clear hk
  have hx := BoxT.new 28 w (.int .i64 m) (.slice A n cap)
  have hb0 := below1 w (.cells #[.int .i64 m, .slice A n cap] 28)
  obtain ⟨c0, c1⟩ := hx.cells
  go_enter Try.func25, Try.ntmps25
  go_wp2_with fail
  refine (gmGood_any m A n cap L _ hl hcap HK.out).mono ?_
  rintro e w1 ⟨rfl, hb1⟩
  go_wp2
  go_ret
  exact ⟨rfl, bfrom hb0 hb1⟩
end Go.Proofs.Ythjooblibkckmaa
