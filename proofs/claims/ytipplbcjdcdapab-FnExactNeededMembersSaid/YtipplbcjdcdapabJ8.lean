/- Contracts of the model's IdleMembers and NeededMembers. -/
import Derived.Test.YtipplbcjdcdapabJ2
import Derived.Test.YtipplbcjdcdapabJ7
import Derived.Outline
namespace Go.Proofs.Ytipplbcjdcdapab
open Go.RowKit Vo

theorem i64_or_nat (a b : Nat) (ha : a < 512) (hb : b < 512) : bits BinOp.or IntKind.i64 (a : Int) (b : Int) = ((a ||| b : Nat) : Int) := by
  have hx : a ||| b < 2 ^ 9 := Nat.or_lt_two_pow (by omega) (by omega)
  show IntKind.i64.wrap ((BitVec.ofInt 64 (a : Int) ||| BitVec.ofInt 64 (b : Int)).toNat : Int) = _
  rw [BitVec.toNat_or, ofInt_u64 a (by omega), ofInt_u64 b (by omega)]
  exact IntWalk.i64_in _ (by omega)

set_option maxRecDepth 20000 in
set_option maxHeartbeats 4000000 in
theorem sNeededMembers_any (m : Int) (A : Option Addr) (n cap : Nat) (L : List (List Int)) (w : World) (hl : n ≤ 1048576) (hcap : n ≤ cap) (hk : ListsR w A n L) :
    Calls Try.prog 7 #[.agg #[.int .i64 m, .slice A n cap]] w fun e w' => Ans (RS (neededL m L)) (goodG m L) w w' e := by
  have HK := Lib.hid (hk.now (below1 w (.cells #[.int .i64 m, .slice A n cap] 29)))
  have HLEN := Lib.hid hk.1
  clear hk
  have hx := BoxT.new 29 w (.int .i64 m) (.slice A n cap)
  have hb0 := below1 w (.cells #[.int .i64 m, .slice A n cap] 29)
  obtain ⟨c0, c1⟩ := hx.cells
  cases hg : goodG m L with
  | true =>
    obtain ⟨h1, h9, _, hr, _⟩ := goodG_parts hg
    obtain ⟨q, rfl⟩ : ∃ q : Nat, m = q := ⟨m.toNat, by omega⟩
    rw [Int.toNat_natCast] at hr
    have hq9 : q ≤ 9 := by omega
    have hq10 : q < 10 := by omega
    have h512 := pow_lt hq9
    have HGB := Lib.hid hg
    have HCN := Lib.hid (show neededL (q : Int) L = mem (andK (2^q-1) (setsN L) n) 9 from by rw [neededL_yes hg, HLEN.out])
    have hSN : n = (setsN L).length := by rw [← HLEN.out]; simp [setsN]
    have HVB := Lib.hid (show ∀ i, i < n → (setsN L).getD i 0 < 512 ∧ ∀ A' cap W, Known W A' (L.getD i []).length (L.getD i []) → (L.getD i []).length ≤ 1048576 → Calls Try.prog 26 #[.slice A' (L.getD i []).length cap] W (fun e w' => e = .returned (.int .i64 ((setsN L).getD i 0 : Nat)) ∧ W = w') from fun i hi => by
      have h := rowsB_row hr (l := L.getD i []) (by rw [List.getD_eq_getElem?_getD, List.getElem?_eq_getElem (by rw [HLEN.out]; exact hi)]; exact List.getElem_mem _)
      have h2 := setsN_at (L := L) (i := i) (by rw [HLEN.out]; exact hi)
      rw [h2]
      exact ⟨by have := ofK_lt h.2; omega, fun A' cap W hk hm => voBits_known q A' _ cap _ W hq10 h.1 (by omega) h.2 hk⟩)
    have HVL := Lib.hid (show ∀ k, k ≤ n → andK (2^q-1) (setsN L) k ≤ 2^q - 1 from fun k hk => andK_le _ _ k)
    have HSS := Lib.hid (show ∀ j, andK (2^q-1) (setsN L) (j+1) = andK (2^q-1) (setsN L) j &&& (setsN L).getD j 0 from fun _ => rfl)
    have HCO := Lib.hid (show ∀ x, co q x = 2^q - 1 - x from fun _ => rfl)
    have hpos := Nat.two_pow_pos q
    clear hg hr hSN
    obtain ⟨D, hD⟩ : ∃ D : Nat → Nat, D = andK (2^q-1) (setsN L) := ⟨_, rfl⟩
    rw [← hD] at HVL HSS HCN
    have HD0 := Lib.hid (show D 0 = 2^q-1 from by rw [hD]; rfl)
    clear hD
    go_enter Try.func7, Try.ntmps7
    go_wp2_with fail
    refine (gmGood_any q A n cap L _ hl hcap HK.out).mono ?_
    rintro e w1 ⟨rfl, hb1⟩
    rw [HGB.out]
    have g1 := bfrom hb0 hb1
    have HX := Lib.hid (hx.now hb1)
    have HK1 := Lib.hid (HK.out.now hb1).lists
    have hz1 := g1.size
    clear c0 c1 hx
    obtain ⟨c0, c1⟩ := HX.out.cells
    go_wp2_with fail
    refine (voAll_any q _ hq10).mono ?_
    rintro e w2 ⟨rfl, rfl⟩
    rw [← HD0.out]
    go_wp2_with fail
    go_loopw [4, 6, 16] (fun v _ i wr => ∃ j : Nat, j ≤ n ∧ i = .int .i64 j ∧ v = .int .i64 (D j : Nat) ∧ wr = w1) (fun _ _ i _ => n - (intOf i).toNat)
    case atStart => exact ⟨0, Nat.zero_le _, rfl, by rfl, rfl⟩
    case round =>
      obtain ⟨j, hj, rfl, rfl, rfl⟩ := hrel
      have hdj := HVL.out j hj
      by_cases hlt : j < n
      · obtain ⟨g, A', cap', rfl, hgl, hcell, hml, hkn⟩ := HK1.out.2 j hlt
        obtain ⟨hu512, hvb⟩ := HVB.out j hlt
        have HV := Lib.hid (hvb A' cap' _ hkn hml)
        have HST := Lib.hid (show bits BinOp.and IntKind.i64 (D j : Nat) ((setsN L).getD j 0 : Nat) = (D (j+1) : Nat) from by
          rw [HSS.out j]; exact i64_and_nat _ _ (by omega) hu512)
        obtain ⟨d', hd'⟩ : ∃ d', d' = D (j+1) := ⟨_, rfl⟩
        rw [← hd'] at HST
        have HD' := Lib.hid hd'
        clear hd' hkn hvb
        generalize (setsN L).getD j 0 = s at *
        generalize (L.getD j []).length = p at *
        generalize D j = d at *
        go_wp2_with (go_at_call 26; refine HV.out.mono ?_; rintro e w' ⟨rfl, rfl⟩)
        go_roundw
        case rel => exact ⟨j + 1, by omega, by go_num, by rw [HST.out, HD'.out], trivial⟩
        case measure => simp [intOf]; omega
      · obtain rfl : j = n := by omega
        obtain ⟨d, hd⟩ : ∃ d, d = D j := ⟨_, rfl⟩
        rw [← hd] at HCN hdj ⊢
        have hd5 : d < 512 := by omega
        clear hd
        go_wp2_with fail
        refine (voList_any d _ hd5).mono ?_
        rintro e w4 ⟨A4, cp4, rfl, hown4, hb4⟩
        have HO4 := Lib.hid hown4
        clear hown4
        go_wp2
        go_ret2
        refine ⟨.slice A4 (mem d 9).length cp4, rfl, ?_, bfrom g1 hb4⟩
        rw [HCN.out]
        exact RS.lies (RS.of_own (owns_less HO4.out hz1)) (Nat.le_refl _)
  | false =>
    have HGB := Lib.hid hg
    have HCN := Lib.hid (neededL_no hg)
    clear hg
    go_enter Try.func7, Try.ntmps7
    go_wp2_with fail
    refine (gmGood_any m A n cap L _ hl hcap HK.out).mono ?_
    rintro e w1 ⟨rfl, hb1⟩
    rw [HGB.out]
    go_wp2
    go_ret2
    rw [HCN.out]
    exact Ans.noInts (bfrom hb0 hb1)
end Go.Proofs.Ytipplbcjdcdapab
