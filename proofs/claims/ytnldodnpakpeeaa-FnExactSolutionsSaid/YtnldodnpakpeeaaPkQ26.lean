/- Texts of I6, I4. -/
import Derived.Outline
import Derived.Test.YtnldodnpakpeeaaPkQ25
import Derived.Test.YtnldodnpakpeeaaPkQ11
import Derived.Test.YtnldodnpakpeeaaPkQ06
namespace Go.Proofs.Ytnldodnpakpeeaa
open Go.RowKit Vo

/-- What the model needs of a game's lists. -/
def ListsR (w : World) (A : Option Addr) (n : Nat) (L : List (List Int)) : Prop :=
  L.length = n ∧ ∀ i, i < n → ∃ g v, A = some ⟨g, 0, none⟩ ∧ g < w.heap.size ∧ w.cell? ⟨g, i, none⟩ = some v ∧ (L.getD i []).length ≤ 1048576 ∧ RI (L.getD i []) 0 w.heap.size v w
theorem ListsR.now {w w' : World} {A : Option Addr} {n : Nat} {L : List (List Int)} (h : ListsR w A n L) (hb : Below w.heap.size w w') : ListsR w' A n L := by
  refine ⟨h.1, fun i hi => ?_⟩
  obtain ⟨g, v, hA, hg, hc, hm, hk⟩ := h.2 i hi
  exact ⟨g, v, hA, Nat.lt_of_lt_of_le hg hb.size, (hb.cell (p := ⟨g, i, none⟩) hg).trans hc, hm, hk.up hb⟩
theorem ListsR.lists {w : World} {A : Option Addr} {n : Nat} {L : List (List Int)} (h : ListsR w A n L) : Lists w A n L := by
  refine ⟨h.1, fun i hi => ?_⟩
  obtain ⟨g, v, hA, hg, hc, hm, hk⟩ := h.2 i hi
  obtain ⟨A', cap, rfl, hk'⟩ := RI.known hk
  exact ⟨g, A', cap, hA, hg, hc, hm, hk'⟩
theorem RSS0.listsR {L : List (List Int)} {lo hi : Nat} {A : Option Addr} {n cap : Nat} {w : World} (hn : L.length = n) (ht : tot L + L.length ≤ 1048576) (hh : hi ≤ w.heap.size) (h : RSS0 L lo hi (.slice A n cap) w) : ListsR w A n L := by
  refine ⟨hn, fun i hi => ?_⟩
  obtain ⟨A1, c1, hv, h⟩ := h
  obtain ⟨rfl, _, _⟩ : A = A1 ∧ n = L.length ∧ cap = c1 := by simpa using hv
  rcases h with h | ⟨g, f, hA, _, _, ho, h⟩
  · omega
  · exact ⟨g, f i, hA, ho.lt, by rw [ho.cell (by omega)], by have := tot_row (L := L) rfl (show i < L.length by omega); omega, (h i (by omega)).wide (Or.inr ⟨Nat.zero_le _, hh⟩)⟩

set_option maxHeartbeats 1000000 in
theorem voSet_known (n : Nat) (A : Option Addr) (m cap : Nat) (xs : List Int) (w : World) (hn : n < 10) (h0 : m ≠ 0) (hm : m ≤ 9223372036854775807) (hk : Known w A m xs) :
    Calls Try.prog 157 #[.int .i64 n, .slice A m cap] w fun e w' => e = .returned (.bool (riseB n xs m)) ∧ w = w' := by
  obtain ⟨b, off, rfl, hsl⟩ := hk.get (by omega)
  exact voSet_any n b off m cap xs w hn hm hsl
theorem voBits_known (n : Nat) (A : Option Addr) (m cap : Nat) (xs : List Int) (w : World) (hn : n < 10) (h0 : m ≠ 0) (hm : m ≤ 9223372036854775807) (hr : RiseK n xs m) (hk : Known w A m xs) :
    Calls Try.prog 115 #[.slice A m cap] w fun e w' => e = .returned (.int .i64 (ofK xs m : Nat)) ∧ w = w' := by
  obtain ⟨b, off, rfl, hsl⟩ := hk.get (by omega)
  exact voBits_any n b off m cap xs w hn hm hr hsl

/-- What the model asks of some sets. -/
def setsB (m : Int) (L : List (List Int)) (most : Int) : Bool := inB m 1 9 && (inB (L.length : Int) 1 most && rowsB m.toNat L)
theorem setsB_small {m : Int} {L : List (List Int)} {most : Int} (h : ¬ (1 ≤ m ∧ m ≤ 9)) : setsB m L most = false := by unfold setsB; rw [inB_no h]; rfl
theorem setsB_long {m : Int} {L : List (List Int)} {most : Int} (h : ¬ (1 ≤ (L.length : Int) ∧ (L.length : Int) ≤ most)) : setsB m L most = false := by unfold setsB; rw [inB_no h]; simp
theorem setsB_rows {q : Nat} {L : List (List Int)} {most : Int} (h1 : 1 ≤ (q : Int)) (h9 : (q : Int) ≤ 9) (h2 : 1 ≤ (L.length : Int)) (h3 : (L.length : Int) ≤ most) : setsB (q : Int) L most = rowsB q L := by
  unfold setsB; rw [inB_yes h1 h9, inB_yes h2 h3]; simp

set_option maxRecDepth 20000 in
set_option maxHeartbeats 4000000 in
theorem gmSets_any (m : Int) (A : Option Addr) (n cap : Nat) (L : List (List Int)) (most : Int) (w : World) (hl : n ≤ 1048576) (hk : Lists w A n L) :
    Calls Try.prog 113 #[.int .i64 m, .slice A n cap, .int .i64 most] w fun e w' => e = .returned (.bool (setsB m L most)) ∧ Below w.heap.size w w' := by
  have HK := Lib.hid hk
  have HLEN := Lib.hid hk.1
  clear hk
  by_cases hmm : 1 ≤ m ∧ m ≤ 9
  · obtain ⟨q, rfl⟩ : ∃ q : Nat, m = q := ⟨m.toNat, by omega⟩
    have hq9 : q ≤ 9 := by omega
    have hq10 : q < 10 := by omega
    have HIN := Lib.hid (inB_yes hmm.1 hmm.2)
    by_cases hnn : 1 ≤ (n : Int) ∧ (n : Int) ≤ most
    · have HIN2 := Lib.hid (inB_yes hnn.1 hnn.2)
      have HSB := Lib.hid (setsB_rows (L := L) (most := most) hmm.1 hmm.2 (by rw [HLEN.out]; exact hnn.1) (by rw [HLEN.out]; exact hnn.2))
      have HRT := Lib.hid (fun j (h : j < n) => rowsB_take q L j (by rw [HLEN.out]; exact h))
      have HRF := Lib.hid (fun j (h : j < n) (hf : (decide ((L.getD j []).length ≠ 0) && riseB q (L.getD j []) (L.getD j []).length) = false) => rowsB_false (n := q) (L := L) (j := j) (by rw [HLEN.out]; exact h) hf)
      clear hmm hnn
      go_enter Try.func113, Try.ntmps113
      go_wp2_with fail
      refine (l1In_any q 1 9 _).mono ?_
      rintro e w1 ⟨rfl, rfl⟩
      rw [HIN.out]
      go_wp2_with fail
      refine (l1In_any n 1 most _).mono ?_
      rintro e w1 ⟨rfl, rfl⟩
      rw [HIN2.out]
      go_wp2_with fail
      go_loopw [8, 21] (fun _ i wr => ∃ j : Nat, j ≤ n ∧ i = .int .i64 j ∧ rowsB q (L.take j) = true ∧ Below w.heap.size w wr) (fun _ i _ => n - (intOf i).toNat)
      case atStart => exact ⟨0, Nat.zero_le _, rfl, rfl, Below.refl _ _⟩
      case round =>
        obtain ⟨j, hj, rfl, hrows, hb⟩ := hrel
        have HR := Lib.hid hrows
        clear hrows
        by_cases hlt : j < n
        · obtain ⟨g, A', cap', rfl, hg, hcell, hml, hkn⟩ := (HK.out.now hb).2 j hlt
          have HKN := Lib.hid hkn
          have HRT2 := Lib.hid (HRT.out j hlt)
          have HRF2 := Lib.hid (HRF.out j hlt)
          obtain ⟨row, hrw⟩ : ∃ row, row = L.getD j [] := ⟨_, rfl⟩
          rw [← hrw] at hcell HKN HRT2 HRF2 hml
          obtain ⟨p, hpp⟩ : ∃ p, p = row.length := ⟨_, rfl⟩
          rw [← hpp] at hcell HKN HRT2 HRF2 hml
          clear hkn hrw hpp
          by_cases hz : p = 0
          · have HF := Lib.hid (HRF2.out (by rw [hz]; rfl))
            subst hz
            go_wp2
            go_ret
            exact ⟨by rw [HSB.out, HF.out]; rfl, hb⟩
          · have hp0 : ((p : Int) == 0) = false := beq_false_of_ne (by omega)
            have HV := Lib.hid (fun W h => voSet_known q A' p cap' row W hq10 hz (by omega) h)
            cases hrb : riseB q row p with
            | true =>
              rw [hrb] at HV HRT2
              have HOK := Lib.hid (show rowsB q (L.take (j+1)) = true from by rw [HRT2.out, HR.out]; simp [hz])
              clear hz hrb
              go_wp2_with (go_at_call 157; refine (HV.out _ HKN.out).mono ?_; rintro e w' ⟨rfl, rfl⟩)
              go_roundw
              case rel => exact ⟨j + 1, by omega, by go_num, HOK.out, hb⟩
              case measure => simp [intOf]; omega
            | false =>
              rw [hrb] at HV HRF2
              have HF := Lib.hid (HRF2.out (by simp))
              clear hz hrb
              go_wp2_with (go_at_call 157; refine (HV.out _ HKN.out).mono ?_; rintro e w' ⟨rfl, rfl⟩)
              go_ret
              exact ⟨by rw [HSB.out, HF.out]; rfl, hb⟩
        · obtain rfl : n = j := by omega
          have HT := Lib.hid (show L.take n = L from by rw [← HLEN.out, List.take_length])
          rw [HT.out] at HR
          go_wp2
          go_ret
          exact ⟨by rw [HSB.out, HR.out]; rfl, hb⟩
    · have HIN2 := Lib.hid (inB_no hnn)
      have HSB := Lib.hid (setsB_long (m := (q : Int)) (L := L) (most := most) (by rw [HLEN.out]; exact hnn))
      clear hmm hnn
      go_enter Try.func113, Try.ntmps113
      go_wp2_with fail
      refine (l1In_any q 1 9 _).mono ?_
      rintro e w1 ⟨rfl, rfl⟩
      rw [HIN.out]
      go_wp2_with fail
      refine (l1In_any n 1 most _).mono ?_
      rintro e w1 ⟨rfl, rfl⟩
      rw [HIN2.out]
      go_wp2
      go_ret
      exact ⟨by rw [HSB.out]; rfl, Below.refl _ _⟩
  · have HIN := Lib.hid (inB_no hmm)
    have HSB := Lib.hid (setsB_small (L := L) (most := most) hmm)
    clear hmm
    go_enter Try.func113, Try.ntmps113
    go_wp2_with fail
    refine (l1In_any m 1 9 _).mono ?_
    rintro e w1 ⟨rfl, rfl⟩
    rw [HIN.out]
    go_wp2
    go_ret
    exact ⟨by rw [HSB.out]; rfl, Below.refl _ _⟩

theorem goodG_split {m : Int} {L : List (List Int)} : goodG m L = true ↔ setsB m L 126 = true ∧ ordK L (setsN L) L.length := by
  constructor
  · intro h
    unfold goodG at h
    simp only [Bool.and_eq_true, decide_eq_true_eq] at h
    obtain ⟨⟨h1, h9, hL⟩, hr, hs⟩ := h
    have hn : m.toNat ≤ 9 := by omega
    refine ⟨?_, (ordK_sets hn hr).2 hs⟩
    have h126 := game_126 hn hr hs
    have h0 : 1 ≤ L.length := by cases L with
      | nil => exact absurd rfl hL
      | cons a l => simp
    unfold setsB
    rw [inB_yes h1 h9, inB_yes (by omega) (by omega), hr]; rfl
  · rintro ⟨h1, h2⟩
    unfold setsB at h1
    simp only [Bool.and_eq_true] at h1
    obtain ⟨ha, hb, hr⟩ := h1
    have hm : 1 ≤ m ∧ m ≤ 9 := by
      by_cases h : 1 ≤ m ∧ m ≤ 9
      · exact h
      · rw [inB_no h] at ha; cases ha
    have hl : 1 ≤ (L.length : Int) := by
      by_cases h : 1 ≤ (L.length : Int) ∧ (L.length : Int) ≤ 126
      · exact h.1
      · rw [inB_no h] at hb; cases hb
    have hs := (ordK_sets (by omega : m.toNat ≤ 9) hr).1 h2
    unfold goodG
    rw [hr, decide_eq_true hs, decide_eq_true (show 1 ≤ m ∧ m ≤ 9 ∧ L ≠ [] from ⟨hm.1, hm.2, fun e => by rw [e] at hl; simp at hl⟩)]; rfl
theorem goodG_no {m : Int} {L : List (List Int)} (h : ¬ (setsB m L 126 = true ∧ ordK L (setsN L) L.length)) : goodG m L = false := by
  cases hg : goodG m L
  · rfl
  · exact absurd (goodG_split.1 hg) h
theorem setsB_parts {m : Int} {L : List (List Int)} {most : Int} (h : setsB m L most = true) : ∃ q : Nat, m = q ∧ 1 ≤ q ∧ q ≤ 9 ∧ 1 ≤ L.length ∧ (L.length : Int) ≤ most ∧ rowsB q L = true := by
  unfold setsB at h
  simp only [Bool.and_eq_true] at h
  obtain ⟨ha, hb, hr⟩ := h
  have hm : 1 ≤ m ∧ m ≤ 9 := by
    by_cases h : 1 ≤ m ∧ m ≤ 9
    · exact h
    · rw [inB_no h] at ha; cases ha
  have hl : 1 ≤ (L.length : Int) ∧ (L.length : Int) ≤ most := by
    by_cases h : 1 ≤ (L.length : Int) ∧ (L.length : Int) ≤ most
    · exact h
    · rw [inB_no h] at hb; cases hb
  exact ⟨m.toNat, by omega, by omega, by omega, by omega, hl.2, hr⟩
theorem setsN_at {L : List (List Int)} {i : Nat} (h : i < L.length) : (setsN L).getD i 0 = ofK (L.getD i []) (L.getD i []).length := by
  unfold setsN
  rw [List.getD_eq_getElem?_getD, List.getElem?_map, List.getElem?_eq_getElem h, List.getD_eq_getElem?_getD, List.getElem?_eq_getElem h]; rfl
end Go.Proofs.Ytnldodnpakpeeaa

namespace Go.Proofs.Ytnldodnpakpeeaa
open Go.RowKit Vo

theorem i64_and_nat (a b : Nat) (ha : a < 512) (hb : b < 512) : bits BinOp.and IntKind.i64 (a : Int) (b : Int) = ((a &&& b : Nat) : Int) := by
  have hx : a &&& b < 512 := Nat.lt_of_le_of_lt Nat.and_le_left ha
  show IntKind.i64.wrap ((BitVec.ofInt 64 (a : Int) &&& BitVec.ofInt 64 (b : Int)).toNat : Int) = _
  rw [BitVec.toNat_and, ofInt_u64 a (by omega), ofInt_u64 b (by omega)]
  exact IntWalk.i64_in _ (by omega)
/-- One more list is in order. -/
theorem ordK_succ {L : List (List Int)} {S : List Nat} {k : Nat} (h : ordK L S k) (h1 : 1 ≤ k → before (L.getD (k-1) []) (L.getD k []) = true) (h2 : ∀ j, j < k → S.getD k 0 &&& S.getD j 0 ≠ S.getD k 0 ∧ S.getD k 0 &&& S.getD j 0 ≠ S.getD j 0) : ordK L S (k+1) := fun i hi => by
  by_cases e : i = k
  · subst e; exact ⟨h1, h2⟩
  · exact h i (by omega)

set_option maxRecDepth 20000 in
set_option maxHeartbeats 8000000 in
theorem gmGood_any (m : Int) (A : Option Addr) (n cap : Nat) (L : List (List Int)) (w : World) (hl : n ≤ 1048576) (hcap : n ≤ cap) (hk : ListsR w A n L) :
    Calls Try.prog 68 #[.agg #[.int .i64 m, .slice A n cap]] w fun e w' => e = .returned (.bool (goodG m L)) ∧ Below w.heap.size w w' := by
  have HK := Lib.hid hk
  have HLEN := Lib.hid hk.1
  clear hk
  have hx := BoxT.new 55 w (.int .i64 m) (.slice A n cap)
  have hb0 := below1 w (.cells #[.int .i64 m, .slice A n cap] 55)
  obtain ⟨c0, c1⟩ := hx.cells
  cases hsb : setsB m L 126 with
  | false =>
    have HG := Lib.hid (goodG_no (m := m) (L := L) (fun h => by rw [hsb] at h; cases h.1))
    have HSB := Lib.hid hsb
    clear hsb
    go_enter Try.func68, Try.ntmps68
    go_wp2_with fail
    refine (gmSets_any m A n cap L 126 _ hl (HK.out.now hb0).lists).mono ?_
    rintro e w1 ⟨rfl, hb1⟩
    rw [HSB.out]
    go_wp2
    go_ret
    exact ⟨by rw [HG.out]; rfl, bfrom hb0 hb1⟩
  | true =>
    obtain ⟨q, rfl, hq1, hq9, hn1, hn126, hrows⟩ := setsB_parts hsb
    rw [HLEN.out] at hn1 hn126
    have HSB := Lib.hid hsb
    have hq10 : q < 10 := by omega
    have hq512 := pow_lt hq9
    have HROW := Lib.hid (show ∀ i, i < n → (L.getD i []).length ≠ 0 ∧ RiseK q (L.getD i []) (L.getD i []).length ∧ (setsN L).getD i 0 = ofK (L.getD i []) (L.getD i []).length from fun i hi => by
      have h := rowsB_row hrows (l := L.getD i []) (by rw [List.getD_eq_getElem?_getD, List.getElem?_eq_getElem (by rw [HLEN.out]; exact hi)]; exact List.getElem_mem _)
      exact ⟨h.1, h.2, setsN_at (by rw [HLEN.out]; exact hi)⟩)
    have HVB := Lib.hid (show ∀ i, i < n → (setsN L).getD i 0 < 512 ∧ ∀ A' cap W, Known W A' (L.getD i []).length (L.getD i []) → (L.getD i []).length ≤ 1048576 → Calls Try.prog 115 #[.slice A' (L.getD i []).length cap] W (fun e w' => e = .returned (.int .i64 ((setsN L).getD i 0 : Nat)) ∧ W = w') from fun i hi => by
      obtain ⟨h0, h1, h2⟩ := HROW.out i hi
      rw [h2]
      exact ⟨by have := ofK_lt h1; omega, fun A' cap W hk hm => voBits_known q A' _ cap _ W hq10 h0 (by omega) h1 hk⟩)
    have HNO := Lib.hid (fun (h : ¬ ordK L (setsN L) n) => goodG_no (m := (q : Int)) (L := L) (fun h2 => h (by rw [← HLEN.out]; exact h2.2)))
    have HYES := Lib.hid (fun (h : ordK L (setsN L) n) => goodG_split.2 ⟨hsb, by rw [HLEN.out]; exact h⟩)
    clear hsb hrows
    go_enter Try.func68, Try.ntmps68
    go_wp2_with fail
    refine (gmSets_any q A n cap L 126 _ hl (HK.out.now hb0).lists).mono ?_
    rintro e w1 ⟨rfl, hb1⟩
    rw [HSB.out]
    have hx1 := hx.now hb1
    have g1 := bfrom hb0 hb1
    have HK1 := Lib.hid (HK.out.now g1)
    have hz1 : w.heap.size < w1.heap.size := hx1.lt
    have HX := Lib.hid hx1
    clear c0 c1 hx hx1
    obtain ⟨c0, c1⟩ := HX.out.cells
    go_wp2_with fail
    go_loopw [3, 4, 5, 18] (fun _ _ _ i wr => ∃ j : Nat, j ≤ n ∧ i = .int .i64 j ∧ ordK L (setsN L) j ∧ Below w1.heap.size w1 wr) (fun _ _ _ i _ => n - (intOf i).toNat)
    case atStart => exact ⟨0, Nat.zero_le _, rfl, fun i hi => by omega, Below.refl _ _⟩
    case round =>
      obtain ⟨j, hj, rfl, hord, hb⟩ := hrel
      have HO := Lib.hid hord
      clear hord
      have HXR := Lib.hid (HX.out.now hb)
      obtain ⟨d0, d1⟩ := HXR.out.cells
      by_cases hlt : j < n
      · obtain ⟨g, v, rfl, hg, hcell, hml, hri⟩ := (HK1.out.now hb).2 j hlt
        have HRI := Lib.hid hri
        obtain ⟨A', cap', hv, hkn⟩ := RI.known hri
        have HKN := Lib.hid hkn
        clear hkn hri
        obtain ⟨hs512, hvb⟩ := HVB.out j hlt
        have HVJ := Lib.hid hvb
        clear hvb
        have HOS := Lib.hid (ordK_succ HO.out)
        have HRW := Lib.hid (show ∀ W, Below w1.heap.size w1 W → ∀ t, t < j → ∃ B c, W.cell? ⟨g, t, none⟩ = some (.slice B (L.getD t []).length c) ∧ (L.getD t []).length ≤ 1048576 ∧ Known W B (L.getD t []).length (L.getD t []) from fun W hW t ht => by
          obtain ⟨g', v', hA, _, hc, hm', hr'⟩ := (HK1.out.now hW).2 t (by omega)
          obtain ⟨B, c, rfl, hk'⟩ := RI.known hr'
          obtain rfl : g = g' := by simpa using hA
          exact ⟨B, c, hc, hm', hk'⟩)
        by_cases hj0 : j = 0
        · have hj1 : j ≤ 0 := by omega
          have HS := Lib.hid (HOS.out (fun h => by omega) (fun t h => by omega))
          generalize (setsN L).getD j 0 = s at *
          generalize L.getD j [] = row at *
          generalize row.length = p at *
          subst hv
          subst hj0
          clear HOS
          go_wp2_with (go_at_call 115; refine (HVJ.out A' cap' _ HKN.out hml).mono ?_; rintro e w' ⟨rfl, rfl⟩)
          refine wp_loop_rounds 1 ?_
          rw [rounds_succ]
          go_wp2
          go_roundw
          case rel => exact ⟨1, by omega, by go_num, HS.out, hb⟩
          case measure => simp [intOf]; omega
        · obtain ⟨i, rfl⟩ : ∃ i, j = i + 1 := ⟨j - 1, by omega⟩
          obtain ⟨g', v2, hA2, _, hcell2, hml2, hri2⟩ := (HK1.out.now hb).2 i (by omega)
          obtain rfl : g = g' := by simpa using hA2
          have HRI2 := Lib.hid hri2
          obtain ⟨B2, c2, hv2, _⟩ := RI.known hri2
          clear hri2 hA2 hj0
          have HBF := Lib.hid (fun W h1 h2 => voBefore_any v2 v (L.getD i []) (L.getD (i+1) []) W hml2 hml h1 h2)
          have HROWS := Lib.hid (show ∀ t, t < i + 1 → t < n from fun t h => by omega)
          cases hbf : before (L.getD i []) (L.getD (i+1) []) with
          | false =>
            have HG := Lib.hid (HNO.out (fun h => by
              have := (h (i+1) hlt).1 (by omega)
              simp only [Nat.add_sub_cancel] at this
              rw [hbf] at this; cases this))
            rw [hbf] at HBF
            clear hbf HOS HVJ HRW
            generalize L.getD i [] = row2 at *
            generalize L.getD (i+1) [] = row at *
            generalize row.length = p at *
            generalize row2.length = p2 at *
            subst hv
            subst hv2
            go_wp2_with (go_at_call 114; refine (HBF.out _ HRI2.out HRI.out).mono ?_; rintro e w5 ⟨rfl, hb5⟩)
            go_ret
            exact ⟨by rw [HG.out]; rfl, bfrom g1 (bfrom hb hb5)⟩
          | true =>
            have HOS2 := Lib.hid (fun h => HOS.out (fun _ => by simp only [Nat.add_sub_cancel]; exact hbf) h)
            have HVT := Lib.hid HVB.out
            have HNT := Lib.hid (fun t (ht : t < i + 1) (h : (setsN L).getD (i+1) 0 &&& (setsN L).getD t 0 = (setsN L).getD (i+1) 0 ∨ (setsN L).getD (i+1) 0 &&& (setsN L).getD t 0 = (setsN L).getD t 0) => HNO.out (fun ho => by
              have := (ho (i+1) hlt).2 t ht
              rcases h with h | h
              · exact this.1 h
              · exact this.2 h))
            rw [hbf] at HBF
            clear hbf HOS
            generalize (setsN L).getD (i+1) 0 = s at *
            generalize L.getD (i+1) [] = row at *
            generalize row.length = p at *
            have HL2 := Lib.hid (show ∃ p2, p2 = (L.getD i []).length from ⟨_, rfl⟩)
            obtain ⟨p2, hp2⟩ := HL2.out
            rw [← hp2] at hv2
            clear hp2 HL2 hml2
            subst hv
            subst hv2
            have hicap : i + 1 ≤ cap := by omega
            go_wp2_with (first
              | (go_at_call 114; refine (HBF.out _ HRI2.out HRI.out).mono ?_; rintro e w5 ⟨rfl, hb5⟩; have hb15 := bfrom hb hb5; have HK5 := Lib.hid (HKN.out.now hb5); clear d0 d1; obtain ⟨d0, d1⟩ := (HXR.out.now hb5).cells)
              | (go_at_call 115; refine (HVJ.out A' cap' _ HK5.out hml).mono ?_; rintro e w' ⟨rfl, rfl⟩))
            go_loopw [7, 8, 43] (fun _ _ k wi => ∃ t : Nat, t ≤ i + 1 ∧ k = .int .i64 t ∧ (∀ u, u < t → s &&& (setsN L).getD u 0 ≠ s ∧ s &&& (setsN L).getD u 0 ≠ (setsN L).getD u 0) ∧ wi = w5) (fun _ _ k _ => i + 1 - (intOf k).toNat)
            case atStart => exact ⟨0, Nat.zero_le _, rfl, fun u h => by omega, rfl⟩
            case round =>
              obtain ⟨t, ht, rfl, hds, rfl⟩ := hrel
              have HDS := Lib.hid hds
              clear hds
              by_cases hlt2 : t < i + 1
              · obtain ⟨B, c, hcell3, hml3, hkn3⟩ := HRW.out _ hb15 t hlt2
                obtain ⟨hu512, hvb3⟩ := HVT.out t (by omega)
                have HV3 := Lib.hid (hvb3 B c _ hkn3 hml3)
                have HNN := Lib.hid (HNT.out t hlt2)
                clear hkn3 hvb3 hml3
                obtain ⟨u, hu⟩ : ∃ u, u = (setsN L).getD t 0 := ⟨_, rfl⟩
                rw [← hu] at hu512 HV3 HNN
                have HU := Lib.hid hu
                clear hu
                generalize (L.getD t []).length = p3 at *
                have hand := i64_and_nat s u hs512 hu512
                have HBITS := Lib.hid hand
                by_cases e1 : s &&& u = s
                · have HG := Lib.hid (HNN.out (Or.inl e1))
                  rw [e1] at hand
                  clear e1
                  go_wp2_with (go_at_call 115; refine HV3.out.mono ?_; rintro e w' ⟨rfl, rfl⟩)
                  go_ret
                  exact ⟨by rw [HG.out]; rfl, bfrom g1 hb15⟩
                · by_cases e2 : s &&& u = u
                  · have HG := Lib.hid (HNN.out (Or.inr e2))
                    have hne : ((u : Int) == (s : Int)) = false := beq_false_of_ne (by rw [e2] at e1; omega)
                    rw [e2] at hand
                    clear e1 e2
                    go_wp2_with (go_at_call 115; refine HV3.out.mono ?_; rintro e w' ⟨rfl, rfl⟩)
                    go_ret
                    exact ⟨by rw [HG.out]; rfl, bfrom g1 hb15⟩
                  · have HD2 := Lib.hid (show ∀ x, x < t + 1 → s &&& (setsN L).getD x 0 ≠ s ∧ s &&& (setsN L).getD x 0 ≠ (setsN L).getD x 0 from fun x hx => by
                      by_cases e : x = t
                      · subst e; rw [← HU.out]; exact ⟨e1, e2⟩
                      · exact HDS.out x (by omega))
                    generalize s &&& u = z at *
                    have hne : ((z : Int) == (s : Int)) = false := beq_false_of_ne (by omega)
                    have hne2 : ((z : Int) == (u : Int)) = false := beq_false_of_ne (by omega)
                    clear e1 e2
                    go_wp2_with (go_at_call 115; refine HV3.out.mono ?_; rintro e w' ⟨rfl, rfl⟩)
                    go_roundw
                    case rel => exact ⟨t + 1, by omega, by go_num, HD2.out, trivial⟩
                    case measure => simp [intOf]; omega
              · obtain rfl : t = i + 1 := by omega
                have HS := Lib.hid (HOS2.out HDS.out)
                go_wp2
                go_roundw
                case rel => exact ⟨i + 2, by omega, by go_num, HS.out, hb15⟩
                case measure => simp [intOf]; omega
      · obtain rfl : n = j := by omega
        have HG := Lib.hid (HYES.out HO.out)
        go_wp2
        go_ret
        exact ⟨by rw [HG.out]; rfl, bfrom g1 hb⟩

end Go.Proofs.Ytnldodnpakpeeaa

namespace Go.Proofs.Ytnldodnpakpeeaa
open Go.RowKit Vo

theorem leastL_nodup (S : Nat → Bool) : (leastL S).Nodup := by
  have := filter_sorted 9 (minB S)
  unfold Sorted at this
  rw [List.pairwise_map] at this
  exact this.imp fun {a b} hb e => by rw [e, before_irrefl] at hb; cases hb
theorem leastL_low {S : Nat → Bool} (hS : ∀ s, S s = true → s < 512) : ∀ s ∈ leastL S, s < 512 := fun s h => hS s ((minB_iff hS).1 ((mem_leastL hS).1 h)).1
theorem leastL_len {S : Nat → Bool} (hS : ∀ s, S s = true → s < 512) : (leastL S).length ≤ 512 := nodup_len 512 _ (leastL_nodup S) (leastL_low hS)
theorem goodG_small {m : Int} {L : List (List Int)} (h : ¬ (1 ≤ m ∧ m ≤ 9)) : goodG m L = false := by
  unfold goodG; rw [decide_eq_false (fun ⟨a, b, _⟩ => h ⟨a, b⟩)]; rfl
theorem goodG_nil {m : Int} : goodG m [] = false := by
  unfold goodG; rw [decide_eq_false (fun ⟨_, _, c⟩ => c rfl)]; rfl
theorem goodG_rows {n : Nat} {L : List (List Int)} (h : rowsB n L = false) : goodG (n : Int) L = false := by
  unfold goodG; rw [Int.toNat_natCast, h]; simp
theorem goodG_least {n : Nat} {L : List (List Int)} (h : ¬ setsN L = leastL (inS (setsN L))) : goodG (n : Int) L = false := by
  unfold goodG; rw [decide_eq_false h]; simp
theorem goodG_yes {n : Nat} {L : List (List Int)} (h1 : 1 ≤ n) (h9 : n ≤ 9) (hL : L ≠ []) (hr : rowsB n L = true) (h : setsN L = leastL (inS (setsN L))) : goodG (n : Int) L = true := by
  unfold goodG; rw [Int.toNat_natCast, hr, decide_eq_true h, decide_eq_true (show 1 ≤ (n : Int) ∧ (n : Int) ≤ 9 ∧ L ≠ [] from ⟨by omega, by omega, hL⟩)]; rfl
theorem goodG_parts {m : Int} {L : List (List Int)} (h : goodG m L = true) : 1 ≤ m ∧ m ≤ 9 ∧ L ≠ [] ∧ rowsB m.toNat L = true ∧ setsN L = leastL (inS (setsN L)) := by
  unfold goodG at h
  simp only [Bool.and_eq_true, decide_eq_true_eq] at h
  exact ⟨h.1.1, h.1.2.1, h.1.2.2, h.2.1, h.2.2⟩

/-- A game read: its sets, or none. -/
def ReadG (m : Int) (L : List (List Int)) (w w' : World) (e : Ending) : Prop :=
  Below w.heap.size w w' ∧ ((goodG m L = true ∧ ∃ B cp, e = .returned (.tuple #[.agg #[.int .i64 m, .slice B L.length cp], .bool true]) ∧ w'.ownsRow w.heap.size 107 1 (.slice B L.length cp) L.length (setsV (setsN L))) ∨ (goodG m L = false ∧ e = .returned (.tuple #[.agg #[.int .i64 0, .slice none 0 0], .bool false])))

set_option maxRecDepth 20000 in
set_option maxHeartbeats 6000000 in
theorem readGame_any (m : Int) (A : Option Addr) (n cap : Nat) (L : List (List Int)) (w : World) (hl : n ≤ 1048576) (hk : Lists w A n L) :
    Calls Try.prog 120 #[.agg #[.int .i64 m, .slice A n cap]] w fun e w' => ReadG m L w w' e := by
  have HK := Lib.hid hk
  have HLEN := Lib.hid hk.1
  clear hk
  have hb0 : Below w.heap.size w ((w.alloc (.cells #[.int .i64 m, .slice A n cap] 55)).alloc (.cells #[.int .i64 0, .slice none 0 0] 95)) := (below1 w _).alloc (by simp) _
  have hx := (BoxT.new 55 w (.int .i64 m) (.slice A n cap)).alloc (.cells #[.int .i64 0, .slice none 0 0] 95)
  have hr := BoxT.new 95 (w.alloc (.cells #[.int .i64 m, .slice A n cap] 55)) (.int .i64 0) (.slice none 0 0)
  simp only [World.size_alloc] at hr
  have KF := Lib.hid (show ∀ W, BoxT 95 W (w.heap.size + 1) (.int .i64 0) (.slice none 0 0) → (W.frozen? ⟨w.heap.size + 1, 0, none⟩ = false ∧ W.frozen? ⟨w.heap.size + 1, 1, none⟩ = false) from fun W h => by unfold BoxT at h; exact ⟨by simp [World.frozen?, h], by simp [World.frozen?, h]⟩)
  obtain ⟨w0, hw0⟩ : ∃ w0, w0 = (w.alloc (.cells #[.int .i64 m, .slice A n cap] 55)).alloc (.cells #[.int .i64 0, .slice none 0 0] 95) := ⟨_, rfl⟩
  have hsz0 : w0.heap.size = w.heap.size + 2 := by rw [hw0]; simp
  rw [← hw0] at hb0 hx hr
  have K := Lib.hid (show ∀ W, Below w0.heap.size w0 W → (W.cell? ⟨w.heap.size, 0, none⟩ = some (.int .i64 m) ∧ W.cell? ⟨w.heap.size, 1, none⟩ = some (.slice A n cap) ∧ W.cell? ⟨w.heap.size + 1, 0, none⟩ = some (.int .i64 0) ∧ W.cell? ⟨w.heap.size + 1, 1, none⟩ = some (.slice none 0 0) ∧ W.frozen? ⟨w.heap.size + 1, 0, none⟩ = false ∧ W.frozen? ⟨w.heap.size + 1, 1, none⟩ = false) from fun W hb => ⟨(hx.now hb).cells.1, (hx.now hb).cells.2, (hr.now hb).cells.1, (hr.now hb).cells.2, (KF.out _ (hr.now hb)).1, (KF.out _ (hr.now hb)).2⟩)
  obtain ⟨c0, c1, c2, c3, c4, c5⟩ := K.out _ (Below.refl _ _)
  have HB0 := Lib.hid hb0
  have HK0 := Lib.hid (HK.out.now hb0)
  clear hx hr hb0 KF HK
  by_cases hmm : 1 ≤ m ∧ m ≤ 9
  · obtain ⟨q, rfl⟩ : ∃ q : Nat, m = q := ⟨m.toNat, by omega⟩
    have hq1 : 1 ≤ q := by omega
    have hq9 : q ≤ 9 := by omega
    have HIN := Lib.hid (inB_yes hmm.1 hmm.2)
    clear hmm
    by_cases hn0 : n = 0
    · subst hn0
      have HG := Lib.hid (show goodG (q : Int) L = false from by rw [List.length_eq_zero_iff.1 HLEN.out]; exact goodG_nil)
      go_enter Try.func120, Try.ntmps120
      go_wp2_with fail
      rw [← hw0]
      clear hw0
      refine (isNumberOfMembers_any q _).mono ?_
      rintro e w1 ⟨rfl, rfl⟩
      rw [HIN.out]
      go_wp2
      refine bodyPost_ret (v := .tuple #[.agg #[.int .i64 0, .slice none 0 0], .bool false]) (by simp [results, Try.results120, go_sem, c2, c3]) rfl ⟨?_, Or.inr ⟨HG.out, rfl⟩⟩
      exact ((HB0.out).setCell (by simp) _).setCell (by simp) _
    · have HNE := Lib.hid (show L ≠ [] from fun e => hn0 (by rw [← HLEN.out, e]; rfl))
      have hnz : ((n : Int) == 0) = false := beq_false_of_ne (by omega)
      go_enter Try.func120, Try.ntmps120
      go_wp2_with fail
      rw [← hw0]
      clear hw0
      refine (isNumberOfMembers_any q _).mono ?_
      rintro e w1 ⟨rfl, rfl⟩
      rw [HIN.out]
      go_wp2_with fail
      refine (readWinningSets_any q A n cap L _ hq9 hl HK0.out).mono ?_
      rintro e w1 ⟨hb1, h⟩
      have g1 := bfrom HB0.out hb1
      clear c0 c1 c2 c3 c4 c5
      obtain ⟨c0, c1, c2, c3, c4, c5⟩ := K.out _ hb1
      rcases h with ⟨hrows, B, cp, rfl, hown⟩ | ⟨hrows, v0, rfl⟩
      · rw [HLEN.out] at hown ⊢
        have HO1 := Lib.hid hown
        have HSN := Lib.hid (show n = (setsN L).length from by rw [← HLEN.out]; simp [setsN])
        have HSL := Lib.hid (setsN_512 hq9 hrows)
        have HINS := Lib.hid (show ∀ s, inS (setsN L) s = true → s < 512 from fun s h => HSL.out s (inS_iff.1 h))
        have HLOW := Lib.hid (leastL_low HINS.out)
        have hlen : (leastL (inS (setsN L))).length ≤ 512 := leastL_len HINS.out
        have HR := Lib.hid hrows
        have HL := Lib.hid (fun W base h => leastOf_any (setsN L) base n cp B W HSN.out hl HSL.out h)
        have HE := Lib.hid (fun A2 k2 cap2 base2 W h1 h2 h3 h4 => sliceEqual_any (setsN L) (leastL (inS (setsN L))) w0.heap.size base2 n k2 cp cap2 B A2 W HSN.out h1 hl h2 HSL.out HLOW.out h3 h4)
        obtain ⟨T, hT⟩ : ∃ T, T = leastL (inS (setsN L)) := ⟨_, rfl⟩
        have HTT := Lib.hid hT
        have HL := Lib.hid (show ∀ W base, W.ownsRow base 107 1 (.slice B n cp) n (setsV (setsN L)) → Calls Try.prog 161 #[.slice B n cp] W fun e w' => SetsAt W.heap.size T W w' e from fun W base h => by rw [hT]; exact HL.out W base h)
        rw [← hT] at hlen HE
        clear hrows hown HINS HLOW hT
        go_wp2_with fail
        refine (HL.out _ _ HO1.out).mono ?_
        rintro e w2 ⟨A2, cap2, rfl, hown2, hb2⟩
        obtain ⟨k2, hk2⟩ : ∃ k2, k2 = T.length := ⟨_, rfl⟩
        rw [← hk2] at hown2 hlen ⊢
        have HK2 := Lib.hid hk2
        have HO2 := Lib.hid hown2
        have HO12 := Lib.hid (owns_now HO1.out hb2)
        clear hk2 hown2
        go_wp2_with fail
        refine (HE.out A2 k2 cap2 _ _ HK2.out (by omega) HO12.out HO2.out).mono ?_
        rintro e w3 ⟨rfl, hb3⟩
        have HO13 := Lib.hid (owns_now HO12.out hb3)
        have g2 := bfrom hb2 hb3
        have g13 := bfrom hb1 g2
        have g3 := bfrom HB0.out g13
        have hz3 := g13.size
        clear c0 c1 c2 c3 c4 c5
        obtain ⟨c0, c1, c2, c3, c4, c5⟩ := K.out _ g13
        clear HE HL HO12 HO2
        by_cases he : setsN L = T
        · have HG := Lib.hid (goodG_yes hq1 hq9 HNE.out HR.out (by rw [← HTT.out]; exact he))
          rw [decide_eq_true he]
          clear he
          go_wp2
          refine bodyPost_ret (v := .tuple #[.agg #[.int .i64 q, .slice B n cp], .bool true]) (by simp [results, Try.results120, go_sem, c2, c3]) rfl ⟨(g3.setCell (by simp) _).setCell (by simp) _, Or.inl ⟨HG.out, B, cp, by rw [HLEN.out], ?_⟩⟩
          rw [HLEN.out]
          exact owns_less (ownsRow_setCell_below (ownsRow_setCell_below HO13.out (by simp; omega) _) (by simp; omega) _) (by omega)
        · have HG := Lib.hid (goodG_least (n := q) (L := L) (by rw [← HTT.out]; exact he))
          rw [decide_eq_false he]
          clear he
          go_wp2
          refine bodyPost_ret (v := .tuple #[.agg #[.int .i64 0, .slice none 0 0], .bool false]) (by simp [results, Try.results120, go_sem, c2, c3]) rfl ⟨(g3.setCell (by simp) _).setCell (by simp) _, Or.inr ⟨HG.out, rfl⟩⟩
      · have HG := Lib.hid (goodG_rows hrows)
        clear hrows
        go_wp2
        refine bodyPost_ret (v := .tuple #[.agg #[.int .i64 0, .slice none 0 0], .bool false]) (by simp [results, Try.results120, go_sem, c2, c3]) rfl ⟨(g1.setCell (by simp) _).setCell (by simp) _, Or.inr ⟨HG.out, rfl⟩⟩
  · have HIN := Lib.hid (inB_no hmm)
    have HG := Lib.hid (goodG_small (L := L) hmm)
    clear hmm
    go_enter Try.func120, Try.ntmps120
    go_wp2_with fail
    rw [← hw0]
    clear hw0
    refine (isNumberOfMembers_any m _).mono ?_
    rintro e w1 ⟨rfl, rfl⟩
    rw [HIN.out]
    go_wp2
    refine bodyPost_ret (v := .tuple #[.agg #[.int .i64 0, .slice none 0 0], .bool false]) (by simp [results, Try.results120, go_sem, c2, c3]) rfl ⟨?_, Or.inr ⟨HG.out, rfl⟩⟩
    exact ((HB0.out).setCell (by simp) _).setCell (by simp) _

end Go.Proofs.Ytnldodnpakpeeaa
