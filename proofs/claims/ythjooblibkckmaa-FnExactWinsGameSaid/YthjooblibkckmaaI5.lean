/- Contracts of the model's gmSets, gmGood and IsGame. -/
import Derived.Test.YthjooblibkckmaaI3
import Derived.Test.YthjooblibkckmaaT2
import Derived.Test.YthjooblibkckmaaS2
import Derived.Outline
namespace Go.Proofs.Ythjooblibkckmaa
open Go.RowKit Vo

/-- What the model needs of a game's lists. -/
def ListsR (w : World) (A : Option Addr) (n : Nat) (L : List (List Int)) : Prop :=
  L.length = n ∧ ∀ i, i < n → ∃ g v, A = some ⟨g, 0, none⟩ ∧ g < w.heap.size ∧ w.cell? ⟨g, i, none⟩ = some v ∧ (L.getD i []).length ≤ 1048576 ∧ RI (L.getD i []) 0 w.heap.size v w
theorem ListsR.now {w w' : World} {A : Option Addr} {n : Nat} {L : List (List Int)} (h : ListsR w A n L) (hb : Below w.heap.size w w') : ListsR w' A n L := by
  refine ⟨h.1, fun i hi => ?_⟩
  obtain ⟨g, v, hA, hg, hc, hm, hk⟩ := h.2 i hi
  exact ⟨g, v, hA, Nat.lt_of_lt_of_le hg hb.size, (hb.cell (p := ⟨g, i, none⟩) hg).trans hc, hm, hk.up hb⟩
theorem ListsR.lists {w : World} {A : Option Addr} {n : Nat} {L : List (List Int)} (h : ListsR w A n L) : Lists w A n L := by
  refine ⟨h.1, fun i hi => ?_⟩
  obtain ⟨g, v, hA, hg, hc, hm, hk⟩ := h.2 i hi
  obtain ⟨A', cap, rfl, hk'⟩ := RI.known hk
  exact ⟨g, A', cap, hA, hg, hc, hm, hk'⟩
theorem RSS0.listsR {L : List (List Int)} {lo hi : Nat} {A : Option Addr} {n cap : Nat} {w : World} (hn : L.length = n) (ht : tot L + L.length ≤ 1048576) (hh : hi ≤ w.heap.size) (h : RSS0 L lo hi (.slice A n cap) w) : ListsR w A n L := by
  refine ⟨hn, fun i hi => ?_⟩
  obtain ⟨A1, c1, hv, h⟩ := h
  obtain ⟨rfl, _, _⟩ : A = A1 ∧ n = L.length ∧ cap = c1 := by simpa using hv
  rcases h with h | ⟨g, f, hA, _, _, ho, h⟩
  · omega
  · exact ⟨g, f i, hA, ho.lt, by rw [ho.cell (by omega)], by have := tot_row (L := L) rfl (show i < L.length by omega); omega, (h i (by omega)).wide (Or.inr ⟨Nat.zero_le _, hh⟩)⟩

set_option maxHeartbeats 1000000 in
theorem voSet_known (n : Nat) (A : Option Addr) (m cap : Nat) (xs : List Int) (w : World) (hn : n < 10) (h0 : m ≠ 0) (hm : m ≤ 9223372036854775807) (hk : Known w A m xs) :
    Calls Try.prog 67 #[.int .i64 n, .slice A m cap] w fun e w' => e = .returned (.bool (riseB n xs m)) ∧ w = w' := by
  obtain ⟨b, off, rfl, hsl⟩ := hk.get (by omega)
  exact voSet_any n b off m cap xs w hn hm hsl
theorem voBits_known (n : Nat) (A : Option Addr) (m cap : Nat) (xs : List Int) (w : World) (hn : n < 10) (h0 : m ≠ 0) (hm : m ≤ 9223372036854775807) (hr : RiseK n xs m) (hk : Known w A m xs) :
    Calls Try.prog 69 #[.slice A m cap] w fun e w' => e = .returned (.int .i64 (ofK xs m : Nat)) ∧ w = w' := by
  obtain ⟨b, off, rfl, hsl⟩ := hk.get (by omega)
  exact voBits_any n b off m cap xs w hn hm hr hsl

/-- What the model asks of some sets. -/
def setsB (m : Int) (L : List (List Int)) (most : Int) : Bool := inB m 1 9 && (inB (L.length : Int) 1 most && rowsB m.toNat L)
theorem setsB_small {m : Int} {L : List (List Int)} {most : Int} (h : ¬ (1 ≤ m ∧ m ≤ 9)) : setsB m L most = false := by unfold setsB; rw [inB_no h]; rfl
theorem setsB_long {m : Int} {L : List (List Int)} {most : Int} (h : ¬ (1 ≤ (L.length : Int) ∧ (L.length : Int) ≤ most)) : setsB m L most = false := by unfold setsB; rw [inB_no h]; simp
theorem setsB_rows {q : Nat} {L : List (List Int)} {most : Int} (h1 : 1 ≤ (q : Int)) (h9 : (q : Int) ≤ 9) (h2 : 1 ≤ (L.length : Int)) (h3 : (L.length : Int) ≤ most) : setsB (q : Int) L most = rowsB q L := by
  unfold setsB; rw [inB_yes h1 h9, inB_yes h2 h3]; simp

set_option maxRecDepth 20000 in
set_option maxHeartbeats 4000000 in
theorem gmSets_any (m : Int) (A : Option Addr) (n cap : Nat) (L : List (List Int)) (most : Int) (w : World) (hl : n ≤ 1048576) (hk : Lists w A n L) :
    Calls Try.prog 85 #[.int .i64 m, .slice A n cap, .int .i64 most] w fun e w' => e = .returned (.bool (setsB m L most)) ∧ Below w.heap.size w w' := by
  have HK := Lib.hid hk
  have HLEN := Lib.hid hk.1
  clear hk
  by_cases hmm : 1 ≤ m ∧ m ≤ 9
  · obtain ⟨q, rfl⟩ : ∃ q : Nat, m = q := ⟨m.toNat, by omega⟩
    have hq9 : q ≤ 9 := by omega
    have hq10 : q < 10 := by omega
    have HIN := Lib.hid (inB_yes hmm.1 hmm.2)
    by_cases hnn : 1 ≤ (n : Int) ∧ (n : Int) ≤ most
    · have HIN2 := Lib.hid (inB_yes hnn.1 hnn.2)
      have HSB := Lib.hid (setsB_rows (L := L) (most := most) hmm.1 hmm.2 (by rw [HLEN.out]; exact hnn.1) (by rw [HLEN.out]; exact hnn.2))
      have HRT := Lib.hid (fun j (h : j < n) => rowsB_take q L j (by rw [HLEN.out]; exact h))
      have HRF := Lib.hid (fun j (h : j < n) (hf : (decide ((L.getD j []).length ≠ 0) && riseB q (L.getD j []) (L.getD j []).length) = false) => rowsB_false (n := q) (L := L) (j := j) (by rw [HLEN.out]; exact h) hf)
      clear hmm hnn
      go_enter Try.func85, Try.ntmps85
      go_wp2_with fail
      refine (l1In_any q 1 9 _).mono ?_
      rintro e w1 ⟨rfl, rfl⟩
      rw [HIN.out]
      go_wp2_with fail
      refine (l1In_any n 1 most _).mono ?_
      rintro e w1 ⟨rfl, rfl⟩
      rw [HIN2.out]
      go_wp2_with fail
      go_loopw [8, 21] (fun _ i wr => ∃ j : Nat, j ≤ n ∧ i = .int .i64 j ∧ rowsB q (L.take j) = true ∧ Below w.heap.size w wr) (fun _ i _ => n - (intOf i).toNat)
      case atStart => exact ⟨0, Nat.zero_le _, rfl, rfl, Below.refl _ _⟩
      case round =>
        obtain ⟨j, hj, rfl, hrows, hb⟩ := hrel
        have HR := Lib.hid hrows
        clear hrows
        by_cases hlt : j < n
        · obtain ⟨g, A', cap', rfl, hg, hcell, hml, hkn⟩ := (HK.out.now hb).2 j hlt
          have HKN := Lib.hid hkn
          have HRT2 := Lib.hid (HRT.out j hlt)
          have HRF2 := Lib.hid (HRF.out j hlt)
          obtain ⟨row, hrw⟩ : ∃ row, row = L.getD j [] := ⟨_, rfl⟩
          rw [← hrw] at hcell HKN HRT2 HRF2 hml
          obtain ⟨p, hpp⟩ : ∃ p, p = row.length := ⟨_, rfl⟩
          rw [← hpp] at hcell HKN HRT2 HRF2 hml
          clear hkn hrw hpp
          by_cases hz : p = 0
          · have HF := Lib.hid (HRF2.out (by rw [hz]; rfl))
            subst hz
            go_wp2
            go_ret
            exact ⟨by rw [HSB.out, HF.out]; rfl, hb⟩
          · have hp0 : ((p : Int) == 0) = false := beq_false_of_ne (by omega)
            have HV := Lib.hid (fun W h => voSet_known q A' p cap' row W hq10 hz (by omega) h)
            cases hrb : riseB q row p with
            | true =>
              rw [hrb] at HV HRT2
              have HOK := Lib.hid (show rowsB q (L.take (j+1)) = true from by rw [HRT2.out, HR.out]; simp [hz])
              clear hz hrb
              go_wp2_with (go_at_call 67; refine (HV.out _ HKN.out).mono ?_; rintro e w' ⟨rfl, rfl⟩)
              go_roundw
              case rel => exact ⟨j + 1, by omega, by go_num, HOK.out, hb⟩
              case measure => simp [intOf]; omega
            | false =>
              rw [hrb] at HV HRF2
              have HF := Lib.hid (HRF2.out (by simp))
              clear hz hrb
              go_wp2_with (go_at_call 67; refine (HV.out _ HKN.out).mono ?_; rintro e w' ⟨rfl, rfl⟩)
              go_ret
              exact ⟨by rw [HSB.out, HF.out]; rfl, hb⟩
        · obtain rfl : n = j := by omega
          have HT := Lib.hid (show L.take n = L from by rw [← HLEN.out, List.take_length])
          rw [HT.out] at HR
          go_wp2
          go_ret
          exact ⟨by rw [HSB.out, HR.out]; rfl, hb⟩
    · have HIN2 := Lib.hid (inB_no hnn)
      have HSB := Lib.hid (setsB_long (m := (q : Int)) (L := L) (most := most) (by rw [HLEN.out]; exact hnn))
      clear hmm hnn
      go_enter Try.func85, Try.ntmps85
      go_wp2_with fail
      refine (l1In_any q 1 9 _).mono ?_
      rintro e w1 ⟨rfl, rfl⟩
      rw [HIN.out]
      go_wp2_with fail
      refine (l1In_any n 1 most _).mono ?_
      rintro e w1 ⟨rfl, rfl⟩
      rw [HIN2.out]
      go_wp2
      go_ret
      exact ⟨by rw [HSB.out]; rfl, Below.refl _ _⟩
  · have HIN := Lib.hid (inB_no hmm)
    have HSB := Lib.hid (setsB_small (L := L) (most := most) hmm)
    clear hmm
    go_enter Try.func85, Try.ntmps85
    go_wp2_with fail
    refine (l1In_any m 1 9 _).mono ?_
    rintro e w1 ⟨rfl, rfl⟩
    rw [HIN.out]
    go_wp2
    go_ret
    exact ⟨by rw [HSB.out]; rfl, Below.refl _ _⟩

theorem goodG_split {m : Int} {L : List (List Int)} : goodG m L = true ↔ setsB m L 126 = true ∧ ordK L (setsN L) L.length := by
  constructor
  · intro h
    unfold goodG at h
    simp only [Bool.and_eq_true, decide_eq_true_eq] at h
    obtain ⟨⟨h1, h9, hL⟩, hr, hs⟩ := h
    have hn : m.toNat ≤ 9 := by omega
    refine ⟨?_, (ordK_sets hn hr).2 hs⟩
    have h126 := game_126 hn hr hs
    have h0 : 1 ≤ L.length := by cases L with
      | nil => exact absurd rfl hL
      | cons a l => simp
    unfold setsB
    rw [inB_yes h1 h9, inB_yes (by omega) (by omega), hr]; rfl
  · rintro ⟨h1, h2⟩
    unfold setsB at h1
    simp only [Bool.and_eq_true] at h1
    obtain ⟨ha, hb, hr⟩ := h1
    have hm : 1 ≤ m ∧ m ≤ 9 := by
      by_cases h : 1 ≤ m ∧ m ≤ 9
      · exact h
      · rw [inB_no h] at ha; cases ha
    have hl : 1 ≤ (L.length : Int) := by
      by_cases h : 1 ≤ (L.length : Int) ∧ (L.length : Int) ≤ 126
      · exact h.1
      · rw [inB_no h] at hb; cases hb
    have hs := (ordK_sets (by omega : m.toNat ≤ 9) hr).1 h2
    unfold goodG
    rw [hr, decide_eq_true hs, decide_eq_true (show 1 ≤ m ∧ m ≤ 9 ∧ L ≠ [] from ⟨hm.1, hm.2, fun e => by rw [e] at hl; simp at hl⟩)]; rfl
theorem goodG_no {m : Int} {L : List (List Int)} (h : ¬ (setsB m L 126 = true ∧ ordK L (setsN L) L.length)) : goodG m L = false := by
  cases hg : goodG m L
  · rfl
  · exact absurd (goodG_split.1 hg) h
theorem setsB_parts {m : Int} {L : List (List Int)} {most : Int} (h : setsB m L most = true) : ∃ q : Nat, m = q ∧ 1 ≤ q ∧ q ≤ 9 ∧ 1 ≤ L.length ∧ (L.length : Int) ≤ most ∧ rowsB q L = true := by
  unfold setsB at h
  simp only [Bool.and_eq_true] at h
  obtain ⟨ha, hb, hr⟩ := h
  have hm : 1 ≤ m ∧ m ≤ 9 := by
    by_cases h : 1 ≤ m ∧ m ≤ 9
    · exact h
    · rw [inB_no h] at ha; cases ha
  have hl : 1 ≤ (L.length : Int) ∧ (L.length : Int) ≤ most := by
    by_cases h : 1 ≤ (L.length : Int) ∧ (L.length : Int) ≤ most
    · exact h
    · rw [inB_no h] at hb; cases hb
  exact ⟨m.toNat, by omega, by omega, by omega, by omega, hl.2, hr⟩
theorem setsN_at {L : List (List Int)} {i : Nat} (h : i < L.length) : (setsN L).getD i 0 = ofK (L.getD i []) (L.getD i []).length := by
  unfold setsN
  rw [List.getD_eq_getElem?_getD, List.getElem?_map, List.getElem?_eq_getElem h, List.getD_eq_getElem?_getD, List.getElem?_eq_getElem h]; rfl
end Go.Proofs.Ythjooblibkckmaa
