/- The model's order of sets, and sets put in order. -/
import Derived.Test.YtibmaofcnibjnaaR7
import Derived.Deep.AppendLies
namespace Go.Proofs.Ytibmaofcnibjnaa
open Go.RowKit Vo

theorem before_short {a b : List Int} (h : a.length = 0 ∨ b.length = 0) : before a b = decide (a.length < b.length) := by
  cases a <;> cases b <;> simp [before] at h ⊢
theorem before_drop {a b : List Int} {j : Nat} (ha : j < a.length) (hb : j < b.length) :
    before (a.drop j) (b.drop j) = if a.getD j 0 = b.getD j 0 then before (a.drop (j+1)) (b.drop (j+1)) else decide (a.getD j 0 < b.getD j 0) := by
  rw [List.drop_eq_getElem_cons ha, List.drop_eq_getElem_cons hb]
  simp [before, List.getD_eq_getElem?_getD, ha, hb]
theorem before_end {a b : List Int} {j : Nat} (ha : j ≤ a.length) (hb : j ≤ b.length) (h : a.length ≤ j ∨ b.length ≤ j) : before (a.drop j) (b.drop j) = decide (a.length < b.length) := by
  rw [before_short (by simp only [List.length_drop]; omega)]
  simp only [List.length_drop]
  congr 1
  exact propext (by omega)
set_option maxHeartbeats 1000000 in
theorem voBefore_any (a b : Value) (la lb : List Int) (w : World) (h1 : la.length ≤ 1048576) (_h2 : lb.length ≤ 1048576) (ha : RI la 0 w.heap.size a w) (hb : RI lb 0 w.heap.size b w) :
    Calls Try.prog 99 #[a, b] w fun e w' => e = .returned (.bool (before la lb)) ∧ Below w.heap.size w w' := by
  obtain ⟨A, c, rfl, ha⟩ := ha
  obtain ⟨A2, c2, rfl, hb⟩ := hb
  have HA := Lib.hid ha
  have HB := Lib.hid hb
  have HD := Lib.hid (show ∀ j, j < la.length → j < lb.length → _ from fun j => before_drop (a := la) (b := lb) (j := j))
  have HE := Lib.hid (show ∀ j, j ≤ la.length → j ≤ lb.length → (la.length ≤ j ∨ lb.length ≤ j) → _ from fun j => before_end (a := la) (b := lb) (j := j))
  clear ha hb
  obtain ⟨na, hna⟩ : ∃ na, la.length = na := ⟨_, rfl⟩
  obtain ⟨nb, hnb⟩ : ∃ nb, lb.length = nb := ⟨_, rfl⟩
  rw [hna] at HA HD HE h1 ⊢
  rw [hnb] at HB HD HE _h2 ⊢
  clear hna hnb
  go_enter Try.func99, Try.ntmps99
  go_wp2
  go_loopw [5] (fun i wr => ∃ k : Nat, k ≤ na ∧ k ≤ nb ∧ i = .int .i64 k ∧ before la lb = before (la.drop k) (lb.drop k) ∧ Below w.heap.size w wr) (fun i _ => na - (intOf i).toNat)
  case atStart => exact ⟨0, Nat.zero_le _, Nat.zero_le _, rfl, rfl, Below.refl _ _⟩
  case round =>
    obtain ⟨k, hk, hk2, rfl, hsame, hb⟩ := hrel
    have HS := Lib.hid hsame
    clear hsame
    by_cases hlt : k < na
    · by_cases hlt2 : k < nb
      · obtain ⟨g, rfl, _, hgl, hx⟩ : ∃ g, A = some ⟨g, 0, none⟩ ∧ 0 ≤ g ∧ g < w.heap.size ∧ Ints w g na la := by
          rcases HA.out with h | h
          · omega
          · exact h
        obtain ⟨g2, rfl, _, hgl2, hy⟩ : ∃ g, A2 = some ⟨g, 0, none⟩ ∧ 0 ≤ g ∧ g < w.heap.size ∧ Ints w g nb lb := by
          rcases HB.out with h | h
          · omega
          · exact h
        have hcx := (hx.below hb hgl).cell hlt
        have hcy := (hy.below hb hgl2).cell hlt2
        have HT := Lib.hid (HS.out.trans (HD.out k hlt hlt2))
        clear hx hy
        have hlt' : (k : Int) < na := by omega
        have hlt2' : (k : Int) < nb := by omega
        by_cases he : la.getD k 0 = lb.getD k 0
        · have HT2 := Lib.hid (HT.out.trans (if_pos he))
          clear HT
          rw [he] at hcx
          clear he
          generalize lb.getD k 0 = y at *
          go_wp2_with fail
          go_quiet (fail)
          go_wp2
          go_roundw
          case rel => exact ⟨k + 1, by omega, by omega, by go_num, HT2.out, below_drewN hb _⟩
          case measure => simp [intOf]; omega
        · have HT2 := Lib.hid (HT.out.trans (if_neg he))
          clear HT
          have hne : (la.getD k 0 == lb.getD k 0) = false := by simpa using he
          have hne2 : (la.getD k 0 != lb.getD k 0) = true := by simpa using he
          generalize la.getD k 0 = x at *
          generalize lb.getD k 0 = y at *
          go_wp2_with fail
          go_quiet (fail)
          go_wp2_with fail
          go_quiet (fail)
          go_wp2
          go_ret
          exact ⟨by rw [HT2.out]; rfl, below_drewN (below_drewN hb _) _⟩
      · have HT := Lib.hid (HS.out.trans (HE.out k hk hk2 (by omega)))
        have hlt' : (k : Int) < na := by omega
        have hlt2' : ¬ (k : Int) < nb := by omega
        go_wp2
        go_ret
        exact ⟨by rw [HT.out]; rfl, hb⟩
    · have HT := Lib.hid (HS.out.trans (HE.out k hk hk2 (by omega)))
      have hlt' : ¬ (k : Int) < na := by omega
      go_wp2
      go_ret
      exact ⟨by rw [HT.out]; rfl, hb⟩
end Go.Proofs.Ytibmaofcnibjnaa
