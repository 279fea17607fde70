/- Lists of committees that the call made: how they are marked. -/
import Derived.Test.YtkckefjpkhjeaabBa
import Derived.Test.YtkckefjpkhjeaabM1
namespace Go.Proofs.Ytkckefjpkhjeaab
open Go.RowKit Vo

set_option maxRecDepth 20000 in
set_option maxHeartbeats 4000000 in
theorem markCommitteeS_w (lo hi n c : Nat) (C : List (Int × List Int)) (kk : Int) (w : World) (hn : n = C.length) (hm : n + csum C n ≤ 1048576) (h0 : 0 ≤ kk) (h1 : kk + n + (csum C n : Nat) ≤ 1048577) (hx : RCS C lo hi w) :
    Calls Try.prog 15 #[.slice (some ⟨lo, 0, none⟩) n c, .int .i64 kk] w fun e w' => (∃ z : Int, 0 ≤ z ∧ e = .returned (.int .i64 z)) ∧ Turn lo hi w w' := by
  obtain ⟨G, hlh, ho, hr⟩ := hx
  rw [← hn] at ho hr
  have HROW := Lib.hid (fun i (hi : i < n) => csum_row C hi)
  have HG := Lib.hid (show ∀ i, i < n → lo < G i ∧ G i < hi from fun i hi => ⟨(hr i hi).1, (hr i hi).2.1⟩)
  have HD := Lib.hid (show ∀ i j, i < n → j < n → i ≠ j → G i ≠ G j from fun i j hi hj hne => by
    rcases Nat.lt_or_ge i j with h | h
    · have := (hr j hj).2.2.2 i h; omega
    · have := (hr i hi).2.2.2 j (by omega); omega)
  have HO := Lib.hid (show ∃ f : Nat → Value, Own w lo 43 (2 * n) f ∧ ∀ i, i < n → ∃ q : Int, f (i * 2) = .int .i64 q ∧ f (i * 2 + 1) = .slice (some ⟨G i, 0, none⟩) (nAt C i) (nAt C i) from ⟨_, ho, fun i _ => ⟨_, comV_q C G i, comV_w C G i⟩⟩)
  have HR := Lib.hid (show ∀ i, i < n → RowAt w (some ⟨G i, 0, none⟩) (nAt C i) from fun i hi => Or.inr ⟨G i, _, rfl, (hr i hi).2.2.1⟩)
  clear ho hr hn
  go_enter Try.func15, Try.ntmps15
  go_wp2
  go_loopw [1, 5] (fun q i wr => ∃ k : Nat, k ≤ n ∧ i = .int .i64 k ∧ q = .int .i64 (kk + k + (csum C k : Nat)) ∧ (∃ f : Nat → Value, Own wr lo 43 (2 * n) f ∧ ∀ i, i < n → ∃ q : Int, f (i * 2) = .int .i64 q ∧ f (i * 2 + 1) = .slice (some ⟨G i, 0, none⟩) (nAt C i) (nAt C i)) ∧ (∀ i, i < n → RowAt wr (some ⟨G i, 0, none⟩) (nAt C i)) ∧ Turn lo hi w wr) (fun _ i _ => n - (intOf i).toNat)
  case atStart => exact ⟨0, Nat.zero_le _, rfl, by simp [csum], HO.out, HR.out, Turn.refl _ _ _⟩
  case round =>
    obtain ⟨k, hk, rfl, rfl, ⟨f, hown, hf⟩, hrow, ht⟩ := hrel
    have HOr := Lib.hid hown
    have HF := Lib.hid hf
    have HRr := Lib.hid hrow
    have HT := Lib.hid ht
    clear hown hf hrow ht
    by_cases hlt : k < n
    · have hS := csum_row C hlt
      have HS := Lib.hid (csum_succ C k)
      have hml : nAt C k ≤ 1048576 := by have := HROW.out k hlt; omega
      obtain ⟨qo, e0, e1⟩ := HF.out k hlt
      have hc0 := HOr.out.cell (i := k * 2) (by omega)
      have hc1 := HOr.out.cell (i := k * 2 + 1) (by omega)
      have hf0 := HOr.out.frozen (k * 2)
      have hf1 := HOr.out.frozen (k * 2 + 1)
      rw [e0] at hc0
      rw [e1] at hc1
      obtain ⟨hg1, hg2⟩ := HG.out k hlt
      obtain ⟨z, hz⟩ : ∃ z : Int, z = kk + k + (csum C k : Nat) := ⟨_, rfl⟩
      have hz0 : 0 ≤ z := by omega
      have hz1 : z + 1 ≤ 1048577 := by omega
      rw [← hz]
      have HZ := Lib.hid hz
      have HO1 := Lib.hid (HOr.out.set (k * 2) (.int .i64 z))
      have HT1 := Lib.hid (HT.out.trans (Turn.of_grown (grown_set (grown_refl wr (some lo)) (k * 2) (.int .i64 z)) (lo := lo) (hi := hi) (fun j hj => by simp at hj; omega)))
      have HR1 := Lib.hid (show RowAt (wr.setCell ⟨lo, k * 2, none⟩ (.int .i64 z)) (some ⟨G k, 0, none⟩) (nAt C k) from by
        rcases HRr.out k hlt with h | ⟨g, f', hA, h⟩
        · exact Or.inl h
        · injection hA with hA; injection hA with hA; subst hA
          exact Or.inr ⟨G k, f', rfl, h.far (by simp; omega) _⟩)
      clear hz e0 e1
      obtain ⟨m, hmm⟩ : ∃ m, m = nAt C k := ⟨_, rfl⟩
      rw [← hmm] at hml hc1 HS HR1 hS
      have HMM := Lib.hid hmm
      clear hmm
      go_wp2_with (go_at_call 44; refine (markIntS_any (some ⟨G k, 0, none⟩) m m (z + 1) _ (by omega) hz1 hml HR1.out).mono ?_; rintro e w2 ⟨rfl, ho2, hm2⟩)
      have HM2 := Lib.hid hm2
      have HT2 := Lib.hid (HT1.out.trans (Turn.of_grown ho2 (lo := lo) (hi := hi) (fun j hj => by simp at hj; omega)))
      have HO2 := Lib.hid (show Own w2 lo 43 (2 * n) (fun j => if j = k * 2 then .int .i64 z else f j) from HO1.out.of_block (ho2.block lo HO1.out.lt (by simp; omega)))
      have HR2 := Lib.hid (show ∀ i, i < n → RowAt w2 (some ⟨G i, 0, none⟩) (nAt C i) from fun i hi => by
        by_cases e : i = k
        · subst e
          rw [← HMM.out]
          rcases HM2.out with h | ⟨g, hA, h⟩
          · exact Or.inl h
          · exact Or.inr ⟨g, _, hA, h⟩
        · rcases HRr.out i hi with h | ⟨g, f', hA, h⟩
          · exact Or.inl h
          · have hgi : g = G i := by injection hA with hA; injection hA with hA; exact hA.symm
            subst hgi
            refine Or.inr ⟨G i, f', rfl, ?_⟩
            have h' := h.far (p := ⟨lo, k * 2, none⟩) (by have := (HG.out i hi).1; simp; omega) (.int .i64 z)
            exact h'.of_block (ho2.block (G i) h'.lt (by have := HD.out i k hi hlt e; simpa using this)))
      clear ho2 hm2
      go_roundw
      case rel =>
        refine ⟨k + 1, by omega, by go_num, ?_, ⟨_, HO2.out, fun i hi => ?_⟩, HR2.out, HT2.out⟩
        · rw [HS.out, HZ.out]; congr 1; push_cast; omega
        · obtain ⟨q1, e0, e1⟩ := HF.out i hi
          by_cases e : i = k
          · subst e
            exact ⟨z, if_pos rfl, by rw [if_neg (by omega)]; exact e1⟩
          · exact ⟨q1, by rw [if_neg (by omega)]; exact e0, by rw [if_neg (by omega)]; exact e1⟩
      case measure => simp [intOf]; omega
    · obtain rfl : k = n := by omega
      go_wp2
      go_ret
      exact ⟨⟨_, by omega, rfl⟩, HT.out⟩
theorem markCommitteeS_v (lo hi n c : Nat) (C : List (Int × List Int)) (kk : Int) (w : World) (hn : n = C.length) (hm : n + csum C n ≤ 1048576) (h0 : 0 ≤ kk) (_h1 : kk + n + (csum C n : Nat) ≤ 2097152) (hx : RCS C lo hi w) (hk1 : kk ≤ 1) :
    Calls Try.prog 15 #[.slice (some ⟨lo, 0, none⟩) n c, .int .i64 kk] w fun e w' => (∃ z : Int, 0 ≤ z ∧ e = .returned (.int .i64 z)) ∧ Turn lo hi w w' :=
  markCommitteeS_w lo hi n c C kk w hn hm h0 (by omega) hx
end Go.Proofs.Ytkckefjpkhjeaab
