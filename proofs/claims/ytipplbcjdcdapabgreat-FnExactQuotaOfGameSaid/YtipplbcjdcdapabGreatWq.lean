/- Contract of the model's weQuota. -/
import Derived.Test.YtipplbcjdcdapabGreatWa
import Derived.Test.YtipplbcjdcdapabGreatS1
import Derived.Test.YtipplbcjdcdapabGreatWb
namespace Go.Proofs.YtipplbcjdcdapabGreat
open Go.RowKit Vo

set_option maxRecDepth 20000 in
set_option maxHeartbeats 2000000 in
theorem weQuota_any (p : Nat → Bool) (g N cpw : Nat) (b off n cap : Nat) (ws : List Int) (w : World) (hn : n < 10) (hN : N = 2^n) (hok : InK 0 1000 ws n) (hsl : Sl w b off n ws) (ho : Own w g 4 N (fun j => .bool (p j))) :
    Calls Tryz.prog 15 #[.slice (some ⟨g, 0, none⟩) N cpw, .slice (some ⟨b, off, none⟩) n cap] w fun e w' => e = .returned (.tuple #[.int .i64 (mostK p ws n N + 1), .bool (decide (mostK p ws n N < fewK p ws n N))]) ∧ Below w.heap.size w w' := by
  have HOK := Lib.hid hok
  have HSL := Lib.hid hsl
  have HO := Lib.hid ho
  have h512 := pow_lt (n := n) (by omega)
  rw [← hN] at h512
  have HMB := Lib.hid (fun k => mostK_bd (p := p) hok (by omega) k)
  have HFB := Lib.hid (fun k => fewK_bd (p := p) hok (by omega) k)
  have hm0 : mostK p ws n 0 = -1 := rfl
  have hf0 : fewK p ws n 0 = -1 := rfl
  have HM0 := Lib.hid hm0
  have HF0 := Lib.hid hf0
  clear hok hsl ho hN hm0 hf0
  have hx := Box.new w (.int .i64 0) (.slice (some ⟨b, off, none⟩) n cap)
  have hb0 := below1 w (.cells #[.int .i64 0, .slice (some ⟨b, off, none⟩) n cap] 58)
  go_enter Tryz.func15, Tryz.ntmps15
  go_wp2_with fail
  go_loopw [7, 8, 16] (fun m l i wr => ∃ k : Nat, k ≤ N ∧ i = .int .i64 k ∧ m = .int .i64 (mostK p ws n k) ∧ l = .int .i64 (fewK p ws n k) ∧ Box wr w.heap.size (.int .i64 0) (.slice (some ⟨b, off, none⟩) n cap) ∧ Below w.heap.size w wr) (fun _ _ i _ => N - (intOf i).toNat)
  case atStart => exact ⟨0, Nat.zero_le _, rfl, by rw [HM0.out], by rw [HF0.out], hx, hb0⟩
  case round =>
    obtain ⟨k, hk, rfl, rfl, rfl, hx2, hb2⟩ := hrel
    have hmb := HMB.out k
    have hfb := HFB.out k
    by_cases hlt : k < N
    · have hcell := (Own.below HO.out hb2 HO.out.lt).cell hlt
      obtain ⟨c0, c1⟩ := hx2.cells
      have hs2 := Lib.hid (HSL.out.now hb2)
      have HM := Lib.hid (show mostK p ws n (k+1) = if p k = false ∧ mostK p ws n k < wtK ws k n then wtK ws k n else mostK p ws n k from rfl)
      have HF := Lib.hid (show fewK p ws n (k+1) = if p k = true ∧ (fewK p ws n k < 0 ∨ wtK ws k n < fewK p ws n k) then wtK ws k n else fewK p ws n k from rfl)
      obtain ⟨x, hx'⟩ : ∃ x, x = wtK ws k n := ⟨_, rfl⟩
      have HX := Lib.hid hx'
      rw [← hx'] at HM HF
      obtain ⟨mo, hmo⟩ : ∃ mo, mo = mostK p ws n k := ⟨_, rfl⟩
      obtain ⟨fe, hfe⟩ : ∃ fe, fe = fewK p ws n k := ⟨_, rfl⟩
      rw [← hmo] at HM hmb ⊢
      rw [← hfe] at HF hfb ⊢
      clear hx' hmo hfe
      cases hp : p k with
      | false =>
        rw [hp] at hcell HM HF
        clear hp
        have HF' := Lib.hid (HF.out.trans (if_neg (by simp)))
        by_cases hlx : mo < x
        · have HM' := Lib.hid (HM.out.trans (if_pos ⟨rfl, hlx⟩))
          go_wp2_with (go_at_call 28; refine (voWeight_any _ b off n cap ws k _ hn (by omega) HOK.out hs2.out).mono ?_; rw [← HX.out]; rintro e w4 ⟨rfl, hb4⟩)
          go_roundw
          case rel => exact ⟨k + 1, by omega, by go_num, by rw [HM'.out], by rw [HF'.out], hx2.now hb4, bfrom hb2 hb4⟩
          case measure => simp [intOf]; omega
        · have HM' := Lib.hid (HM.out.trans (if_neg fun h => hlx h.2))
          go_wp2_with (go_at_call 28; refine (voWeight_any _ b off n cap ws k _ hn (by omega) HOK.out hs2.out).mono ?_; rw [← HX.out]; rintro e w4 ⟨rfl, hb4⟩)
          go_roundw
          case rel => exact ⟨k + 1, by omega, by go_num, by rw [HM'.out], by rw [HF'.out], hx2.now hb4, bfrom hb2 hb4⟩
          case measure => simp [intOf]; omega
      | true =>
        rw [hp] at hcell HM HF
        clear hp
        have HM' := Lib.hid (HM.out.trans (if_neg (by simp)))
        by_cases hf : fe < 0
        · have HF' := Lib.hid (HF.out.trans (if_pos ⟨rfl, Or.inl hf⟩))
          go_wp2_with (go_at_call 28; refine (voWeight_any _ b off n cap ws k _ hn (by omega) HOK.out hs2.out).mono ?_; rw [← HX.out]; rintro e w4 ⟨rfl, hb4⟩)
          go_roundw
          case rel => exact ⟨k + 1, by omega, by go_num, by rw [HM'.out], by rw [HF'.out], hx2.now hb4, bfrom hb2 hb4⟩
          case measure => simp [intOf]; omega
        · by_cases hxf : x < fe
          · have HF' := Lib.hid (HF.out.trans (if_pos ⟨rfl, Or.inr hxf⟩))
            go_wp2_with (go_at_call 28; refine (voWeight_any _ b off n cap ws k _ hn (by omega) HOK.out hs2.out).mono ?_; rw [← HX.out]; rintro e w4 ⟨rfl, hb4⟩)
            go_roundw
            case rel => exact ⟨k + 1, by omega, by go_num, by rw [HM'.out], by rw [HF'.out], hx2.now hb4, bfrom hb2 hb4⟩
            case measure => simp [intOf]; omega
          · have HF' := Lib.hid (HF.out.trans (if_neg fun h => by rcases h.2 with h | h <;> omega))
            go_wp2_with (go_at_call 28; refine (voWeight_any _ b off n cap ws k _ hn (by omega) HOK.out hs2.out).mono ?_; rw [← HX.out]; rintro e w4 ⟨rfl, hb4⟩)
            go_roundw
            case rel => exact ⟨k + 1, by omega, by go_num, by rw [HM'.out], by rw [HF'.out], hx2.now hb4, bfrom hb2 hb4⟩
            case measure => simp [intOf]; omega
    · obtain rfl : k = N := by omega
      go_wp2
      go_ret2
      exact ⟨rfl, hb2⟩
end Go.Proofs.YtipplbcjdcdapabGreat
