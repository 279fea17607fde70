/- Contracts of the model's pivots. -/
import Derived.Test.YtkckefjpkhjeaabDoorN6
import Derived.Outline
namespace Go.Proofs.YtkckefjpkhjeaabDoor
open Go.RowKit Vo

/-- The orders of these swings. -/
def wayS (n : Nat) : List Nat → Nat
  | [] => 0
  | a :: t => wayP n (sz a) + wayS n t
theorem wayS_append (n : Nat) (L M : List Nat) : wayS n (L ++ M) = wayS n L + wayS n M := by
  induction L with
  | nil => simp [wayS]
  | cons a L ih => simp only [List.cons_append, wayS]; rw [ih]; omega
theorem wayS_swL (p : Nat → Bool) (n k N : Nat) : wayS n (swL p k N) = pivN p n k N := by
  induction N with
  | zero => rfl
  | succ N ih =>
    rw [swL_succ, wayS_append, ih, show pivN p n k (N+1) = pivN p n k N + if swP p k N then wayP n (sz N) else 0 from rfl]
    congr 1
    split <;> simp [wayS]
theorem wayS_take {n : Nat} {L : List Nat} {j : Nat} (h : j < L.length) : wayS n (L.take (j+1)) = wayS n (L.take j) + wayP n (sz (L.getD j 0)) := by
  rw [List.take_add_one, wayS_append, List.getElem?_eq_getElem h, List.getD_eq_getElem?_getD, List.getElem?_eq_getElem h]
  simp [wayS]
theorem wayS_le {n : Nat} (hn : n ≤ 9) (L : List Nat) : wayS n L ≤ 131681894400 * L.length := by
  induction L with
  | nil => simp [wayS]
  | cons a L ih =>
    have := wayP_le (n := n) (z := sz a) hn (mem_len a 9)
    simp only [wayS, List.length_cons, Nat.mul_succ]; omega
theorem swL_get {p : Nat → Bool} {n k N j : Nat} (hn : n ≤ 9) (hk : k < n) (hN : N ≤ 2^n) (h : j < (swL p k N).length) : (swL p k N).getD j 0 < N ∧ sz ((swL p k N).getD j 0) < n := by
  have hm : (swL p k N).getD j 0 ∈ swL p k N := by rw [List.getD_eq_getElem?_getD, List.getElem?_eq_getElem h]; exact List.getElem_mem h
  generalize (swL p k N).getD j 0 = s at *
  have h2 := List.mem_filter.1 hm
  have hs : s < N := by simpa using h2.1
  have hb : s.testBit k = false := by have := h2.2; unfold swP at this; simp at this; exact this.1
  exact ⟨hs, sz_lt hn (show s < 2^n by omega) hk hb⟩

set_option maxHeartbeats 4000000 in
theorem pwPivots_any (p : Nat → Bool) (n g cap : Nat) (w : World) (hn : n < 10) (hw : WinsIn p n g w) :
    Calls Tryd.prog 57 #[.slice (some ⟨g, 0, none⟩) (2^n : Nat) cap, .int .i64 n] w fun e w' => IntsAt (perL (fun k => pivN p n k (2^n)) n) w w' e := by
  obtain ⟨i0, hi0, hz0, hz1, hz2⟩ := infoIntParts
  have hgl := hw.lt
  have h512 := pow_lt (n := n) (by omega)
  have HC := Lib.hid (fun k (W : World) (hk : k < n) (hb : Below w.heap.size w W) => pwSwings_any p n k g cap W hn hk (Own.below hw hb hgl))
  obtain ⟨f, hf⟩ : ∃ f, f = fun k => pivN p n k (2^n) := ⟨_, rfl⟩
  have HFB := Lib.hid (show ∀ k, f k ≤ 131681894400 * 512 from fun k => by rw [hf]; exact pivN_le (by omega) h512)
  have HFE := Lib.hid (show ∀ k, wayS n (swL p k (2^n)) = f k from fun k => by rw [hf]; exact wayS_swL p n k (2^n))
  have HG := Lib.hid (show ∀ k j, k < n → j < (swL p k (2^n)).length → (swL p k (2^n)).getD j 0 < 512 ∧ sz ((swL p k (2^n)).getD j 0) < n from fun k j hk hj => by
    have := swL_get (p := p) (n := n) (k := k) (N := 2^n) (by omega) hk (Nat.le_refl _) hj
    exact ⟨by omega, this.2⟩)
  have HLL := Lib.hid (show ∀ k, (swL p k (2^n)).length ≤ 512 from fun k => Nat.le_trans (swL_le p k (2^n)) h512)
  rw [← hf]
  clear hw hf h512
  obtain ⟨N, hN⟩ : ∃ N, 2^n = N := ⟨_, rfl⟩
  rw [hN] at HFE HC HG HLL ⊢
  clear hN
  go_enter Tryd.func57, Tryd.ntmps57
  go_wp2
  go_loopw [5, 6] (fun u i wr => ∃ (j : Nat) (A : Option Addr) (cap : Nat), j ≤ n ∧ i = .int .i64 j ∧ u = .slice A j cap ∧ wr.ownsRow w.heap.size 3 1 (.slice A j cap) j ((perL f j).map (Value.int .i64)) ∧ Below w.heap.size w wr) (fun _ i _ => n - (intOf i).toNat)
  case atStart => exact ⟨0, none, 0, by omega, rfl, rfl, World.ownsRow_nil _ _ _ _, Below.refl _ _⟩
  case round =>
    obtain ⟨k, A, cap3, hj, rfl, rfl, hown, hbr⟩ := hrel
    have HO := Lib.hid hown
    have hszr := hbr.size
    clear hown
    by_cases hlt : k < n
    · have HS := Lib.hid (perL_succ f k)
      have hfb := HFB.out k
      have HFK := Lib.hid (HFE.out k)
      have HGK := Lib.hid (fun j => HG.out k j hlt)
      have hll := HLL.out k
      go_wp2_with fail
      refine (HC.out k _ hlt hbr).mono ?_
      rintro e w5 ⟨A5, cap5, rfl, hown5, hb5⟩
      have HO5 := Lib.hid (owns_now HO.out hb5)
      have b5 := hbr.trans (hb5.mono hszr)
      have hsz5 := b5.size
      obtain ⟨L, hL⟩ : ∃ L, swL p k N = L := ⟨_, rfl⟩
      rw [hL] at hown5 HFK HGK hll ⊢
      clear hL
      rw [natsL_len] at hown5 ⊢
      have HOL := Lib.hid hown5
      clear hown5 hb5
      go_wp2_with fail
      go_loopw [7, 9, 10, 20] (fun t _ _ i wr2 => ∃ j : Nat, j ≤ L.length ∧ i = .int .i64 j ∧ t = .int .i64 (wayS n (L.take j) : Nat) ∧ Below w5.heap.size w5 wr2) (fun _ _ _ i _ => L.length - (intOf i).toNat)
      case atStart => exact ⟨0, Nat.zero_le _, rfl, rfl, Below.refl _ _⟩
      case round =>
        obtain ⟨j, hj2, rfl, rfl, hb2⟩ := hrel
        have hwl : wayS n (L.take j) ≤ 131681894400 * 512 := Nat.le_trans (wayS_le (by omega) _) (Nat.mul_le_mul_left _ (by have := List.length_take_le j L; omega))
        by_cases hlt2 : j < L.length
        · obtain ⟨gl, cp, hv, hgl2, _, _⟩ := owns_head HOL.out (by omega)
          obtain ⟨rfl, rfl⟩ : A5 = some ⟨gl, 0, none⟩ ∧ cap5 = cp := by simpa using hv
          have hOwn : Own w5 gl 3 L.length (fun i => .int .i64 (L.getD i 0 : Nat)) := Own.of_own HOL.out (fun i hi => by simp [natsL, List.getD_eq_getElem?_getD, hi])
          have hcell := (Own.now' hOwn hb2).cell hlt2
          obtain ⟨hs512, hsz⟩ := HGK.out j hlt2
          have HST := Lib.hid (wayS_take (n := n) hlt2)
          clear hOwn hv
          generalize L.getD j 0 = s at *
          have HZ := Lib.hid (show (mem s 9).length = sz s from rfl)
          have HST2 := Lib.hid (show wayS n (L.take (j+1)) = wayS n (L.take j) + fact (sz s) * fact (n - 1 - sz s) from HST.out)
          have hf2 := fact_le (n := sz s) (by omega)
          have hf3 := fact_le (n := n - 1 - sz s) (by omega)
          have hm2 := mul_small hf2 hf3
          have HSB := Lib.hid (show ((n : Int) - 1 - (sz s : Nat)) = ((n - 1 - sz s : Nat) : Int) from by omega)
          have HF1 := Lib.hid (fun W => pwTimes_any (sz s) W (by omega))
          have HF2 := Lib.hid (fun W => pwTimes_any (n - 1 - sz s) W (by omega))
          generalize wayS n (L.take j) = t at *
          obtain ⟨z, hz⟩ : ∃ z, z = sz s := ⟨_, rfl⟩
          rw [← hz] at HZ HST2 hf2 hf3 hm2 HSB HF1 HF2 hsz
          clear hz HST
          generalize fact z = x at *
          generalize fact (n - 1 - z) = y at *
          have hw1 : wrap64 ((x : Int) * y) = (x : Int) * y := by rw [show ((x : Int) * y) = ((x * y : Nat) : Int) from by simp]; exact IntWalk.wrap64_in _ (by generalize x * y = u at *; omega)
          have hw2 : wrap64 ((t : Int) + (x : Int) * y) = (t : Int) + (x : Int) * y := by rw [show ((x : Int) * y) = ((x * y : Nat) : Int) from by simp]; exact IntWalk.wrap64_in _ (by generalize x * y = u at *; omega)
          clear hm2
          go_wp2_with (first
            | (go_at_call 82; refine (voList_any s _ hs512).mono ?_; rintro e w6 ⟨A6, cap6, rfl, hown6, hb6⟩; rw [HZ.out])
            | (go_at_call 83; (with_reducible refine (HF1.out _).mono ?_); rintro e w7 ⟨rfl, rfl⟩)
            | (go_at_call 83; rw [HSB.out]; (with_reducible refine (HF2.out _).mono ?_); rintro e w8 ⟨rfl, rfl⟩))
          go_roundw
          case rel => exact ⟨j + 1, by omega, by go_num, by rw [HST2.out]; simp [hw2], bfrom hb2 hb6⟩
          case measure => simp [intOf]; omega
        · obtain rfl : j = L.length := by omega
          have HE := Lib.hid (show wayS n (L.take L.length) = f k from by rw [List.take_length, HFK.out])
          have HO6 := Lib.hid (owns_now HO5.out hb2)
          have b6 := b5.trans (hb2.mono hsz5)
          have hsz6 := b6.size
          rw [HE.out]
          go_wp2_with (at_builtin; refine wpList_append_lies _ rfl _ _ _ rfl w.heap.size 3 i0 _ 1 8 Tryd.underlying22 hi0 hz0 hz1 hz2 rfl (by decide) (.slice A k cap3) k ((perL f k).map (Value.int .i64)) rfl (HO6.out.alloc _) ⟨wr.heap.size, 0, none⟩ 1 1 [.int .i64 (f k : Nat)] rfl rfl (World.news_of_block (cs := #[.int .i64 (f k : Nat)]) (t := 3) (fr := (0, 0)) (heap_alloc_new wr _)) (by simp [Value.oneCell']) (by omega) (by unfold maxLen; omega) (by omega) (by simp; omega) (wr.heap.size + 1) (by simp) ?_; intro gg cap4 w9 hown9 hgrow9 hat hlt9)
          have b9 : Below w.heap.size w w9 := (b6.alloc hsz6 (.cells #[.int .i64 (f k : Nat)] 3)).grown hgrow9 (by simp; omega) fun i hi => owns_le HO6.out hi
          go_roundw
          case rel => exact ⟨k + 1, some ⟨gg, 0, none⟩, cap4, by omega, by go_num, by simp, by rw [HS.out]; simpa using hown9, b9⟩
          case measure => simp [intOf]; omega
    · obtain rfl : k = n := by omega
      have HLE := Lib.hid (perL_len f k)
      go_wp2
      go_ret
      exact ⟨A, cap3, by rw [HLE.out]; rfl, by rw [HLE.out]; exact HO.out, hbr⟩

end Go.Proofs.YtkckefjpkhjeaabDoor
