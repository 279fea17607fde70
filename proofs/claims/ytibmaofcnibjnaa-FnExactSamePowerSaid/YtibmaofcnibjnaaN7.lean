/- Contracts of the model's pivots. -/
import Derived.Outline
import Derived.Test.YtibmaofcnibjnaaN5
import Derived.Deep.RegionHeld3
namespace Go.Proofs.Ytibmaofcnibjnaa
open Go.RowKit Vo

/-- A slice in a block of the call's own that holds these integers. -/
def RowOf (L : List Int) (w w' : World) (e : Ending) : Prop :=
  ∃ g cap, e = .returned (.slice (some ⟨g, 0, none⟩) L.length cap) ∧ w.heap.size ≤ g ∧ Ints w' g L.length L ∧ Below w.heap.size w w'

theorem Own.now' {w w' : World} {g : Nat} {t : TypeId} {n : Nat} {f : Nat → Value} (h : Own w g t n f) (hb : Below w.heap.size w w') : Own w' g t n f := h.below hb h.lt

theorem sizN_succ (p : Nat → Bool) (k j z : Nat) : sizN p k (j+1) z = sizN p k j z + if (swP p k j && decide (sz j = z)) then 1 else 0 := rfl

set_option maxHeartbeats 4000000 in
theorem countSwingsBySize_any (q : Int) (b off n cap : Nat) (ws : List Int) (k : Nat) (w : World) (hn : n < 10) (hk : k < n) (hok : InK 0 1000 ws n) (hsl : Sl w b off n ws) :
    Calls Try.prog 102 #[.agg #[.int .i64 q, .slice (some ⟨b, off, none⟩) n cap], .int .i64 k] w fun e w' => RowOf (perL (sizN (winB q ws n) k (2^n)) n) w w' e := by
  have HOK := Lib.hid hok
  have HSL := Lib.hid hsl
  clear hok hsl
  have hx := Box.new w (.int .i64 q) (.slice (some ⟨b, off, none⟩) n cap)
  have hb0 := below1 w (.cells #[.int .i64 q, .slice (some ⟨b, off, none⟩) n cap] 24)
  have hmk := run_make_row' (P := Try.prog) 22 3 (.int .i64 0) 8 Try.underlying22 infoInt rfl .i64 .i64 n (by omega) (by omega)
  have h512 := pow_lt (n := n) (by omega)
  have hpos := Nat.two_pow_pos n
  have HIS := Lib.hid (fun (s : Nat) (W : World) (hs : s < 2^n) (h : Sl W b off n ws) => isSwing_any q b off n cap ws s k W hn hs hk HOK.out h)
  have HSZ := Lib.hid (show ∀ s, s < 2^n → swP (winB q ws n) k s = true → sz s < n from fun s hs h => by
    have hb : s.testBit k = false := by unfold swP at h; simp at h; exact h.1
    exact sz_lt (by omega) hs hk hb)
  obtain ⟨p, hp⟩ : ∃ p, p = winB q ws n := ⟨_, rfl⟩
  rw [← hp] at HIS HSZ ⊢
  obtain ⟨N, hN⟩ : ∃ N, N = 2^n := ⟨_, rfl⟩
  have HP := Lib.hid (show (((2^n - 1 : Nat) : Int) + 1) = (N : Int) from by omega)
  rw [← hN] at h512 hpos HIS HSZ ⊢
  clear hN hp
  go_enter Try.func102, Try.ntmps102
  go_wp2_with (first
    | (go_at_call 66; refine (members_any _ _ n cap _).mono ?_; rintro e w1 ⟨rfl, hb1⟩; have hx1 := hx.now hb1; have hlt1 := hx1.lt; obtain ⟨c0, c1⟩ := hx1.cells)
    | (go_at_call 51; refine (everybody_any _ _ n cap _ hn).mono ?_; rintro e w2 ⟨rfl, hb2⟩))
  rw [HP.out]
  have g1 := bfrom hb0 hb1
  have hx2 := (hx1.alloc (.cells (madeCells #[.int .i64 0] n) 3)).now hb2
  have g2 := bfrom (g1.alloc g1.size (.cells (madeCells #[.int .i64 0] n) 3)) hb2
  have HO2 := Lib.hid (show Own w2 w1.heap.size 3 n (fun z => .int .i64 (sizN p k 0 z : Nat)) from
    Own.now' ((Own.of_row (World.rowIs_made w1 (.int .i64 0) n 3)).congr fun i _ => rfl) hb2)
  have hz1 : w.heap.size ≤ w1.heap.size := g1.size
  have hz1' : w.heap.size < w1.heap.size := hx1.lt
  clear c0 c1 hmk hx1 hb1 hb2 hx
  go_loopw [6, 13] (fun _ i wr => ∃ j : Nat, j ≤ N ∧ i = .int .u64 j ∧ Own wr w1.heap.size 3 n (fun z => .int .i64 (sizN p k j z : Nat)) ∧ Box wr w.heap.size (.int .i64 q) (.slice (some ⟨b, off, none⟩) n cap) ∧ Below w.heap.size w wr) (fun _ i _ => N - (intOf i).toNat)
  case atStart => exact ⟨0, Nat.zero_le _, rfl, HO2.out, hx2, g2⟩
  case round =>
    obtain ⟨j, hj, rfl, hown, hxr, hbr⟩ := hrel
    have HO := Lib.hid hown
    clear hown
    obtain ⟨c0, c1⟩ := hxr.cells
    by_cases hlt : j < N
    · have HSr := Lib.hid (HSL.out.now hbr)
      have HS := Lib.hid (fun z => sizN_succ p k j z)
      cases hsw : swP p k j
      · have HW := Lib.hid hsw
        rw [hsw] at HS
        clear hsw
        go_wp2_with (go_at_call 111; refine (HIS.out j _ hlt HSr.out).mono ?_; rw [HW.out]; rintro e w3 ⟨rfl, hb3⟩)
        have hx3 := hxr.now hb3
        go_roundw
        case rel => exact ⟨j + 1, by omega, by go_num, (HO.out.now' hb3).congr fun z _ => by rw [HS.out]; simp, hx3, bfrom hbr hb3⟩
        case measure => simp [intOf]; omega
      · have HW := Lib.hid hsw
        have hzj := HSZ.out j hlt hsw
        have hsle : sizN p k j (sz j) ≤ 512 := Nat.le_trans (cnt_le _ _) (by omega)
        rw [hsw] at HS
        clear hsw
        have HZ := Lib.hid (show sz j = (mem j 9).length from rfl)
        obtain ⟨z, hz⟩ : ∃ z, z = sz j := ⟨_, rfl⟩
        rw [← hz] at hzj hsle HZ
        have HZE := Lib.hid hz
        clear hz
        go_wp2_with (first
          | (go_at_call 111; refine (HIS.out j _ hlt HSr.out).mono ?_; rw [HW.out]; rintro e w3 ⟨rfl, hb3⟩; have HO3 := Lib.hid (HO.out.now' hb3); have hcell := HO3.out.cell hzj; have hfr := HO3.out.frozen z; have hx3 := hxr.now hb3; have hgl3 := HO3.out.lt)
          | (go_at_call 83; refine (size_any j _ (by omega)).mono ?_; rintro e w4 ⟨rfl, rfl⟩; rw [← HZ.out]))
        have HST := Lib.hid (HO3.out.set z (.int .i64 ((sizN p k j z : Nat) + 1)))
        have hx4 := hx3.far (p := ⟨w1.heap.size, z, none⟩) (show w.heap.size ≠ w1.heap.size by omega) (.int .i64 ((sizN p k j z : Nat) + 1))
        have b4 := (bfrom hbr hb3).setCell (p := ⟨w1.heap.size, z, none⟩) hz1 (.int .i64 ((sizN p k j z : Nat) + 1))
        go_roundw
        case rel =>
          refine ⟨j + 1, by omega, by go_num, HST.out.congr fun i hi => ?_, hx4, b4⟩
          rw [HS.out i]
          by_cases e : i = z
          · subst e; rw [if_pos rfl, ← HZE.out]; simp
          · rw [if_neg e, ← HZE.out]; simp [show ¬ z = i from fun h => e h.symm]
        case measure => simp [intOf]; omega
    · obtain rfl : j = N := by omega
      go_wp2
      go_ret
      have hl := perL_len (sizN p k j) n
      refine ⟨w1.heap.size, n, by rw [hl]; rfl, hz1, ?_, hbr⟩
      rw [hl]
      exact HO.out.congr fun i hi => by rw [perL_get hi]

theorem mul_small {a b A B : Nat} (ha : a ≤ A) (hb : b ≤ B) : a * b ≤ A * B := Nat.mul_le_mul ha hb

set_option maxHeartbeats 4000000 in
theorem countPivots_any (q : Int) (b off n cap : Nat) (ws : List Int) (k : Nat) (w : World) (hn : n < 10) (hk : k < n) (hok : InK 0 1000 ws n) (hsl : Sl w b off n ws) :
    Calls Try.prog 95 #[.agg #[.int .i64 q, .slice (some ⟨b, off, none⟩) n cap], .int .i64 k] w fun e w' => e = .returned (.int .i64 (pivN (winB q ws n) n k (2^n) : Nat)) ∧ Below w.heap.size w w' := by
  have HOK := Lib.hid hok
  have HSL := Lib.hid hsl
  clear hok hsl
  have hx := Box.new w (.int .i64 q) (.slice (some ⟨b, off, none⟩) n cap)
  have hb0 := below1 w (.cells #[.int .i64 q, .slice (some ⟨b, off, none⟩) n cap] 24)
  have h512 := pow_lt (n := n) (by omega)
  have HE := Lib.hid (pivN_sizes (p := winB q ws n) (n := n) (k := k) (N := 2^n) (by omega) hk (Nat.le_refl _))
  have HB := Lib.hid (show ∀ j, j ≤ n → sumN (fun z => sizN (winB q ws n) k (2^n) z * wayP n z) j ≤ 512 * 131681894400 * 9 from fun j hj => by
    refine Nat.le_trans (sumN_le (B := 512 * 131681894400) fun z hz => ?_) (Nat.mul_le_mul_left _ (by omega))
    exact mul_small (Nat.le_trans (cnt_le _ _) h512) (wayP_le (by omega) (by omega)))
  obtain ⟨f, hf⟩ : ∃ f, f = sizN (winB q ws n) k (2^n) := ⟨_, rfl⟩
  have HF := Lib.hid (show ∀ z, f z ≤ 512 from fun z => by rw [hf]; exact Nat.le_trans (cnt_le _ _) h512)
  rw [← hf] at HE HB
  have HFE := Lib.hid hf
  clear hf h512
  go_enter Try.func95, Try.ntmps95
  go_wp2_with fail
  refine (countSwingsBySize_any q b off n cap ws k _ hn hk HOK.out (HSL.out.now hb0)).mono ?_
  rintro e w1 ⟨g, cap1, rfl, hg, hrow, hb1⟩
  rw [← HFE.out] at hrow ⊢
  have hl := perL_len f n
  rw [hl] at hrow ⊢
  clear hl
  have HO := Lib.hid hrow
  have hgl : g < w1.heap.size := Own.lt hrow
  have hx1 := hx.now hb1
  have g1 := bfrom hb0 hb1
  clear hrow hx hb1
  go_wp2_with fail
  go_loopw [5, 6, 7, 12] (fun t _ _ i wr => ∃ j : Nat, j ≤ n ∧ i = .int .i64 j ∧ t = .int .i64 (sumN (fun z => f z * wayP n z) j : Nat) ∧ Below w1.heap.size w1 wr) (fun _ _ _ i _ => n - (intOf i).toNat)
  case atStart => exact ⟨0, Nat.zero_le _, rfl, rfl, Below.refl _ _⟩
  case round =>
    obtain ⟨j, hj, rfl, rfl, hbr⟩ := hrel
    have hxr := hx1.now hbr
    obtain ⟨c0, c1⟩ := hxr.cells
    have hbd := HB.out j hj
    by_cases hlt : j < n
    · have hcell := (Own.below HO.out hbr hgl).cell hlt
      have HPG := Lib.hid (perL_get (f := f) hlt)
      rw [HPG.out] at hcell
      have HS := Lib.hid (show sumN (fun z => f z * wayP n z) (j+1) = sumN (fun z => f z * wayP n z) j + f j * (fact j * fact (n - 1 - j)) from rfl)
      have hf1 := HF.out j
      have hf2 := fact_le (n := j) (by omega)
      have hf3 := fact_le (n := n - 1 - j) (by omega)
      have hm1 := mul_small hf1 hf2
      have hm2 := mul_small hm1 hf3
      have HA := Lib.hid (show f j * (fact j * fact (n - 1 - j)) = f j * fact j * fact (n - 1 - j) from by rw [Nat.mul_assoc])
      have HSB := Lib.hid (show IntKind.i64.wrap (IntKind.i64.wrap ((n : Int) - 1) - j) = ((n - 1 - j : Nat) : Int) from by rw [IntWalk.i64_in ((n : Int) - 1) (by omega), IntWalk.i64_in _ (by omega)]; omega)
      have HF1 := Lib.hid (fun W => factorial_any j W (by omega))
      have HF2 := Lib.hid (fun W => factorial_any (n - 1 - j) W (by omega))
      generalize sumN (fun z => f z * wayP n z) j = t at *
      generalize f j = x at *
      generalize fact j = y at *
      generalize fact (n - 1 - j) = z at *
      have hw1 : IntKind.i64.wrap ((x : Int) * y) = ((x * y : Nat) : Int) := by rw [show ((x : Int) * y) = ((x * y : Nat) : Int) from by simp]; exact IntWalk.i64_in _ (by generalize x * y = u at *; omega)
      have HX := Lib.hid (show IntKind.i64.wrap ((t : Int) + IntKind.i64.wrap ((x : Int) * y * z)) = ((t + x * y * z : Nat) : Int) from by
        rw [show ((x : Int) * y * z) = ((x * y * z : Nat) : Int) from by simp]
        generalize x * y * z = u at *
        rw [IntWalk.i64_in (u : Int) (by omega), IntWalk.i64_in _ (by omega)]; omega)
      go_wp2_with fail
      go_region_held3 (fun w' => w'.cell? ⟨w.heap.size, 0, none⟩ = some (.int .i64 q) ∧ w'.cell? ⟨w.heap.size, 1, none⟩ = some (.slice (some ⟨b, off, none⟩) n cap))
        (first | exact hd | exact hxr.cells | go_keep)
        (first
          | (go_at_call 103; (with_reducible refine (HF1.out _).mono ?_); rintro e w4 ⟨rfl, rfl⟩)
          | (go_at_call 103; rw [HSB.out]; (with_reducible refine (HF2.out _).mono ?_); rintro e w5 ⟨rfl, rfl⟩)
          | (go_at_call 66; refine (members_any _ _ n cap _).mono ?_; rintro e w3 ⟨rfl, hb3⟩; have hd := (hxr.drew.now hb3).cells))
      all_goals
        have b4 := bfrom hbr.drew hb3
        go_wp2
        go_roundw
        case rel => exact ⟨j + 1, by omega, by go_num, by rw [HS.out, HA.out]; rw [HX.out], b4⟩
        case measure => simp [intOf]; omega
    · obtain rfl : j = n := by omega
      go_wp2
      go_ret
      exact ⟨by rw [HE.out]; rfl, bfrom g1 hbr⟩

/-- Of how many orders each member is the pivot. -/
def pivotN (q : Int) (ws : List Int) (n : Nat) (k : Nat) : Nat := pivN (winB q ws n) n k (2^n)
def pivotsL (q : Int) (ws : List Int) (n : Nat) : List Int := okL (goodB q ws n) (perL (pivotN q ws n) n)
theorem pivotsL_len (q : Int) (ws : List Int) (n : Nat) : (pivotsL q ws n).length ≤ 1048576 := by
  by_cases hg : Vo.Good q ws n
  · exact okL_len (by rw [perL_len]; have := hg.hi; omega)
  · unfold pivotsL; rw [okL_no (goodB_false hg)]; simp

theorem countPivots_nums (q : Int) (b off n cap : Nat) (ws : List Int) (w : World) (hn : n < 10) (hok : InK 0 1000 ws n) (hsl : Sl w b off n ws) :
    Nums (pivotN q ws n) 95 #[.agg #[.int .i64 q, .slice (some ⟨b, off, none⟩) n cap]] #[] n w :=
  ⟨enters_of Try.func95 (by kernel_rfl) rfl, fun W k hk hb => countPivots_any q b off n cap ws k W hn hk hok (hsl.now hb)⟩

end Go.Proofs.Ytibmaofcnibjnaa

namespace Go.Proofs.Ytibmaofcnibjnaa
open Go.RowKit Vo

/-- The orders of these swings. -/
def wayS (n : Nat) : List Nat → Nat
  | [] => 0
  | a :: t => wayP n (sz a) + wayS n t
theorem wayS_append (n : Nat) (L M : List Nat) : wayS n (L ++ M) = wayS n L + wayS n M := by
  induction L with
  | nil => simp [wayS]
  | cons a L ih => simp only [List.cons_append, wayS]; rw [ih]; omega
theorem wayS_swL (p : Nat → Bool) (n k N : Nat) : wayS n (swL p k N) = pivN p n k N := by
  induction N with
  | zero => rfl
  | succ N ih =>
    rw [swL_succ, wayS_append, ih, show pivN p n k (N+1) = pivN p n k N + if swP p k N then wayP n (sz N) else 0 from rfl]
    congr 1
    split <;> simp [wayS]
theorem wayS_take {n : Nat} {L : List Nat} {j : Nat} (h : j < L.length) : wayS n (L.take (j+1)) = wayS n (L.take j) + wayP n (sz (L.getD j 0)) := by
  rw [List.take_add_one, wayS_append, List.getElem?_eq_getElem h, List.getD_eq_getElem?_getD, List.getElem?_eq_getElem h]
  simp [wayS]
theorem wayS_le {n : Nat} (hn : n ≤ 9) (L : List Nat) : wayS n L ≤ 131681894400 * L.length := by
  induction L with
  | nil => simp [wayS]
  | cons a L ih =>
    have := wayP_le (n := n) (z := sz a) hn (mem_len a 9)
    simp only [wayS, List.length_cons, Nat.mul_succ]; omega
theorem swL_get {p : Nat → Bool} {n k N j : Nat} (hn : n ≤ 9) (hk : k < n) (hN : N ≤ 2^n) (h : j < (swL p k N).length) : (swL p k N).getD j 0 < N ∧ sz ((swL p k N).getD j 0) < n := by
  have hm : (swL p k N).getD j 0 ∈ swL p k N := by rw [List.getD_eq_getElem?_getD, List.getElem?_eq_getElem h]; exact List.getElem_mem h
  generalize (swL p k N).getD j 0 = s at *
  have h2 := List.mem_filter.1 hm
  have hs : s < N := by simpa using h2.1
  have hb : s.testBit k = false := by have := h2.2; unfold swP at this; simp at this; exact this.1
  exact ⟨hs, sz_lt hn (show s < 2^n by omega) hk hb⟩

set_option maxHeartbeats 4000000 in
theorem pwPivots_any (p : Nat → Bool) (n g cap : Nat) (w : World) (hn : n < 10) (hw : WinsIn p n g w) :
    Calls Try.prog 64 #[.slice (some ⟨g, 0, none⟩) (2^n : Nat) cap, .int .i64 n] w fun e w' => IntsAt (perL (fun k => pivN p n k (2^n)) n) w w' e := by
  obtain ⟨i0, hi0, hz0, hz1, hz2⟩ := infoIntParts
  have hgl := hw.lt
  have h512 := pow_lt (n := n) (by omega)
  have HC := Lib.hid (fun k (W : World) (hk : k < n) (hb : Below w.heap.size w W) => pwSwings_any p n k g cap W hn hk (Own.below hw hb hgl))
  obtain ⟨f, hf⟩ : ∃ f, f = fun k => pivN p n k (2^n) := ⟨_, rfl⟩
  have HFB := Lib.hid (show ∀ k, f k ≤ 131681894400 * 512 from fun k => by rw [hf]; exact pivN_le (by omega) h512)
  have HFE := Lib.hid (show ∀ k, wayS n (swL p k (2^n)) = f k from fun k => by rw [hf]; exact wayS_swL p n k (2^n))
  have HG := Lib.hid (show ∀ k j, k < n → j < (swL p k (2^n)).length → (swL p k (2^n)).getD j 0 < 512 ∧ sz ((swL p k (2^n)).getD j 0) < n from fun k j hk hj => by
    have := swL_get (p := p) (n := n) (k := k) (N := 2^n) (by omega) hk (Nat.le_refl _) hj
    exact ⟨by omega, this.2⟩)
  have HLL := Lib.hid (show ∀ k, (swL p k (2^n)).length ≤ 512 from fun k => Nat.le_trans (swL_le p k (2^n)) h512)
  rw [← hf]
  clear hw hf h512
  obtain ⟨N, hN⟩ : ∃ N, 2^n = N := ⟨_, rfl⟩
  rw [hN] at HFE HC HG HLL ⊢
  clear hN
  go_enter Try.func64, Try.ntmps64
  go_wp2
  go_loopw [5, 6] (fun u i wr => ∃ (j : Nat) (A : Option Addr) (cap : Nat), j ≤ n ∧ i = .int .i64 j ∧ u = .slice A j cap ∧ wr.ownsRow w.heap.size 3 1 (.slice A j cap) j ((perL f j).map (Value.int .i64)) ∧ Below w.heap.size w wr) (fun _ i _ => n - (intOf i).toNat)
  case atStart => exact ⟨0, none, 0, by omega, rfl, rfl, World.ownsRow_nil _ _ _ _, Below.refl _ _⟩
  case round =>
    obtain ⟨k, A, cap3, hj, rfl, rfl, hown, hbr⟩ := hrel
    have HO := Lib.hid hown
    have hszr := hbr.size
    clear hown
    by_cases hlt : k < n
    · have HS := Lib.hid (perL_succ f k)
      have hfb := HFB.out k
      have HFK := Lib.hid (HFE.out k)
      have HGK := Lib.hid (fun j => HG.out k j hlt)
      have hll := HLL.out k
      go_wp2_with fail
      refine (HC.out k _ hlt hbr).mono ?_
      rintro e w5 ⟨A5, cap5, rfl, hown5, hb5⟩
      have HO5 := Lib.hid (owns_now HO.out hb5)
      have b5 := hbr.trans (hb5.mono hszr)
      have hsz5 := b5.size
      obtain ⟨L, hL⟩ : ∃ L, swL p k N = L := ⟨_, rfl⟩
      rw [hL] at hown5 HFK HGK hll ⊢
      clear hL
      rw [natsL_len] at hown5 ⊢
      have HOL := Lib.hid hown5
      clear hown5 hb5
      go_wp2_with fail
      go_loopw [7, 9, 10, 20] (fun t _ _ i wr2 => ∃ j : Nat, j ≤ L.length ∧ i = .int .i64 j ∧ t = .int .i64 (wayS n (L.take j) : Nat) ∧ Below w5.heap.size w5 wr2) (fun _ _ _ i _ => L.length - (intOf i).toNat)
      case atStart => exact ⟨0, Nat.zero_le _, rfl, rfl, Below.refl _ _⟩
      case round =>
        obtain ⟨j, hj2, rfl, rfl, hb2⟩ := hrel
        have hwl : wayS n (L.take j) ≤ 131681894400 * 512 := Nat.le_trans (wayS_le (by omega) _) (Nat.mul_le_mul_left _ (by have := List.length_take_le j L; omega))
        by_cases hlt2 : j < L.length
        · obtain ⟨gl, cp, hv, hgl2, _, _⟩ := owns_head HOL.out (by omega)
          obtain ⟨rfl, rfl⟩ : A5 = some ⟨gl, 0, none⟩ ∧ cap5 = cp := by simpa using hv
          have hOwn : Own w5 gl 3 L.length (fun i => .int .i64 (L.getD i 0 : Nat)) := Own.of_own HOL.out (fun i hi => by simp [natsL, List.getD_eq_getElem?_getD, hi])
          have hcell := (Own.now' hOwn hb2).cell hlt2
          obtain ⟨hs512, hsz⟩ := HGK.out j hlt2
          have HST := Lib.hid (wayS_take (n := n) hlt2)
          clear hOwn hv
          generalize L.getD j 0 = s at *
          have HZ := Lib.hid (show (mem s 9).length = sz s from rfl)
          have HST2 := Lib.hid (show wayS n (L.take (j+1)) = wayS n (L.take j) + fact (sz s) * fact (n - 1 - sz s) from HST.out)
          have hf2 := fact_le (n := sz s) (by omega)
          have hf3 := fact_le (n := n - 1 - sz s) (by omega)
          have hm2 := mul_small hf2 hf3
          have HSB := Lib.hid (show ((n : Int) - 1 - (sz s : Nat)) = ((n - 1 - sz s : Nat) : Int) from by omega)
          have HF1 := Lib.hid (fun W => pwTimes_any (sz s) W (by omega))
          have HF2 := Lib.hid (fun W => pwTimes_any (n - 1 - sz s) W (by omega))
          generalize wayS n (L.take j) = t at *
          obtain ⟨z, hz⟩ : ∃ z, z = sz s := ⟨_, rfl⟩
          rw [← hz] at HZ HST2 hf2 hf3 hm2 HSB HF1 HF2 hsz
          clear hz HST
          generalize fact z = x at *
          generalize fact (n - 1 - z) = y at *
          have hw1 : wrap64 ((x : Int) * y) = (x : Int) * y := by rw [show ((x : Int) * y) = ((x * y : Nat) : Int) from by simp]; exact IntWalk.wrap64_in _ (by generalize x * y = u at *; omega)
          have hw2 : wrap64 ((t : Int) + (x : Int) * y) = (t : Int) + (x : Int) * y := by rw [show ((x : Int) * y) = ((x * y : Nat) : Int) from by simp]; exact IntWalk.wrap64_in _ (by generalize x * y = u at *; omega)
          clear hm2
          go_wp2_with (first
            | (go_at_call 85; refine (voList_any s _ hs512).mono ?_; rintro e w6 ⟨A6, cap6, rfl, hown6, hb6⟩; rw [HZ.out])
            | (go_at_call 93; (with_reducible refine (HF1.out _).mono ?_); rintro e w7 ⟨rfl, rfl⟩)
            | (go_at_call 93; rw [HSB.out]; (with_reducible refine (HF2.out _).mono ?_); rintro e w8 ⟨rfl, rfl⟩))
          go_roundw
          case rel => exact ⟨j + 1, by omega, by go_num, by rw [HST2.out]; simp [hw2], bfrom hb2 hb6⟩
          case measure => simp [intOf]; omega
        · obtain rfl : j = L.length := by omega
          have HE := Lib.hid (show wayS n (L.take L.length) = f k from by rw [List.take_length, HFK.out])
          have HO6 := Lib.hid (owns_now HO5.out hb2)
          have b6 := b5.trans (hb2.mono hsz5)
          have hsz6 := b6.size
          rw [HE.out]
          go_wp2_with (at_builtin; refine wpList_append_lies _ rfl _ _ _ rfl w.heap.size 3 i0 _ 1 8 Try.underlying22 hi0 hz0 hz1 hz2 rfl (by decide) (.slice A k cap3) k ((perL f k).map (Value.int .i64)) rfl (HO6.out.alloc _) ⟨wr.heap.size, 0, none⟩ 1 1 [.int .i64 (f k : Nat)] rfl rfl (World.news_of_block (cs := #[.int .i64 (f k : Nat)]) (t := 3) (fr := (0, 0)) (heap_alloc_new wr _)) (by simp [Value.oneCell']) (by omega) (by unfold maxLen; omega) (by omega) (by simp; omega) (wr.heap.size + 1) (by simp) ?_; intro gg cap4 w9 hown9 hgrow9 hat hlt9)
          have b9 : Below w.heap.size w w9 := (b6.alloc hsz6 (.cells #[.int .i64 (f k : Nat)] 3)).grown hgrow9 (by simp; omega) fun i hi => owns_le HO6.out hi
          go_roundw
          case rel => exact ⟨k + 1, some ⟨gg, 0, none⟩, cap4, by omega, by go_num, by simp, by rw [HS.out]; simpa using hown9, b9⟩
          case measure => simp [intOf]; omega
    · obtain rfl : k = n := by omega
      have HLE := Lib.hid (perL_len f k)
      go_wp2
      go_ret
      exact ⟨A, cap3, by rw [HLE.out]; rfl, by rw [HLE.out]; exact HO.out, hbr⟩

end Go.Proofs.Ytibmaofcnibjnaa
