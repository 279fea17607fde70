/- Contracts of pivots: swings by sizes, how many orders, the program's. -/
import Derived.Test.YtkckefjpkhjeaabDoorN5
import Derived.Outline
import Derived.Deep.RegionHeld3
namespace Go.Proofs.YtkckefjpkhjeaabDoor
open Go.RowKit Vo

/-- A slice in a block of the call's own that holds these integers. -/
def RowOf (L : List Int) (w w' : World) (e : Ending) : Prop :=
  ∃ g cap, e = .returned (.slice (some ⟨g, 0, none⟩) L.length cap) ∧ w.heap.size ≤ g ∧ Ints w' g L.length L ∧ Below w.heap.size w w'

theorem Own.now' {w w' : World} {g : Nat} {t : TypeId} {n : Nat} {f : Nat → Value} (h : Own w g t n f) (hb : Below w.heap.size w w') : Own w' g t n f := h.below hb h.lt

theorem sizN_succ (p : Nat → Bool) (k j z : Nat) : sizN p k (j+1) z = sizN p k j z + if (swP p k j && decide (sz j = z)) then 1 else 0 := rfl

set_option maxHeartbeats 4000000 in
theorem countSwingsBySize_any (q : Int) (b off n cap : Nat) (ws : List Int) (k : Nat) (w : World) (hn : n < 10) (hk : k < n) (hok : InK 0 1000 ws n) (hsl : Sl w b off n ws) :
    Calls Tryd.prog 84 #[.agg #[.int .i64 q, .slice (some ⟨b, off, none⟩) n cap], .int .i64 k] w fun e w' => RowOf (perL (sizN (winB q ws n) k (2^n)) n) w w' e := by
  have HOK := Lib.hid hok
  have HSL := Lib.hid hsl
  clear hok hsl
  have hx := Box.new w (.int .i64 q) (.slice (some ⟨b, off, none⟩) n cap)
  have hb0 := below1 w (.cells #[.int .i64 q, .slice (some ⟨b, off, none⟩) n cap] 26)
  have hmk := run_make_row' (P := Tryd.prog) 22 3 (.int .i64 0) 8 Tryd.underlying22 infoInt rfl .i64 .i64 n (by omega) (by omega)
  have h512 := pow_lt (n := n) (by omega)
  have hpos := Nat.two_pow_pos n
  have HIS := Lib.hid (fun (s : Nat) (W : World) (hs : s < 2^n) (h : Sl W b off n ws) => isSwing_any q b off n cap ws s k W hn hs hk HOK.out h)
  have HSZ := Lib.hid (show ∀ s, s < 2^n → swP (winB q ws n) k s = true → sz s < n from fun s hs h => by
    have hb : s.testBit k = false := by unfold swP at h; simp at h; exact h.1
    exact sz_lt (by omega) hs hk hb)
  obtain ⟨p, hp⟩ : ∃ p, p = winB q ws n := ⟨_, rfl⟩
  rw [← hp] at HIS HSZ ⊢
  obtain ⟨N, hN⟩ : ∃ N, N = 2^n := ⟨_, rfl⟩
  have HP := Lib.hid (show (((2^n - 1 : Nat) : Int) + 1) = (N : Int) from by omega)
  rw [← hN] at h512 hpos HIS HSZ ⊢
  clear hN hp
  go_enter Tryd.func84, Tryd.ntmps84
  go_wp2_with (first
    | (go_at_call 41; refine (members_any _ _ n cap _).mono ?_; rintro e w1 ⟨rfl, hb1⟩; have hx1 := hx.now hb1; have hlt1 := hx1.lt; obtain ⟨c0, c1⟩ := hx1.cells)
    | (go_at_call 87; refine (everybody_any _ _ n cap _ hn).mono ?_; rintro e w2 ⟨rfl, hb2⟩))
  rw [HP.out]
  have g1 := bfrom hb0 hb1
  have hx2 := (hx1.alloc (.cells (madeCells #[.int .i64 0] n) 3)).now hb2
  have g2 := bfrom (g1.alloc g1.size (.cells (madeCells #[.int .i64 0] n) 3)) hb2
  have HO2 := Lib.hid (show Own w2 w1.heap.size 3 n (fun z => .int .i64 (sizN p k 0 z : Nat)) from
    Own.now' ((Own.of_row (World.rowIs_made w1 (.int .i64 0) n 3)).congr fun i _ => rfl) hb2)
  have hz1 : w.heap.size ≤ w1.heap.size := g1.size
  have hz1' : w.heap.size < w1.heap.size := hx1.lt
  clear c0 c1 hmk hx1 hb1 hb2 hx
  go_loopw [6, 13] (fun _ i wr => ∃ j : Nat, j ≤ N ∧ i = .int .u64 j ∧ Own wr w1.heap.size 3 n (fun z => .int .i64 (sizN p k j z : Nat)) ∧ Box wr w.heap.size (.int .i64 q) (.slice (some ⟨b, off, none⟩) n cap) ∧ Below w.heap.size w wr) (fun _ i _ => N - (intOf i).toNat)
  case atStart => exact ⟨0, Nat.zero_le _, rfl, HO2.out, hx2, g2⟩
  case round =>
    obtain ⟨j, hj, rfl, hown, hxr, hbr⟩ := hrel
    have HO := Lib.hid hown
    clear hown
    obtain ⟨c0, c1⟩ := hxr.cells
    by_cases hlt : j < N
    · have HSr := Lib.hid (HSL.out.now hbr)
      have HS := Lib.hid (fun z => sizN_succ p k j z)
      cases hsw : swP p k j
      · have HW := Lib.hid hsw
        rw [hsw] at HS
        clear hsw
        go_wp2_with (go_at_call 98; refine (HIS.out j _ hlt HSr.out).mono ?_; rw [HW.out]; rintro e w3 ⟨rfl, hb3⟩)
        have hx3 := hxr.now hb3
        go_roundw
        case rel => exact ⟨j + 1, by omega, by go_num, (HO.out.now' hb3).congr fun z _ => by rw [HS.out]; simp, hx3, bfrom hbr hb3⟩
        case measure => simp [intOf]; omega
      · have HW := Lib.hid hsw
        have hzj := HSZ.out j hlt hsw
        have hsle : sizN p k j (sz j) ≤ 512 := Nat.le_trans (cnt_le _ _) (by omega)
        rw [hsw] at HS
        clear hsw
        have HZ := Lib.hid (show sz j = (mem j 9).length from rfl)
        obtain ⟨z, hz⟩ : ∃ z, z = sz j := ⟨_, rfl⟩
        rw [← hz] at hzj hsle HZ
        have HZE := Lib.hid hz
        clear hz
        go_wp2_with (first
          | (go_at_call 98; refine (HIS.out j _ hlt HSr.out).mono ?_; rw [HW.out]; rintro e w3 ⟨rfl, hb3⟩; have HO3 := Lib.hid (HO.out.now' hb3); have hcell := HO3.out.cell hzj; have hfr := HO3.out.frozen z; have hx3 := hxr.now hb3; have hgl3 := HO3.out.lt)
          | (go_at_call 99; refine (size_any j _ (by omega)).mono ?_; rintro e w4 ⟨rfl, rfl⟩; rw [← HZ.out]))
        have HST := Lib.hid (HO3.out.set z (.int .i64 ((sizN p k j z : Nat) + 1)))
        have hx4 := hx3.far (p := ⟨w1.heap.size, z, none⟩) (show w.heap.size ≠ w1.heap.size by omega) (.int .i64 ((sizN p k j z : Nat) + 1))
        have b4 := (bfrom hbr hb3).setCell (p := ⟨w1.heap.size, z, none⟩) hz1 (.int .i64 ((sizN p k j z : Nat) + 1))
        go_roundw
        case rel =>
          refine ⟨j + 1, by omega, by go_num, HST.out.congr fun i hi => ?_, hx4, b4⟩
          rw [HS.out i]
          by_cases e : i = z
          · subst e; rw [if_pos rfl, ← HZE.out]; simp
          · rw [if_neg e, ← HZE.out]; simp [show ¬ z = i from fun h => e h.symm]
        case measure => simp [intOf]; omega
    · obtain rfl : j = N := by omega
      go_wp2
      go_ret
      have hl := perL_len (sizN p k j) n
      refine ⟨w1.heap.size, n, by rw [hl]; rfl, hz1, ?_, hbr⟩
      rw [hl]
      exact HO.out.congr fun i hi => by rw [perL_get hi]

theorem mul_small {a b A B : Nat} (ha : a ≤ A) (hb : b ≤ B) : a * b ≤ A * B := Nat.mul_le_mul ha hb

set_option maxHeartbeats 4000000 in
theorem countPivots_any (q : Int) (b off n cap : Nat) (ws : List Int) (k : Nat) (w : World) (hn : n < 10) (hk : k < n) (hok : InK 0 1000 ws n) (hsl : Sl w b off n ws) :
    Calls Tryd.prog 59 #[.agg #[.int .i64 q, .slice (some ⟨b, off, none⟩) n cap], .int .i64 k] w fun e w' => e = .returned (.int .i64 (pivN (winB q ws n) n k (2^n) : Nat)) ∧ Below w.heap.size w w' := by
  have HOK := Lib.hid hok
  have HSL := Lib.hid hsl
  clear hok hsl
  have hx := Box.new w (.int .i64 q) (.slice (some ⟨b, off, none⟩) n cap)
  have hb0 := below1 w (.cells #[.int .i64 q, .slice (some ⟨b, off, none⟩) n cap] 26)
  have h512 := pow_lt (n := n) (by omega)
  have HE := Lib.hid (pivN_sizes (p := winB q ws n) (n := n) (k := k) (N := 2^n) (by omega) hk (Nat.le_refl _))
  have HB := Lib.hid (show ∀ j, j ≤ n → sumN (fun z => sizN (winB q ws n) k (2^n) z * wayP n z) j ≤ 512 * 131681894400 * 9 from fun j hj => by
    refine Nat.le_trans (sumN_le (B := 512 * 131681894400) fun z hz => ?_) (Nat.mul_le_mul_left _ (by omega))
    exact mul_small (Nat.le_trans (cnt_le _ _) h512) (wayP_le (by omega) (by omega)))
  obtain ⟨f, hf⟩ : ∃ f, f = sizN (winB q ws n) k (2^n) := ⟨_, rfl⟩
  have HF := Lib.hid (show ∀ z, f z ≤ 512 from fun z => by rw [hf]; exact Nat.le_trans (cnt_le _ _) h512)
  rw [← hf] at HE HB
  have HFE := Lib.hid hf
  clear hf h512
  go_enter Tryd.func59, Tryd.ntmps59
  go_wp2_with fail
  refine (countSwingsBySize_any q b off n cap ws k _ hn hk HOK.out (HSL.out.now hb0)).mono ?_
  rintro e w1 ⟨g, cap1, rfl, hg, hrow, hb1⟩
  rw [← HFE.out] at hrow ⊢
  have hl := perL_len f n
  rw [hl] at hrow ⊢
  clear hl
  have HO := Lib.hid hrow
  have hgl : g < w1.heap.size := Own.lt hrow
  have hx1 := hx.now hb1
  have g1 := bfrom hb0 hb1
  clear hrow hx hb1
  go_wp2_with fail
  go_loopw [5, 6, 7, 12] (fun t _ _ i wr => ∃ j : Nat, j ≤ n ∧ i = .int .i64 j ∧ t = .int .i64 (sumN (fun z => f z * wayP n z) j : Nat) ∧ Below w1.heap.size w1 wr) (fun _ _ _ i _ => n - (intOf i).toNat)
  case atStart => exact ⟨0, Nat.zero_le _, rfl, rfl, Below.refl _ _⟩
  case round =>
    obtain ⟨j, hj, rfl, rfl, hbr⟩ := hrel
    have hxr := hx1.now hbr
    obtain ⟨c0, c1⟩ := hxr.cells
    have hbd := HB.out j hj
    by_cases hlt : j < n
    · have hcell := (Own.below HO.out hbr hgl).cell hlt
      have HPG := Lib.hid (perL_get (f := f) hlt)
      rw [HPG.out] at hcell
      have HS := Lib.hid (show sumN (fun z => f z * wayP n z) (j+1) = sumN (fun z => f z * wayP n z) j + f j * (fact j * fact (n - 1 - j)) from rfl)
      have hf1 := HF.out j
      have hf2 := fact_le (n := j) (by omega)
      have hf3 := fact_le (n := n - 1 - j) (by omega)
      have hm1 := mul_small hf1 hf2
      have hm2 := mul_small hm1 hf3
      have HA := Lib.hid (show f j * (fact j * fact (n - 1 - j)) = f j * fact j * fact (n - 1 - j) from by rw [Nat.mul_assoc])
      have HSB := Lib.hid (show IntKind.i64.wrap (IntKind.i64.wrap ((n : Int) - 1) - j) = ((n - 1 - j : Nat) : Int) from by rw [IntWalk.i64_in ((n : Int) - 1) (by omega), IntWalk.i64_in _ (by omega)]; omega)
      have HF1 := Lib.hid (fun W => factorial_any j W (by omega))
      have HF2 := Lib.hid (fun W => factorial_any (n - 1 - j) W (by omega))
      generalize sumN (fun z => f z * wayP n z) j = t at *
      generalize f j = x at *
      generalize fact j = y at *
      generalize fact (n - 1 - j) = z at *
      have hw1 : IntKind.i64.wrap ((x : Int) * y) = ((x * y : Nat) : Int) := by rw [show ((x : Int) * y) = ((x * y : Nat) : Int) from by simp]; exact IntWalk.i64_in _ (by generalize x * y = u at *; omega)
      have HX := Lib.hid (show IntKind.i64.wrap ((t : Int) + IntKind.i64.wrap ((x : Int) * y * z)) = ((t + x * y * z : Nat) : Int) from by
        rw [show ((x : Int) * y * z) = ((x * y * z : Nat) : Int) from by simp]
        generalize x * y * z = u at *
        rw [IntWalk.i64_in (u : Int) (by omega), IntWalk.i64_in _ (by omega)]; omega)
      go_wp2_with fail
      go_region_held3 (fun w' => w'.cell? ⟨w.heap.size, 0, none⟩ = some (.int .i64 q) ∧ w'.cell? ⟨w.heap.size, 1, none⟩ = some (.slice (some ⟨b, off, none⟩) n cap))
        (first | exact hd | exact hxr.cells | go_keep)
        (first
          | (go_at_call 85; (with_reducible refine (HF1.out _).mono ?_); rintro e w4 ⟨rfl, rfl⟩)
          | (go_at_call 85; rw [HSB.out]; (with_reducible refine (HF2.out _).mono ?_); rintro e w5 ⟨rfl, rfl⟩)
          | (go_at_call 41; refine (members_any _ _ n cap _).mono ?_; rintro e w3 ⟨rfl, hb3⟩; have hd := (hxr.drew.now hb3).cells))
      all_goals
        have b4 := bfrom hbr.drew hb3
        go_wp2
        go_roundw
        case rel => exact ⟨j + 1, by omega, by go_num, by rw [HS.out, HA.out]; rw [HX.out], b4⟩
        case measure => simp [intOf]; omega
    · obtain rfl : j = n := by omega
      go_wp2
      go_ret
      exact ⟨by rw [HE.out]; rfl, bfrom g1 hbr⟩

/-- Of how many orders each member is the pivot. -/
def pivotN (q : Int) (ws : List Int) (n : Nat) (k : Nat) : Nat := pivN (winB q ws n) n k (2^n)
def pivotsL (q : Int) (ws : List Int) (n : Nat) : List Int := okL (goodB q ws n) (perL (pivotN q ws n) n)
theorem pivotsL_len (q : Int) (ws : List Int) (n : Nat) : (pivotsL q ws n).length ≤ 1048576 := by
  by_cases hg : Vo.Good q ws n
  · exact okL_len (by rw [perL_len]; have := hg.hi; omega)
  · unfold pivotsL; rw [okL_no (goodB_false hg)]; simp

theorem countPivots_nums (q : Int) (b off n cap : Nat) (ws : List Int) (w : World) (hn : n < 10) (hok : InK 0 1000 ws n) (hsl : Sl w b off n ws) :
    Nums (pivotN q ws n) 59 #[.agg #[.int .i64 q, .slice (some ⟨b, off, none⟩) n cap]] #[] n w :=
  ⟨enters_of Tryd.func59 (by kernel_rfl) rfl, fun W k hk hb => countPivots_any q b off n cap ws k W hn hk hok (hsl.now hb)⟩

set_option maxHeartbeats 1000000 in
theorem pivots_any (q : Int) (b off n cap : Nat) (ws : List Int) (w : World) (hn : n < 10) (hok : InK 0 1000 ws n) (hsl : Sl w b off n ws) :
    Calls Tryd.prog 33 #[.agg #[.int .i64 q, .slice (some ⟨b, off, none⟩) n cap]] w fun e w' => IntsAt (perL (pivotN q ws n) n) w w' e := by
  have HOK := Lib.hid hok
  have HSL := Lib.hid hsl
  clear hok hsl
  have hb0 := below1 w (.cells #[.int .i64 q, .slice (some ⟨b, off, none⟩) n cap] 26)
  go_enter Tryd.func33, Tryd.ntmps33
  go_wp2_with fail
  refine (forEachMember_any _ _ _ _ _ _ n cap _ hn (countPivots_nums q b off n cap ws _ hn HOK.out (HSL.out.now hb0))).mono ?_
  rintro e w1 ⟨A, cap2, rfl, hown, hb1⟩
  have HO := Lib.hid hown
  clear hown
  go_wp2
  go_ret
  exact ⟨A, cap2, rfl, owns_less HO.out hb0.size, bfrom hb0 hb1⟩
theorem pivots_lists (q : Int) (A : Option Addr) (n cap : Nat) (ws : List Int) (w : World) (hk : Known w A n ws) (hg : Vo.Good q ws n) :
    Lists (perL (pivotN q ws n) n) 33 (.agg #[.int .i64 q, .slice A n cap]) w := by
  obtain ⟨b, off, rfl, hsl⟩ := hk.get hg.lo
  exact ⟨enters_of Tryd.func33 (by kernel_rfl) rfl, fun W hb => pivots_any q b off n cap ws W (by have := hg.hi; omega) hg.ok (hsl.now hb)⟩

end Go.Proofs.YtkckefjpkhjeaabDoor
