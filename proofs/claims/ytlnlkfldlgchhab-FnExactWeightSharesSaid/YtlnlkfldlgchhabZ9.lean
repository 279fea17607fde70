/- Contracts of the model's LeastSetShares and WeightShares. -/
import Derived.Test.YtlnlkfldlgchhabZ8
import Derived.Test.YtlnlkfldlgchhabZ5
import Derived.Outline
namespace Go.Proofs.Ytlnlkfldlgchhab
open Go.RowKit Vo

set_option maxRecDepth 20000 in
set_option maxHeartbeats 4000000 in
theorem sLeastSetShares_ans (q : Int) (A : Option Addr) (n cap : Nat) (ws : List Int) (w : World) (hm : n ≤ 9223372036854775807) (hk : Known w A n ws) :
    Calls Try.prog 16 #[.agg #[.int .i64 q, .slice A n cap]] w fun e w' => Ans (RSh (leastSetSharesL q ws n)) (goodB q ws n) w w' e := by
  have HK := Lib.hid hk
  clear hk
  obtain ⟨i0, hi0, hz0, hz1, hz2⟩ := info_parts infoShare
  have hb0 := below1 w (.cells #[.int .i64 q, .slice A n cap] 29)
  by_cases hg : Vo.Good q ws n
  · have HGB := Lib.hid (goodB_true hg)
    have hn9 := hg.hi
    have hn1 := hg.lo
    have hn10 : n < 10 := by omega
    obtain ⟨f, hf⟩ : ∃ f, f = gainL (fun _ => 1) (lwL q ws n) := ⟨_, rfl⟩
    have hfb : ∀ j, f j ≤ 512 := fun j => by
      rw [hf]
      have h1 := gainL_le (g := fun _ => 1) (B := 1) (fun _ => Nat.le_refl _) (lwL q ws n) j
      have h2 := lwL_len (q := q) (ws := ws) hn9
      omega
    have hD0 : 0 < sumN f n := by rw [hf]; exact ones_pos hg
    have hD1 : sumN f n ≤ 512 * 9 := sumN_le2 (n := 9) hfb hn9
    have HV := Lib.hid (show leastSetSharesL q ws n = shL f (sumN f n) n from by rw [hf]; exact okSh_yes HGB.out)
    have HVC := Lib.hid (show leastSetCountsL q ws n = perL f n from by rw [hf]; exact okL_yes HGB.out)
    have HFF := Lib.hid hfb
    have HIN := Lib.hid (inK_perL (f := f) (n := n) fun k => Nat.le_trans (hfb k) (by omega))
    have HSK := Lib.hid (sumK_perL f (Nat.le_refl n))
    obtain ⟨D, hD⟩ : ∃ D, D = sumN f n := ⟨_, rfl⟩
    rw [← hD] at hD0 hD1 HSK HV
    have HLE := Lib.hid (shL_len f D n)
    clear hg hf hfb hD
    go_enter Try.func16, Try.ntmps16
    go_wp2_with fail
    refine (sLeastSetCounts_ans q A n cap ws _ hm (HK.out.now hb0)).mono ?_
    rintro e w1 ⟨v1, rfl, hl1, hb1⟩
    rw [HVC.out] at hl1
    rw [HGB.out]
    obtain ⟨A1, cap1, rfl, h1⟩ := hl1.here
    rw [perL_len] at h1 ⊢
    obtain ⟨gA, rfl, _, hgA, hI⟩ : ∃ g, A1 = some ⟨g, 0, none⟩ ∧ _ ≤ g ∧ g < w1.heap.size ∧ Ints w1 g n (perL f n) := by
      rcases h1 with h | h
      · omega
      · exact h
    have g1 := bfrom hb0 hb1
    have HSL := Lib.hid (show ∀ W, Below w1.heap.size w1 W → Sl W gA 0 n (perL f n) from fun W h => Ints.sl (Own.below hI h hgA))
    have HRD := Lib.hid (show ∀ W, Below w1.heap.size w1 W → ∀ j, j < n → W.cell? ⟨gA, j, none⟩ = some (.int .i64 (f j : Nat)) from fun W h j hj => by
      have := (Own.below hI h hgA).cell hj
      rw [this, perL_get hj])
    have hz3 : w.heap.size ≤ w1.heap.size := g1.size
    clear hl1 h1 hI hb1
    go_wp2_with fail
    go_loopw [6, 8, 18] (fun v _ i wr => ∃ (j : Nat) (B : Option Addr) (cp : Nat), j ≤ n ∧ i = .int .i64 j ∧ v = .slice B j cp ∧ wr.ownsRow w1.heap.size 45 2 (.slice B j cp) j (shV (shL f D j)) ∧ Below w1.heap.size w1 wr) (fun _ _ i _ => n - (intOf i).toNat)
    case atStart => exact ⟨0, none, 0, Nat.zero_le _, rfl, rfl, World.ownsRow_nil _ _ _ _, Below.refl _ _⟩
    case round =>
      obtain ⟨j, B, cp, hj, rfl, rfl, hown, hbr⟩ := hrel
      have HO := Lib.hid hown
      have hszr := hbr.size
      clear hown
      by_cases hlt : j < n
      · have hcell := HRD.out wr hbr j hlt
        have HS := Lib.hid (shL_succ f D j)
        have hfj := HFF.out j
        have HLT := Lib.hid (fun W => pwShare_any (f j) D W hD0 (by omega) (by omega))
        have HSH := Lib.hid (show share1 (f j) D = (((f j / Nat.gcd (f j) D : Nat) : Int), ((D / Nat.gcd (f j) D : Nat) : Int)) from rfl)
        generalize f j / Nat.gcd (f j) D = a at *
        generalize D / Nat.gcd (f j) D = bb at *
        go_wp2_with (first
          | (go_at_call 53; refine (voSum_any gA 0 n cap1 (perL f n) _ hn10 HIN.out (HSL.out wr hbr)).mono ?_; rintro e w4 ⟨rfl, rfl⟩; rw [HSK.out])
          | (go_at_call 52; refine (HLT.out _).mono ?_; rintro e w5 ⟨rfl, hb5⟩; have HO5 := Lib.hid (owns_now HO.out hb5); have b5 := hbr.trans (hb5.mono (by omega)); have hsz5 := b5.size)
          | (at_builtin; refine wpList_append_lies _ rfl _ _ _ rfl w1.heap.size 45 i0 _ 2 16 Try.underlying26 hi0 hz0 hz1 hz2 rfl (by decide) (.slice B j cp) j (shV (shL f D j)) rfl (HO5.out.alloc _) ⟨w5.heap.size, 0, none⟩ 1 1 [.int .i64 a, .int .i64 bb] rfl rfl (World.news_of_block (cs := #[.int .i64 a, .int .i64 bb]) (t := 45) (fr := (0, 0)) (heap_alloc_new w5 _)) (by simp [Value.oneCell']) (by omega) (by unfold maxLen; omega) (by omega) (by simp; omega) (w5.heap.size + 1) (by simp) ?_; intro gg cap4 w6 hown6 hgrow6 hat hlt6))
        have b6 : Below w1.heap.size w1 w6 := (b5.alloc (by omega) (.cells #[.int .i64 a, .int .i64 bb] 45)).grown hgrow6 (by simp; omega) fun i hi => owns_le HO5.out hi
        go_roundw
        case rel => exact ⟨j + 1, some ⟨gg, 0, none⟩, cap4, by omega, by go_num, by simp, by rw [HS.out, shV_append, HSH.out]; simpa [shV] using hown6, b6⟩
        case measure => simp [intOf]; omega
      · obtain rfl : n = j := by omega
        go_wp2
        go_ret2
        rw [HV.out, HGB.out]
        exact (show ShAt _ _ w _ _ from ⟨B, cp, by rw [HLE.out]; rfl, by rw [HLE.out]; exact owns_less HO.out hz3, bfrom g1 hbr⟩).ans
  · have HGB := Lib.hid (goodB_false hg)
    have HVC := Lib.hid (show leastSetCountsL q ws n = [] from okL_no HGB.out)
    clear hg
    go_enter Try.func16, Try.ntmps16
    go_wp2_with fail
    refine (sLeastSetCounts_ans q A n cap ws _ hm (HK.out.now hb0)).mono ?_
    rintro e w1 ⟨v1, rfl, hl1, hb⟩
    rw [HVC.out] at hl1
    rw [HGB.out]
    obtain ⟨A1, cap1, rfl, h1⟩ := hl1.here
    clear hl1 h1
    go_wp2
    go_ret2
    rw [show leastSetSharesL q ws n = [] from okSh_no HGB.out, HGB.out]
    exact (ShAt.none_ (bfrom hb0 hb)).ans

/-- The weights, none behind the last member. -/
abbrev wtF (ws : List Int) (n : Nat) : Nat → Nat := fun k => if k < n then wtN ws k else 0
set_option maxRecDepth 20000 in
set_option maxHeartbeats 4000000 in
theorem shWeights_any (v : Int) (b off n cap : Nat) (ws : List Int) (w : World) (hn : n < 10) (hok : InK 0 1000 ws n) (hpos : 0 < sumN (wtF ws n) n) (hsl : Sl w b off n ws) :
    Calls Try.prog 61 #[.agg #[.int .i64 v, .slice (some ⟨b, off, none⟩) n cap]] w fun e w' =>
      ∃ A cp, e = .returned (.slice A n cp) ∧ w'.ownsRow w.heap.size 45 2 (.slice A n cp) n (shV (shL (wtF ws n) (sumN (wtF ws n) n) n)) ∧ Below w.heap.size w w' := by
  obtain ⟨i0, hi0, hz0, hz1, hz2⟩ := info_parts infoShare
  have hb0 := below1 w (.cells #[.int .i64 v, .slice (some ⟨b, off, none⟩) n cap] 29)
  have hx := Box.new w (.int .i64 v) (.slice (some ⟨b, off, none⟩) n cap)
  have hfb : ∀ j, wtF ws n j ≤ 1000 := fun j => wtN_le hok j
  have hsl2 := (hsl.now hb0).congr (ys := perL (wtF ws n) n) fun j hj => by
    rw [perL_get hj]
    have h := hok j hj
    simp only [wtF, hj, if_true]
    unfold wtN; omega
  have hD1 : sumN (wtF ws n) n ≤ 1000 * 9 := sumN_le2 (n := 9) hfb (by omega)
  obtain ⟨f, hf⟩ : ∃ f, f = wtF ws n := ⟨_, rfl⟩
  rw [← hf] at hfb hsl2 hpos hD1 ⊢
  have HSL := Lib.hid hsl2
  have HFF := Lib.hid hfb
  have HIN := Lib.hid (inK_perL (f := f) (n := n) fun k => hfb k)
  have HSK := Lib.hid (sumK_perL f (Nat.le_refl n))
  obtain ⟨D, hD⟩ : ∃ D, D = sumN f n := ⟨_, rfl⟩
  rw [← hD] at hpos hD1 HSK ⊢
  clear hok hsl hsl2 hf hfb hD
  go_enter Try.func61, Try.ntmps61
  go_wp2_with fail
  obtain ⟨w0, hw0⟩ : ∃ w0, w0 = w.alloc (.cells #[.int .i64 v, .slice (some ⟨b, off, none⟩) n cap] 29) := ⟨_, rfl⟩
  rw [← hw0] at hb0 hx HSL ⊢
  have hsz0 : w0.heap.size = w.heap.size + 1 := by rw [hw0]; simp
  clear hw0
  go_loopw [3, 5, 9] (fun v _ i wr => ∃ (j : Nat) (B : Option Addr) (cp : Nat), j ≤ n ∧ i = .int .i64 j ∧ v = .slice B j cp ∧ wr.ownsRow w0.heap.size 45 2 (.slice B j cp) j (shV (shL f D j)) ∧ Below w0.heap.size w0 wr) (fun _ _ i _ => n - (intOf i).toNat)
  case atStart => exact ⟨0, none, 0, Nat.zero_le _, rfl, rfl, World.ownsRow_nil _ _ _ _, Below.refl _ _⟩
  case round =>
    obtain ⟨j, B, cp, hj, rfl, rfl, hown, hbr⟩ := hrel
    have HO := Lib.hid hown
    have hszr := hbr.size
    have hsr := HSL.out.now hbr
    obtain ⟨c0, c1⟩ := (hx.now hbr).cells
    clear hown
    by_cases hlt : j < n
    · have hcell : wr.cell? ⟨b, off + j, none⟩ = some (.int .i64 (f j : Nat)) := by rw [hsr.cell j hlt, perL_get hlt]
      have HSR := Lib.hid hsr
      have HS := Lib.hid (shL_succ f D j)
      have hfj := HFF.out j
      have HLT := Lib.hid (fun W => pwShare_any (f j) D W hpos (by omega) (by omega))
      have HSH := Lib.hid (show share1 (f j) D = (((f j / Nat.gcd (f j) D : Nat) : Int), ((D / Nat.gcd (f j) D : Nat) : Int)) from rfl)
      clear hsr
      generalize f j / Nat.gcd (f j) D = a at *
      generalize D / Nat.gcd (f j) D = bb at *
      go_wp2_with (first
        | (go_at_call 53; refine (voSum_any b off n cap (perL f n) _ hn HIN.out HSR.out).mono ?_; rintro e w4 ⟨rfl, rfl⟩; rw [HSK.out])
        | (go_at_call 52; refine (HLT.out _).mono ?_; rintro e w5 ⟨rfl, hb5⟩; have HO5 := Lib.hid (owns_now HO.out hb5); have b5 := hbr.trans (hb5.mono (by omega)); have hsz5 := b5.size)
        | (at_builtin; refine wpList_append_lies _ rfl _ _ _ rfl w0.heap.size 45 i0 _ 2 16 Try.underlying26 hi0 hz0 hz1 hz2 rfl (by decide) (.slice B j cp) j (shV (shL f D j)) rfl (HO5.out.alloc _) ⟨w5.heap.size, 0, none⟩ 1 1 [.int .i64 a, .int .i64 bb] rfl rfl (World.news_of_block (cs := #[.int .i64 a, .int .i64 bb]) (t := 45) (fr := (0, 0)) (heap_alloc_new w5 _)) (by simp [Value.oneCell']) (by omega) (by unfold maxLen; omega) (by omega) (by simp; omega) (w5.heap.size + 1) (by simp) ?_; intro gg cap4 w6 hown6 hgrow6 hat hlt6))
      have b6 : Below w0.heap.size w0 w6 := (b5.alloc (by omega) (.cells #[.int .i64 a, .int .i64 bb] 45)).grown hgrow6 (by simp; omega) fun i hi => owns_le HO5.out hi
      go_roundw
      case rel => exact ⟨j + 1, some ⟨gg, 0, none⟩, cap4, by omega, by go_num, by simp, by rw [HS.out, shV_append, HSH.out]; simpa [shV] using hown6, b6⟩
      case measure => simp [intOf]; omega
    · obtain rfl : n = j := by omega
      go_wp2
      go_ret
      exact ⟨B, cp, rfl, owns_less HO.out (by omega), bfrom hb0 hbr⟩
set_option maxHeartbeats 1000000 in
theorem sWeightShares_ans (q : Int) (A : Option Addr) (n cap : Nat) (ws : List Int) (w : World) (hm : n ≤ 9223372036854775807) (hk : Known w A n ws) :
    Calls Try.prog 26 #[.agg #[.int .i64 q, .slice A n cap]] w fun e w' => Ans (RSh (weightSharesL q ws n)) (goodB q ws n) w w' e := by
  have HK := Lib.hid hk
  clear hk
  have hx := Box.new w (.int .i64 q) (.slice A n cap)
  have hb0 := below1 w (.cells #[.int .i64 q, .slice A n cap] 29)
  by_cases hg : Vo.Good q ws n
  · obtain ⟨b, off, rfl, hsl⟩ := HK.out.get hg.lo
    have HSL := Lib.hid hsl
    have HOK := Lib.hid hg.ok
    have HGB := Lib.hid (goodB_true hg)
    have hn9 := hg.hi
    have HPOS := Lib.hid (show 0 < sumN (wtF ws n) n from by have h1 : ((sumN (wtF ws n) n : Nat) : Int) = sumK ws n := sumN_wt hg.ok (Nat.le_refl n); have h2 := hg.q1; have h3 := hg.q2; omega)
    have HV := Lib.hid (show weightSharesL q ws n = shL (wtF ws n) (sumN (wtF ws n) n) n from okSh_yes HGB.out)
    have HLE := Lib.hid (shL_len (wtF ws n) (sumN (wtF ws n) n) n)
    clear hg hsl
    go_enter Try.func26, Try.ntmps26
    go_wp2_with fail
    refine (voGood_any q _ n cap ws _ hm (HK.out.now hb0)).mono ?_
    rintro e w1 ⟨rfl, hb⟩
    rw [HGB.out]
    have g1 := bfrom hb0 hb
    have hs1 := Lib.hid (HSL.out.now g1)
    obtain ⟨hc0, hc1⟩ := (hx.now hb).cells
    go_wp2_with fail
    refine (shWeights_any q b off n cap ws _ (by omega) HOK.out HPOS.out hs1.out).mono ?_
    rintro e w2 ⟨A2, cp2, rfl, hown, hb2⟩
    have HO := Lib.hid hown
    clear hown
    go_wp2
    go_ret2
    rw [HV.out, HGB.out]
    exact (show ShAt _ _ w _ _ from ⟨A2, cp2, by rw [HLE.out]; rfl, by rw [HLE.out]; exact owns_less HO.out g1.size, bfrom g1 hb2⟩).ans
  · have HGB := Lib.hid (goodB_false hg)
    clear hg
    go_enter Try.func26, Try.ntmps26
    go_wp2_with fail
    refine (voGood_any q A n cap ws _ hm (HK.out.now hb0)).mono ?_
    rintro e w1 ⟨rfl, hb⟩
    rw [HGB.out]
    go_wp2
    go_ret2
    rw [show weightSharesL q ws n = [] from okSh_no HGB.out, HGB.out]
    exact (ShAt.none_ (bfrom hb0 hb)).ans
end Go.Proofs.Ytlnlkfldlgchhab
