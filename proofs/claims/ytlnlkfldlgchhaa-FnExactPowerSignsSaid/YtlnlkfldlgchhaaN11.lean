/- Contracts of the model's SwingShares and AgreeChances. -/
import Derived.Outline
import Derived.Test.YtlnlkfldlgchhaaN9
import Derived.Test.YtlnlkfldlgchhaaN7
namespace Go.Proofs.Ytlnlkfldlgchhaa
open Go.RowKit Vo

set_option maxHeartbeats 1000000 in
theorem gmCount_any (p : Nat → Bool) (n g cap : Nat) (w : World) (hn : n < 10) (hw : WinsIn p n g w) :
    Calls Try.prog 65 #[.slice (some ⟨g, 0, none⟩) (2^n : Nat) cap] w fun e w' => e = .returned (.int .i64 (cnt p (2^n) : Nat)) ∧ w = w' := by
  have HW := Lib.hid hw
  have hgl := hw.lt
  have h512 := pow_lt (n := n) (by omega)
  clear hw
  unfold WinsIn at HW
  obtain ⟨N, hN⟩ : ∃ N, 2^n = N := ⟨_, rfl⟩
  rw [hN] at HW h512 ⊢
  clear hN
  go_enter Try.func65, Try.ntmps65
  go_wp2
  go_loop [3, 5, 8] (fun c _ i => ∃ k : Nat, k ≤ N ∧ i = .int .i64 k ∧ c = .int .i64 (cnt p k : Nat)) (fun _ _ i => N - (intOf i).toNat)
  case atStart => exact ⟨0, Nat.zero_le _, rfl, rfl⟩
  case round =>
    obtain ⟨k, hk, rfl, rfl⟩ := hrel
    have hcl := cnt_le p k
    by_cases hlt : k < N
    · have hcell := HW.out.cell hlt
      have HS := Lib.hid (show cnt p (k+1) = cnt p k + if p k then 1 else 0 from rfl)
      generalize cnt p k = t at *
      cases hwin : p k
      all_goals
        rw [hwin] at hcell HS
        clear hwin
        go_wp2
        go_round
        case rel => exact ⟨k + 1, by omega, by go_num, by rw [HS.out]; simp⟩
        case measure => simp [intOf]; omega
    · obtain rfl : k = N := by omega
      go_wp2
      go_ret
      exact ⟨rfl, rfl⟩
theorem cnt_not (p : Nat → Bool) (N : Nat) : cnt (fun s => !p s) N + cnt p N = N := by
  induction N with
  | zero => rfl
  | succ N ih => 
    simp only [cnt]
    by_cases h : p N = true
    · simp [h]; omega
    · simp at h; simp [h]; omega

set_option maxRecDepth 20000 in
set_option maxHeartbeats 4000000 in
theorem sSwingPowers_any (q : Int) (A : Option Addr) (n cap : Nat) (ws : List Int) (w : World) (hm : n ≤ 9223372036854775807) (hk : Known w A n ws) :
    Calls Try.prog 31 #[.agg #[.int .i64 q, .slice A n cap]] w fun e w' => ShAt (swingPowersL q ws n) (goodB q ws n) w w' e := by
  have HK := Lib.hid hk
  clear hk
  obtain ⟨i0, hi0, hz0, hz1, hz2⟩ := info_parts infoShare
  have hx := Box.new w (.int .i64 q) (.slice A n cap)
  have hb0 := below1 w (.cells #[.int .i64 q, .slice A n cap] 28)
  by_cases hg : Vo.Good q ws n
  · obtain ⟨b, off, rfl, hsl⟩ := HK.out.get hg.lo
    have HSL := Lib.hid hsl
    have HOK := Lib.hid hg.ok
    have HGB := Lib.hid (goodB_true hg)
    have hn9 := hg.hi
    have hn1 := hg.lo
    have hn10 : n < 10 := by omega
    obtain ⟨HF0, hD0, hD1⟩ := swingPowers_ok hg
    have HFF := Lib.hid HF0
    have HV := Lib.hid (show swingPowersL q ws n = shL (swingN q ws n) (2^(n-1)) n from okSh_yes HGB.out)
    have h512 := pow_lt hn9
    have hcn := cnt_not (winB q ws n) (2^n)
    clear hg hsl HF0
    have hsh := shl_pow (n - 1) (by omega)
    have hcast : ((n : Int) - 1) = ((n - 1 : Nat) : Int) := by omega
    go_enter Try.func31, Try.ntmps31
    go_wp2_with fail
    refine (voGood_any q _ n cap ws _ hm (HK.out.now hb0)).mono ?_
    rintro e w1 ⟨rfl, hb⟩
    rw [HGB.out]
    have hx1 := hx.now hb
    have g1 := bfrom hb0 hb
    have hs1 := Lib.hid (HSL.out.now g1)
    have hz1' : w.heap.size + 1 ≤ w1.heap.size := by have := hb.size; simpa using this
    obtain ⟨c0, c1⟩ := hx1.cells
    go_wp2_with (first
      | (go_at_call 53; refine (voWins_any q b off n cap ws _ hn10 HOK.out hs1.out).mono ?_; rintro e w2 ⟨g, cap2, rfl, hg, hown, hb2⟩; have HO2 := Lib.hid hown; have hgl2 := hown.lt; clear hown c0 c1; obtain ⟨c0, c1⟩ := (hx1.now hb2).cells)
      | (go_at_call 52; refine (pwCounts_any (winB q ws n) n g cap2 _ hn10 HO2.out).mono ?_; rintro e w3 ⟨A3, cap3, rfl, hown3, hb3⟩))
    have hown3' : w3.ownsRow w2.heap.size 3 1 (.slice A3 n cap3) n ((perL (swingN q ws n) n).map (Value.int .i64)) := by have h := hown3; rw [perL_len] at h; exact h
    rw [perL_len]
    obtain ⟨gA, hA, hgA, HRD0⟩ := row_reads (swingN q ws n) hown3' hn1 (B := w3.heap.size) (fun k hk => owns_lt hown3' hk)
    subst hA
    have HRD := Lib.hid HRD0
    have g3 := bfrom g1 (bfrom hb2 hb3)
    have hz3 : w.heap.size ≤ w3.heap.size := g3.size
    have HWN := Lib.hid (show ∀ W, Below w3.heap.size w3 W → WinsIn (winB q ws n) n g W from fun W h => Own.below (Own.now' HO2.out hb3) h (Nat.lt_of_lt_of_le hgl2 hb3.size))
    clear hown3 hown3' HRD0 HO2 hb2 hb3 hx1 hx hb g1
    go_wp2_with fail
    go_loopw [5, 7, 19] (fun v _ i wr => ∃ (j : Nat) (B : Option Addr) (cp : Nat), j ≤ n ∧ i = .int .i64 j ∧ v = .slice B j cp ∧ wr.ownsRow w3.heap.size 38 2 (.slice B j cp) j (shV (shL (swingN q ws n) (2^(n-1)) j)) ∧ Below w3.heap.size w3 wr) (fun _ _ i _ => n - (intOf i).toNat)
    case atStart => exact ⟨0, none, 0, Nat.zero_le _, rfl, rfl, World.ownsRow_nil _ _ _ _, Below.refl _ _⟩
    case round =>
      obtain ⟨j, B, cp, hj, rfl, rfl, hown, hbr⟩ := hrel
      have HO := Lib.hid hown
      have hszr := hbr.size
      clear hown
      by_cases hlt : j < n
      · have hcell := HRD.out wr hbr j hlt
        have HS := Lib.hid (shL_succ (swingN q ws n) (2^(n-1)) j)
        have hfj := HFF.out j hlt
        have HLT := Lib.hid (fun W => pwShare_any (swingN q ws n j) (2^(n-1)) W hD0 hfj hD1)
        have HSH := Lib.hid (show share1 (swingN q ws n j) (2^(n-1)) = (((swingN q ws n j / Nat.gcd (swingN q ws n j) (2^(n-1)) : Nat) : Int), (((2^(n-1)) / Nat.gcd (swingN q ws n j) (2^(n-1)) : Nat) : Int)) from rfl)
        generalize swingN q ws n j / Nat.gcd (swingN q ws n j) (2^(n-1)) = a at *
        generalize (2^(n-1)) / Nat.gcd (swingN q ws n j) (2^(n-1)) = bb at *
        go_wp2_with (first
          | (go_at_call 64; refine (HLT.out _).mono ?_; rintro e w5 ⟨rfl, hb5⟩; have HO5 := Lib.hid (owns_now HO.out hb5); have b5 := hbr.trans (hb5.mono (by omega)); have hsz5 := b5.size)
          | (at_builtin; refine wpList_append_lies _ rfl _ _ _ rfl w3.heap.size 38 i0 _ 2 16 Try.underlying42 hi0 hz0 hz1 hz2 rfl (by decide) (.slice B j cp) j (shV (shL (swingN q ws n) (2^(n-1)) j)) rfl (HO5.out.alloc _) ⟨w5.heap.size, 0, none⟩ 1 1 [.int .i64 a, .int .i64 bb] rfl rfl (World.news_of_block (cs := #[.int .i64 a, .int .i64 bb]) (t := 38) (fr := (0, 0)) (heap_alloc_new w5 _)) (by simp [Value.oneCell']) (by omega) (by unfold maxLen; omega) (by omega) (by simp; omega) (w5.heap.size + 1) (by simp) ?_; intro gg cap4 w6 hown6 hgrow6 hat hlt6))
        have b6 : Below w3.heap.size w3 w6 := (b5.alloc (by omega) (.cells #[.int .i64 a, .int .i64 bb] 38)).grown hgrow6 (by simp; omega) fun i hi => owns_le HO5.out hi
        go_roundw
        case rel => exact ⟨j + 1, some ⟨gg, 0, none⟩, cap4, by omega, by go_num, by simp, by rw [HS.out, shV_append, HSH.out]; simpa [shV] using hown6, b6⟩
        case measure => simp [intOf]; omega
      · obtain rfl : n = j := by omega
        have HLE := Lib.hid (shL_len (swingN q ws n) (2^(n-1)) n)
        go_wp2
        go_ret2
        exact ⟨B, cp, by rw [HV.out, HGB.out, HLE.out]; rfl, by rw [HV.out, HLE.out]; exact owns_less HO.out hz3, bfrom g3 hbr⟩
  · have HGB := Lib.hid (goodB_false hg)
    clear hg
    go_enter Try.func31, Try.ntmps31
    go_wp2_with fail
    refine (voGood_any q A n cap ws _ hm (HK.out.now hb0)).mono ?_
    rintro e w1 ⟨rfl, hb⟩
    rw [HGB.out]
    go_wp2
    go_ret2
    rw [show swingPowersL q ws n = [] from okSh_no HGB.out, HGB.out]
    exact ShAt.none_ (bfrom hb0 hb)
theorem sSwingPowers_ans (q : Int) (A : Option Addr) (n cap : Nat) (ws : List Int) (w : World) (hm : n ≤ 9223372036854775807) (hk : Known w A n ws) :
    Calls Try.prog 31 #[.agg #[.int .i64 q, .slice A n cap]] w fun e w' => Ans (RSh (swingPowersL q ws n)) (goodB q ws n) w w' e := (sSwingPowers_any q A n cap ws w hm hk).mono fun _ _ h => h.ans

set_option maxRecDepth 20000 in
set_option maxHeartbeats 4000000 in
theorem sOrderPowers_any (q : Int) (A : Option Addr) (n cap : Nat) (ws : List Int) (w : World) (hm : n ≤ 9223372036854775807) (hk : Known w A n ws) :
    Calls Try.prog 38 #[.agg #[.int .i64 q, .slice A n cap]] w fun e w' => ShAt (orderPowersL q ws n) (goodB q ws n) w w' e := by
  have HK := Lib.hid hk
  clear hk
  obtain ⟨i0, hi0, hz0, hz1, hz2⟩ := info_parts infoShare
  have hx := Box.new w (.int .i64 q) (.slice A n cap)
  have hb0 := below1 w (.cells #[.int .i64 q, .slice A n cap] 28)
  by_cases hg : Vo.Good q ws n
  · obtain ⟨b, off, rfl, hsl⟩ := HK.out.get hg.lo
    have HSL := Lib.hid hsl
    have HOK := Lib.hid hg.ok
    have HGB := Lib.hid (goodB_true hg)
    have hn9 := hg.hi
    have hn1 := hg.lo
    have hn10 : n < 10 := by omega
    obtain ⟨HF0, hD0, hD1⟩ := orderPowers_ok hg
    have HFF := Lib.hid HF0
    have HV := Lib.hid (show orderPowersL q ws n = shL (pivotN q ws n) (fact n) n from okSh_yes HGB.out)
    have h512 := pow_lt hn9
    have hcn := cnt_not (winB q ws n) (2^n)
    clear hg hsl HF0
    
    go_enter Try.func38, Try.ntmps38
    go_wp2_with fail
    refine (voGood_any q _ n cap ws _ hm (HK.out.now hb0)).mono ?_
    rintro e w1 ⟨rfl, hb⟩
    rw [HGB.out]
    have hx1 := hx.now hb
    have g1 := bfrom hb0 hb
    have hs1 := Lib.hid (HSL.out.now g1)
    have hz1' : w.heap.size + 1 ≤ w1.heap.size := by have := hb.size; simpa using this
    obtain ⟨c0, c1⟩ := hx1.cells
    go_wp2_with (first
      | (go_at_call 53; refine (voWins_any q b off n cap ws _ hn10 HOK.out hs1.out).mono ?_; rintro e w2 ⟨g, cap2, rfl, hg, hown, hb2⟩; have HO2 := Lib.hid hown; have hgl2 := hown.lt; clear hown c0 c1; obtain ⟨c0, c1⟩ := (hx1.now hb2).cells)
      | (go_at_call 57; refine (pwPivots_any (winB q ws n) n g cap2 _ hn10 HO2.out).mono ?_; rintro e w3 ⟨A3, cap3, rfl, hown3, hb3⟩))
    have hown3' : w3.ownsRow w2.heap.size 3 1 (.slice A3 n cap3) n ((perL (pivotN q ws n) n).map (Value.int .i64)) := by have h := hown3; rw [perL_len] at h; exact h
    rw [perL_len]
    obtain ⟨gA, hA, hgA, HRD0⟩ := row_reads (pivotN q ws n) hown3' hn1 (B := w3.heap.size) (fun k hk => owns_lt hown3' hk)
    subst hA
    have HRD := Lib.hid HRD0
    have g3 := bfrom g1 (bfrom hb2 hb3)
    have hz3 : w.heap.size ≤ w3.heap.size := g3.size
    have HWN := Lib.hid (show ∀ W, Below w3.heap.size w3 W → WinsIn (winB q ws n) n g W from fun W h => Own.below (Own.now' HO2.out hb3) h (Nat.lt_of_lt_of_le hgl2 hb3.size))
    clear hown3 hown3' HRD0 HO2 hb2 hb3 hx1 hx hb g1
    go_wp2_with fail
    go_loopw [5, 7, 19] (fun v _ i wr => ∃ (j : Nat) (B : Option Addr) (cp : Nat), j ≤ n ∧ i = .int .i64 j ∧ v = .slice B j cp ∧ wr.ownsRow w3.heap.size 38 2 (.slice B j cp) j (shV (shL (pivotN q ws n) (fact n) j)) ∧ Below w3.heap.size w3 wr) (fun _ _ i _ => n - (intOf i).toNat)
    case atStart => exact ⟨0, none, 0, Nat.zero_le _, rfl, rfl, World.ownsRow_nil _ _ _ _, Below.refl _ _⟩
    case round =>
      obtain ⟨j, B, cp, hj, rfl, rfl, hown, hbr⟩ := hrel
      have HO := Lib.hid hown
      have hszr := hbr.size
      clear hown
      by_cases hlt : j < n
      · have hcell := HRD.out wr hbr j hlt
        have HS := Lib.hid (shL_succ (pivotN q ws n) (fact n) j)
        have hfj := HFF.out j hlt
        have HLT := Lib.hid (fun W => pwShare_any (pivotN q ws n j) (fact n) W hD0 hfj hD1)
        have HSH := Lib.hid (show share1 (pivotN q ws n j) (fact n) = (((pivotN q ws n j / Nat.gcd (pivotN q ws n j) (fact n) : Nat) : Int), (((fact n) / Nat.gcd (pivotN q ws n j) (fact n) : Nat) : Int)) from rfl)
        generalize pivotN q ws n j / Nat.gcd (pivotN q ws n j) (fact n) = a at *
        generalize (fact n) / Nat.gcd (pivotN q ws n j) (fact n) = bb at *
        go_wp2_with (first
          | (go_at_call 74; (with_reducible refine (pwTimes_any n _ (by omega)).mono ?_); rintro e w4 ⟨rfl, rfl⟩)
          | (go_at_call 64; refine (HLT.out _).mono ?_; rintro e w5 ⟨rfl, hb5⟩; have HO5 := Lib.hid (owns_now HO.out hb5); have b5 := hbr.trans (hb5.mono (by omega)); have hsz5 := b5.size)
          | (at_builtin; refine wpList_append_lies _ rfl _ _ _ rfl w3.heap.size 38 i0 _ 2 16 Try.underlying42 hi0 hz0 hz1 hz2 rfl (by decide) (.slice B j cp) j (shV (shL (pivotN q ws n) (fact n) j)) rfl (HO5.out.alloc _) ⟨w5.heap.size, 0, none⟩ 1 1 [.int .i64 a, .int .i64 bb] rfl rfl (World.news_of_block (cs := #[.int .i64 a, .int .i64 bb]) (t := 38) (fr := (0, 0)) (heap_alloc_new w5 _)) (by simp [Value.oneCell']) (by omega) (by unfold maxLen; omega) (by omega) (by simp; omega) (w5.heap.size + 1) (by simp) ?_; intro gg cap4 w6 hown6 hgrow6 hat hlt6))
        have b6 : Below w3.heap.size w3 w6 := (b5.alloc (by omega) (.cells #[.int .i64 a, .int .i64 bb] 38)).grown hgrow6 (by simp; omega) fun i hi => owns_le HO5.out hi
        go_roundw
        case rel => exact ⟨j + 1, some ⟨gg, 0, none⟩, cap4, by omega, by go_num, by simp, by rw [HS.out, shV_append, HSH.out]; simpa [shV] using hown6, b6⟩
        case measure => simp [intOf]; omega
      · obtain rfl : n = j := by omega
        have HLE := Lib.hid (shL_len (pivotN q ws n) (fact n) n)
        go_wp2
        go_ret2
        exact ⟨B, cp, by rw [HV.out, HGB.out, HLE.out]; rfl, by rw [HV.out, HLE.out]; exact owns_less HO.out hz3, bfrom g3 hbr⟩
  · have HGB := Lib.hid (goodB_false hg)
    clear hg
    go_enter Try.func38, Try.ntmps38
    go_wp2_with fail
    refine (voGood_any q A n cap ws _ hm (HK.out.now hb0)).mono ?_
    rintro e w1 ⟨rfl, hb⟩
    rw [HGB.out]
    go_wp2
    go_ret2
    rw [show orderPowersL q ws n = [] from okSh_no HGB.out, HGB.out]
    exact ShAt.none_ (bfrom hb0 hb)
theorem sOrderPowers_ans (q : Int) (A : Option Addr) (n cap : Nat) (ws : List Int) (w : World) (hm : n ≤ 9223372036854775807) (hk : Known w A n ws) :
    Calls Try.prog 38 #[.agg #[.int .i64 q, .slice A n cap]] w fun e w' => Ans (RSh (orderPowersL q ws n)) (goodB q ws n) w w' e := (sOrderPowers_any q A n cap ws w hm hk).mono fun _ _ h => h.ans

set_option maxRecDepth 20000 in
set_option maxHeartbeats 4000000 in
theorem sBlockPowers_any (q : Int) (A : Option Addr) (n cap : Nat) (ws : List Int) (w : World) (hm : n ≤ 9223372036854775807) (hk : Known w A n ws) :
    Calls Try.prog 40 #[.agg #[.int .i64 q, .slice A n cap]] w fun e w' => ShAt (blockPowersL q ws n) (goodB q ws n) w w' e := by
  have HK := Lib.hid hk
  clear hk
  obtain ⟨i0, hi0, hz0, hz1, hz2⟩ := info_parts infoShare
  have hx := Box.new w (.int .i64 q) (.slice A n cap)
  have hb0 := below1 w (.cells #[.int .i64 q, .slice A n cap] 28)
  by_cases hg : Vo.Good q ws n
  · obtain ⟨b, off, rfl, hsl⟩ := HK.out.get hg.lo
    have HSL := Lib.hid hsl
    have HOK := Lib.hid hg.ok
    have HGB := Lib.hid (goodB_true hg)
    have hn9 := hg.hi
    have hn1 := hg.lo
    have hn10 : n < 10 := by omega
    obtain ⟨HF0, hD0, hD1⟩ := blockPowers_ok hg
    have HFF := Lib.hid HF0
    have HV := Lib.hid (show blockPowersL q ws n = shL (swingN q ws n) (cnt (winB q ws n) (2^n)) n from okSh_yes HGB.out)
    have h512 := pow_lt hn9
    have hcn := cnt_not (winB q ws n) (2^n)
    clear hg hsl HF0
    
    go_enter Try.func40, Try.ntmps40
    go_wp2_with fail
    refine (voGood_any q _ n cap ws _ hm (HK.out.now hb0)).mono ?_
    rintro e w1 ⟨rfl, hb⟩
    rw [HGB.out]
    have hx1 := hx.now hb
    have g1 := bfrom hb0 hb
    have hs1 := Lib.hid (HSL.out.now g1)
    have hz1' : w.heap.size + 1 ≤ w1.heap.size := by have := hb.size; simpa using this
    obtain ⟨c0, c1⟩ := hx1.cells
    go_wp2_with (first
      | (go_at_call 53; refine (voWins_any q b off n cap ws _ hn10 HOK.out hs1.out).mono ?_; rintro e w2 ⟨g, cap2, rfl, hg, hown, hb2⟩; have HO2 := Lib.hid hown; have hgl2 := hown.lt; clear hown c0 c1; obtain ⟨c0, c1⟩ := (hx1.now hb2).cells)
      | (go_at_call 52; refine (pwCounts_any (winB q ws n) n g cap2 _ hn10 HO2.out).mono ?_; rintro e w3 ⟨A3, cap3, rfl, hown3, hb3⟩))
    have hown3' : w3.ownsRow w2.heap.size 3 1 (.slice A3 n cap3) n ((perL (swingN q ws n) n).map (Value.int .i64)) := by have h := hown3; rw [perL_len] at h; exact h
    rw [perL_len]
    obtain ⟨gA, hA, hgA, HRD0⟩ := row_reads (swingN q ws n) hown3' hn1 (B := w3.heap.size) (fun k hk => owns_lt hown3' hk)
    subst hA
    have HRD := Lib.hid HRD0
    have g3 := bfrom g1 (bfrom hb2 hb3)
    have hz3 : w.heap.size ≤ w3.heap.size := g3.size
    have HWN := Lib.hid (show ∀ W, Below w3.heap.size w3 W → WinsIn (winB q ws n) n g W from fun W h => Own.below (Own.now' HO2.out hb3) h (Nat.lt_of_lt_of_le hgl2 hb3.size))
    clear hown3 hown3' HRD0 HO2 hb2 hb3 hx1 hx hb g1
    go_wp2_with fail
    go_loopw [5, 7, 19] (fun v _ i wr => ∃ (j : Nat) (B : Option Addr) (cp : Nat), j ≤ n ∧ i = .int .i64 j ∧ v = .slice B j cp ∧ wr.ownsRow w3.heap.size 38 2 (.slice B j cp) j (shV (shL (swingN q ws n) (cnt (winB q ws n) (2^n)) j)) ∧ Below w3.heap.size w3 wr) (fun _ _ i _ => n - (intOf i).toNat)
    case atStart => exact ⟨0, none, 0, Nat.zero_le _, rfl, rfl, World.ownsRow_nil _ _ _ _, Below.refl _ _⟩
    case round =>
      obtain ⟨j, B, cp, hj, rfl, rfl, hown, hbr⟩ := hrel
      have HO := Lib.hid hown
      have hszr := hbr.size
      clear hown
      by_cases hlt : j < n
      · have hcell := HRD.out wr hbr j hlt
        have HS := Lib.hid (shL_succ (swingN q ws n) (cnt (winB q ws n) (2^n)) j)
        have hfj := HFF.out j hlt
        have HLT := Lib.hid (fun W => pwShare_any (swingN q ws n j) (cnt (winB q ws n) (2^n)) W hD0 hfj hD1)
        have HSH := Lib.hid (show share1 (swingN q ws n j) (cnt (winB q ws n) (2^n)) = (((swingN q ws n j / Nat.gcd (swingN q ws n j) (cnt (winB q ws n) (2^n)) : Nat) : Int), (((cnt (winB q ws n) (2^n)) / Nat.gcd (swingN q ws n j) (cnt (winB q ws n) (2^n)) : Nat) : Int)) from rfl)
        generalize swingN q ws n j / Nat.gcd (swingN q ws n j) (cnt (winB q ws n) (2^n)) = a at *
        generalize (cnt (winB q ws n) (2^n)) / Nat.gcd (swingN q ws n j) (cnt (winB q ws n) (2^n)) = bb at *
        go_wp2_with (first
          | (go_at_call 65; refine (gmCount_any (winB q ws n) n g cap2 _ hn10 (HWN.out wr hbr)).mono ?_; rintro e w4 ⟨rfl, rfl⟩)
          | (go_at_call 64; refine (HLT.out _).mono ?_; rintro e w5 ⟨rfl, hb5⟩; have HO5 := Lib.hid (owns_now HO.out hb5); have b5 := hbr.trans (hb5.mono (by omega)); have hsz5 := b5.size)
          | (at_builtin; refine wpList_append_lies _ rfl _ _ _ rfl w3.heap.size 38 i0 _ 2 16 Try.underlying42 hi0 hz0 hz1 hz2 rfl (by decide) (.slice B j cp) j (shV (shL (swingN q ws n) (cnt (winB q ws n) (2^n)) j)) rfl (HO5.out.alloc _) ⟨w5.heap.size, 0, none⟩ 1 1 [.int .i64 a, .int .i64 bb] rfl rfl (World.news_of_block (cs := #[.int .i64 a, .int .i64 bb]) (t := 38) (fr := (0, 0)) (heap_alloc_new w5 _)) (by simp [Value.oneCell']) (by omega) (by unfold maxLen; omega) (by omega) (by simp; omega) (w5.heap.size + 1) (by simp) ?_; intro gg cap4 w6 hown6 hgrow6 hat hlt6))
        have b6 : Below w3.heap.size w3 w6 := (b5.alloc (by omega) (.cells #[.int .i64 a, .int .i64 bb] 38)).grown hgrow6 (by simp; omega) fun i hi => owns_le HO5.out hi
        go_roundw
        case rel => exact ⟨j + 1, some ⟨gg, 0, none⟩, cap4, by omega, by go_num, by simp, by rw [HS.out, shV_append, HSH.out]; simpa [shV] using hown6, b6⟩
        case measure => simp [intOf]; omega
      · obtain rfl : n = j := by omega
        have HLE := Lib.hid (shL_len (swingN q ws n) (cnt (winB q ws n) (2^n)) n)
        go_wp2
        go_ret2
        exact ⟨B, cp, by rw [HV.out, HGB.out, HLE.out]; rfl, by rw [HV.out, HLE.out]; exact owns_less HO.out hz3, bfrom g3 hbr⟩
  · have HGB := Lib.hid (goodB_false hg)
    clear hg
    go_enter Try.func40, Try.ntmps40
    go_wp2_with fail
    refine (voGood_any q A n cap ws _ hm (HK.out.now hb0)).mono ?_
    rintro e w1 ⟨rfl, hb⟩
    rw [HGB.out]
    go_wp2
    go_ret2
    rw [show blockPowersL q ws n = [] from okSh_no HGB.out, HGB.out]
    exact ShAt.none_ (bfrom hb0 hb)
theorem sBlockPowers_ans (q : Int) (A : Option Addr) (n cap : Nat) (ws : List Int) (w : World) (hm : n ≤ 9223372036854775807) (hk : Known w A n ws) :
    Calls Try.prog 40 #[.agg #[.int .i64 q, .slice A n cap]] w fun e w' => Ans (RSh (blockPowersL q ws n)) (goodB q ws n) w w' e := (sBlockPowers_any q A n cap ws w hm hk).mono fun _ _ h => h.ans

set_option maxRecDepth 20000 in
set_option maxHeartbeats 4000000 in
theorem sStartPowers_any (q : Int) (A : Option Addr) (n cap : Nat) (ws : List Int) (w : World) (hm : n ≤ 9223372036854775807) (hk : Known w A n ws) :
    Calls Try.prog 42 #[.agg #[.int .i64 q, .slice A n cap]] w fun e w' => ShAt (startPowersL q ws n) (goodB q ws n) w w' e := by
  have HK := Lib.hid hk
  clear hk
  obtain ⟨i0, hi0, hz0, hz1, hz2⟩ := info_parts infoShare
  have hx := Box.new w (.int .i64 q) (.slice A n cap)
  have hb0 := below1 w (.cells #[.int .i64 q, .slice A n cap] 28)
  by_cases hg : Vo.Good q ws n
  · obtain ⟨b, off, rfl, hsl⟩ := HK.out.get hg.lo
    have HSL := Lib.hid hsl
    have HOK := Lib.hid hg.ok
    have HGB := Lib.hid (goodB_true hg)
    have hn9 := hg.hi
    have hn1 := hg.lo
    have hn10 : n < 10 := by omega
    obtain ⟨HF0, hD0, hD1⟩ := startPowers_ok hg
    have HFF := Lib.hid HF0
    have HV := Lib.hid (show startPowersL q ws n = shL (swingN q ws n) (cnt (fun s => !winB q ws n s) (2^n)) n from okSh_yes HGB.out)
    have h512 := pow_lt hn9
    have hcn := cnt_not (winB q ws n) (2^n)
    clear hg hsl HF0
    have HDD := Lib.hid (show (((2^n : Nat) : Int) - (cnt (winB q ws n) (2^n) : Nat)) = ((cnt (fun s => !winB q ws n s) (2^n) : Nat) : Int) from by omega)
    have HDD2 := Lib.hid (show wrap64 ((2 : Int)^n - (cnt (winB q ws n) (2^n) : Nat)) = ((cnt (fun s => !winB q ws n s) (2^n) : Nat) : Int) from by
      have h : ((2 : Int)^n - (cnt (winB q ws n) (2^n) : Nat)) = ((cnt (fun s => !winB q ws n s) (2^n) : Nat) : Int) := by rw [← HDD.out]; simp
      rw [h]; exact IntWalk.wrap64_in _ (by omega))
    go_enter Try.func42, Try.ntmps42
    go_wp2_with fail
    refine (voGood_any q _ n cap ws _ hm (HK.out.now hb0)).mono ?_
    rintro e w1 ⟨rfl, hb⟩
    rw [HGB.out]
    have hx1 := hx.now hb
    have g1 := bfrom hb0 hb
    have hs1 := Lib.hid (HSL.out.now g1)
    have hz1' : w.heap.size + 1 ≤ w1.heap.size := by have := hb.size; simpa using this
    obtain ⟨c0, c1⟩ := hx1.cells
    go_wp2_with (first
      | (go_at_call 53; refine (voWins_any q b off n cap ws _ hn10 HOK.out hs1.out).mono ?_; rintro e w2 ⟨g, cap2, rfl, hg, hown, hb2⟩; have HO2 := Lib.hid hown; have hgl2 := hown.lt; clear hown c0 c1; obtain ⟨c0, c1⟩ := (hx1.now hb2).cells)
      | (go_at_call 52; refine (pwCounts_any (winB q ws n) n g cap2 _ hn10 HO2.out).mono ?_; rintro e w3 ⟨A3, cap3, rfl, hown3, hb3⟩))
    have hown3' : w3.ownsRow w2.heap.size 3 1 (.slice A3 n cap3) n ((perL (swingN q ws n) n).map (Value.int .i64)) := by have h := hown3; rw [perL_len] at h; exact h
    rw [perL_len]
    obtain ⟨gA, hA, hgA, HRD0⟩ := row_reads (swingN q ws n) hown3' hn1 (B := w3.heap.size) (fun k hk => owns_lt hown3' hk)
    subst hA
    have HRD := Lib.hid HRD0
    have g3 := bfrom g1 (bfrom hb2 hb3)
    have hz3 : w.heap.size ≤ w3.heap.size := g3.size
    have HWN := Lib.hid (show ∀ W, Below w3.heap.size w3 W → WinsIn (winB q ws n) n g W from fun W h => Own.below (Own.now' HO2.out hb3) h (Nat.lt_of_lt_of_le hgl2 hb3.size))
    clear hown3 hown3' HRD0 HO2 hb2 hb3 hx1 hx hb g1
    go_wp2_with fail
    go_loopw [5, 7, 19] (fun v _ i wr => ∃ (j : Nat) (B : Option Addr) (cp : Nat), j ≤ n ∧ i = .int .i64 j ∧ v = .slice B j cp ∧ wr.ownsRow w3.heap.size 38 2 (.slice B j cp) j (shV (shL (swingN q ws n) (cnt (fun s => !winB q ws n s) (2^n)) j)) ∧ Below w3.heap.size w3 wr) (fun _ _ i _ => n - (intOf i).toNat)
    case atStart => exact ⟨0, none, 0, Nat.zero_le _, rfl, rfl, World.ownsRow_nil _ _ _ _, Below.refl _ _⟩
    case round =>
      obtain ⟨j, B, cp, hj, rfl, rfl, hown, hbr⟩ := hrel
      have HO := Lib.hid hown
      have hszr := hbr.size
      clear hown
      by_cases hlt : j < n
      · have hcell := HRD.out wr hbr j hlt
        have HS := Lib.hid (shL_succ (swingN q ws n) (cnt (fun s => !winB q ws n s) (2^n)) j)
        have hfj := HFF.out j hlt
        have HLT := Lib.hid (fun W => pwShare_any (swingN q ws n j) (cnt (fun s => !winB q ws n s) (2^n)) W hD0 hfj hD1)
        have HSH := Lib.hid (show share1 (swingN q ws n j) (cnt (fun s => !winB q ws n s) (2^n)) = (((swingN q ws n j / Nat.gcd (swingN q ws n j) (cnt (fun s => !winB q ws n s) (2^n)) : Nat) : Int), (((cnt (fun s => !winB q ws n s) (2^n)) / Nat.gcd (swingN q ws n j) (cnt (fun s => !winB q ws n s) (2^n)) : Nat) : Int)) from rfl)
        generalize swingN q ws n j / Nat.gcd (swingN q ws n j) (cnt (fun s => !winB q ws n s) (2^n)) = a at *
        generalize (cnt (fun s => !winB q ws n s) (2^n)) / Nat.gcd (swingN q ws n j) (cnt (fun s => !winB q ws n s) (2^n)) = bb at *
        go_wp2_with (first
          | (go_at_call 65; refine (gmCount_any (winB q ws n) n g cap2 _ hn10 (HWN.out wr hbr)).mono ?_; rintro e w4 ⟨rfl, rfl⟩)
          | (go_at_call 64; (first | rw [HDD.out] | rw [HDD2.out] | skip); (with_reducible refine (HLT.out _).mono ?_); rintro e w5 ⟨rfl, hb5⟩; have HO5 := Lib.hid (owns_now HO.out hb5); have b5 := hbr.trans (hb5.mono (by omega)); have hsz5 := b5.size)
          | (at_builtin; refine wpList_append_lies _ rfl _ _ _ rfl w3.heap.size 38 i0 _ 2 16 Try.underlying42 hi0 hz0 hz1 hz2 rfl (by decide) (.slice B j cp) j (shV (shL (swingN q ws n) (cnt (fun s => !winB q ws n s) (2^n)) j)) rfl (HO5.out.alloc _) ⟨w5.heap.size, 0, none⟩ 1 1 [.int .i64 a, .int .i64 bb] rfl rfl (World.news_of_block (cs := #[.int .i64 a, .int .i64 bb]) (t := 38) (fr := (0, 0)) (heap_alloc_new w5 _)) (by simp [Value.oneCell']) (by omega) (by unfold maxLen; omega) (by omega) (by simp; omega) (w5.heap.size + 1) (by simp) ?_; intro gg cap4 w6 hown6 hgrow6 hat hlt6))
        have b6 : Below w3.heap.size w3 w6 := (b5.alloc (by omega) (.cells #[.int .i64 a, .int .i64 bb] 38)).grown hgrow6 (by simp; omega) fun i hi => owns_le HO5.out hi
        go_roundw
        case rel => exact ⟨j + 1, some ⟨gg, 0, none⟩, cap4, by omega, by go_num, by simp, by rw [HS.out, shV_append, HSH.out]; simpa [shV] using hown6, b6⟩
        case measure => simp [intOf]; omega
      · obtain rfl : n = j := by omega
        have HLE := Lib.hid (shL_len (swingN q ws n) (cnt (fun s => !winB q ws n s) (2^n)) n)
        go_wp2
        go_ret2
        exact ⟨B, cp, by rw [HV.out, HGB.out, HLE.out]; rfl, by rw [HV.out, HLE.out]; exact owns_less HO.out hz3, bfrom g3 hbr⟩
  · have HGB := Lib.hid (goodB_false hg)
    clear hg
    go_enter Try.func42, Try.ntmps42
    go_wp2_with fail
    refine (voGood_any q A n cap ws _ hm (HK.out.now hb0)).mono ?_
    rintro e w1 ⟨rfl, hb⟩
    rw [HGB.out]
    go_wp2
    go_ret2
    rw [show startPowersL q ws n = [] from okSh_no HGB.out, HGB.out]
    exact ShAt.none_ (bfrom hb0 hb)
theorem sStartPowers_ans (q : Int) (A : Option Addr) (n cap : Nat) (ws : List Int) (w : World) (hm : n ≤ 9223372036854775807) (hk : Known w A n ws) :
    Calls Try.prog 42 #[.agg #[.int .i64 q, .slice A n cap]] w fun e w' => Ans (RSh (startPowersL q ws n)) (goodB q ws n) w w' e := (sStartPowers_any q A n cap ws w hm hk).mono fun _ _ h => h.ans
end Go.Proofs.Ytlnlkfldlgchhaa

namespace Go.Proofs.Ytlnlkfldlgchhaa
open Go.RowKit Vo

theorem sumK_perL (f : Nat → Nat) {n k : Nat} (h : k ≤ n) : sumK (perL f n) k = ((sumN f k : Nat) : Int) := by
  induction k with
  | zero => rfl
  | succ k ih => simp only [sumK, sumN]; rw [ih (by omega), perL_get (by omega)]; simp
theorem inK_perL {f : Nat → Nat} {n : Nat} (h : ∀ k, f k ≤ 1000) : InK 0 1000 (perL f n) n := by
  intro j hj
  rw [perL_get hj]
  have := h j
  omega

set_option maxRecDepth 20000 in
set_option maxHeartbeats 4000000 in
theorem pwShares_any (q : Int) (ws : List Int) (n g cap : Nat) (w : World) (hgd : Vo.Good q ws n) (hw : WinsIn (winB q ws n) n g w) :
    Calls Try.prog 72 #[.slice (some ⟨g, 0, none⟩) (2^n : Nat) cap, .int .i64 n] w fun e w' =>
      ∃ A cp, e = .returned (.slice A n cp) ∧ w'.ownsRow w.heap.size 38 2 (.slice A n cp) n (shV (shL (swingN q ws n) (sumN (swingN q ws n) n) n)) ∧ Below w.heap.size w w' := by
  obtain ⟨i0, hi0, hz0, hz1, hz2⟩ := info_parts infoShare
  have HW := Lib.hid hw
  have hn1 := hgd.lo
  have hn9 := hgd.hi
  have hn10 : n < 10 := by omega
  obtain ⟨HF0, hD0, hD1⟩ := swingShares_ok hgd
  have HFF := Lib.hid HF0
  have HIN := Lib.hid (inK_perL (f := swingN q ws n) (n := n) fun k => Nat.le_trans (cnt_le _ _) (Nat.le_trans (pow_lt hn9) (by omega)))
  have HSK := Lib.hid (sumK_perL (swingN q ws n) (Nat.le_refl n))
  obtain ⟨D, hD⟩ : ∃ D, D = sumN (swingN q ws n) n := ⟨_, rfl⟩
  rw [← hD] at hD0 hD1 HSK ⊢
  clear hw hgd HF0 hD
  go_enter Try.func72, Try.ntmps72
  go_wp2_with fail
  refine (pwCounts_any (winB q ws n) n g cap _ hn10 HW.out).mono ?_
  rintro e w3 ⟨A3, cap3, rfl, hown3, hb3⟩
  have hown3' : w3.ownsRow w.heap.size 3 1 (.slice A3 n cap3) n ((perL (swingN q ws n) n).map (Value.int .i64)) := by have h := hown3; rw [perL_len] at h; exact h
  rw [perL_len]
  obtain ⟨gA, hA, hgA, HRD0⟩ := row_reads (swingN q ws n) hown3' hn1 (B := w3.heap.size) (fun k hk => owns_lt hown3' hk)
  subst hA
  have HRD := Lib.hid HRD0
  have HSL := Lib.hid (show ∀ W, Below w3.heap.size w3 W → Sl W gA 0 n (perL (swingN q ws n) n) from fun W h => ⟨Nat.lt_of_lt_of_le hgA h.size, fun j hj => by rw [Nat.zero_add, HRD0 W h j hj, perL_get hj]⟩)
  have hz3 : w.heap.size ≤ w3.heap.size := hb3.size
  clear hown3 hown3' HRD0 HW
  go_wp2_with fail
  go_loopw [6, 8, 14] (fun v _ i wr => ∃ (j : Nat) (B : Option Addr) (cp : Nat), j ≤ n ∧ i = .int .i64 j ∧ v = .slice B j cp ∧ wr.ownsRow w3.heap.size 38 2 (.slice B j cp) j (shV (shL (swingN q ws n) D j)) ∧ Below w3.heap.size w3 wr) (fun _ _ i _ => n - (intOf i).toNat)
  case atStart => exact ⟨0, none, 0, Nat.zero_le _, rfl, rfl, World.ownsRow_nil _ _ _ _, Below.refl _ _⟩
  case round =>
    obtain ⟨j, B, cp, hj, rfl, rfl, hown, hbr⟩ := hrel
    have HO := Lib.hid hown
    have hszr := hbr.size
    clear hown
    by_cases hlt : j < n
    · have hcell := HRD.out wr hbr j hlt
      have HS := Lib.hid (shL_succ (swingN q ws n) D j)
      have hfj := HFF.out j hlt
      have HLT := Lib.hid (fun W => pwShare_any (swingN q ws n j) D W hD0 hfj hD1)
      have HSH := Lib.hid (show share1 (swingN q ws n j) D = (((swingN q ws n j / Nat.gcd (swingN q ws n j) D : Nat) : Int), ((D / Nat.gcd (swingN q ws n j) D : Nat) : Int)) from rfl)
      generalize swingN q ws n j / Nat.gcd (swingN q ws n j) D = a at *
      generalize D / Nat.gcd (swingN q ws n j) D = bb at *
      go_wp2_with (first
        | (go_at_call 89; refine (voSum_any gA 0 n cap3 (perL (swingN q ws n) n) _ hn10 HIN.out (HSL.out wr hbr)).mono ?_; rintro e w4 ⟨rfl, rfl⟩; rw [HSK.out])
        | (go_at_call 64; refine (HLT.out _).mono ?_; rintro e w5 ⟨rfl, hb5⟩; have HO5 := Lib.hid (owns_now HO.out hb5); have b5 := hbr.trans (hb5.mono (by omega)); have hsz5 := b5.size)
        | (at_builtin; refine wpList_append_lies _ rfl _ _ _ rfl w3.heap.size 38 i0 _ 2 16 Try.underlying42 hi0 hz0 hz1 hz2 rfl (by decide) (.slice B j cp) j (shV (shL (swingN q ws n) D j)) rfl (HO5.out.alloc _) ⟨w5.heap.size, 0, none⟩ 1 1 [.int .i64 a, .int .i64 bb] rfl rfl (World.news_of_block (cs := #[.int .i64 a, .int .i64 bb]) (t := 38) (fr := (0, 0)) (heap_alloc_new w5 _)) (by simp [Value.oneCell']) (by omega) (by unfold maxLen; omega) (by omega) (by simp; omega) (w5.heap.size + 1) (by simp) ?_; intro gg cap4 w6 hown6 hgrow6 hat hlt6))
      have b6 : Below w3.heap.size w3 w6 := (b5.alloc (by omega) (.cells #[.int .i64 a, .int .i64 bb] 38)).grown hgrow6 (by simp; omega) fun i hi => owns_le HO5.out hi
      go_roundw
      case rel => exact ⟨j + 1, some ⟨gg, 0, none⟩, cap4, by omega, by go_num, by simp, by rw [HS.out, shV_append, HSH.out]; simpa [shV] using hown6, b6⟩
      case measure => simp [intOf]; omega
    · obtain rfl : n = j := by omega
      go_wp2
      go_ret
      exact ⟨B, cp, rfl, owns_less HO.out hz3, bfrom hb3 hbr⟩

set_option maxHeartbeats 2000000 in
theorem sSwingShares_any (q : Int) (A : Option Addr) (n cap : Nat) (ws : List Int) (w : World) (hm : n ≤ 9223372036854775807) (hk : Known w A n ws) :
    Calls Try.prog 36 #[.agg #[.int .i64 q, .slice A n cap]] w fun e w' => ShAt (swingSharesL q ws n) (goodB q ws n) w w' e := by
  have HK := Lib.hid hk
  clear hk
  have hx := Box.new w (.int .i64 q) (.slice A n cap)
  have hb0 := below1 w (.cells #[.int .i64 q, .slice A n cap] 28)
  by_cases hg : Vo.Good q ws n
  · obtain ⟨b, off, rfl, hsl⟩ := HK.out.get hg.lo
    have HSL := Lib.hid hsl
    have HOK := Lib.hid hg.ok
    have HG := Lib.hid hg
    have HGB := Lib.hid (goodB_true hg)
    have hn9 := hg.hi
    have hn10 : n < 10 := by omega
    clear hg hsl
    go_enter Try.func36, Try.ntmps36
    go_wp2_with fail
    refine (voGood_any q _ n cap ws _ hm (HK.out.now hb0)).mono ?_
    rintro e w1 ⟨rfl, hb⟩
    rw [HGB.out]
    have hx1 := hx.now hb
    have g1 := bfrom hb0 hb
    have hs1 := Lib.hid (HSL.out.now g1)
    obtain ⟨hc0, hc1⟩ := hx1.cells
    have HV := Lib.hid (show swingSharesL q ws n = shL (swingN q ws n) (sumN (swingN q ws n) n) n from okSh_yes HGB.out)
    have HLE := Lib.hid (shL_len (swingN q ws n) (sumN (swingN q ws n) n) n)
    go_wp2_with fail
    go_region_held3 (fun w' => w'.cell? ⟨w.heap.size, 0, none⟩ = some (.int .i64 q) ∧ w'.cell? ⟨w.heap.size, 1, none⟩ = some (.slice (some ⟨b, off, none⟩) n cap))
      (first | exact hd | exact hd2 | exact hx1.cells | go_keep)
      (first
        | (go_at_call 53; refine (voWins_any q b off n cap ws _ hn10 HOK.out hs1.out.drew).mono ?_; rintro e w2 ⟨g, cap2, rfl, hg, hown, hb2⟩; have HO := Lib.hid hown; clear hown; have hd := (hx1.drew.now hb2).cells)
        | (go_at_call 72; refine (pwShares_any q ws n g cap2 _ HG.out HO.out).mono ?_; rintro e w3 ⟨A3, cap3, rfl, hown3, hb3⟩; have HO3 := Lib.hid hown3; clear hown3; have hd2 := ((hx1.drew.now hb2).now hb3).cells))
    all_goals
      have g2 := bfrom g1.drew hb2
      have hz := g2.size
      go_wp2
      go_ret2
      exact ⟨A3, cap3, by rw [HV.out, HGB.out, HLE.out]; rfl, by rw [HV.out, HLE.out]; exact owns_less HO3.out hz, bfrom g2 hb3⟩
  · have HGB := Lib.hid (goodB_false hg)
    clear hg
    go_enter Try.func36, Try.ntmps36
    go_wp2_with fail
    refine (voGood_any q A n cap ws _ hm (HK.out.now hb0)).mono ?_
    rintro e w1 ⟨rfl, hb⟩
    rw [HGB.out]
    go_wp2
    go_ret2
    rw [show swingSharesL q ws n = [] from okSh_no HGB.out, HGB.out]
    exact ShAt.none_ (bfrom hb0 hb)
theorem sSwingShares_ans (q : Int) (A : Option Addr) (n cap : Nat) (ws : List Int) (w : World) (hm : n ≤ 9223372036854775807) (hk : Known w A n ws) :
    Calls Try.prog 36 #[.agg #[.int .i64 q, .slice A n cap]] w fun e w' => Ans (RSh (swingSharesL q ws n)) (goodB q ws n) w w' e := (sSwingShares_any q A n cap ws w hm hk).mono fun _ _ h => h.ans
end Go.Proofs.Ytlnlkfldlgchhaa
