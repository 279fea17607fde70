/- Contracts of StrongestByOrders and of DecidePower, the program's and the model's. -/
import Derived.Test.YtlnlkfldlgchhaaN11
import Derived.Outline
namespace Go.Proofs.Ytlnlkfldlgchhaa
open Go.RowKit Vo

/-- The greatest of the first k. -/
def maxN (f : Nat → Nat) : Nat → Nat
  | 0 => 0
  | k+1 => max (maxN f k) (f k)
theorem maxN_le {f : Nat → Nat} {B k : Nat} (h : ∀ j, f j ≤ B) : maxN f k ≤ B := by
  induction k with
  | zero => simp [maxN]
  | succ k ih => have := h k; simp only [maxN]; omega
/-- The members with a number. -/
def eqL (f : Nat → Nat) (m : Nat) : Nat → List Int
  | 0 => []
  | k+1 => eqL f m k ++ if f k = m then [(k : Int)] else []
theorem eqL_len (f : Nat → Nat) (m k : Nat) : (eqL f m k).length ≤ k := by
  induction k with
  | zero => simp [eqL]
  | succ k ih => simp only [eqL, List.length_append]; split <;> simp <;> omega
def strongL (q : Int) (ws : List Int) (n : Nat) : List Int := okL (goodB q ws n) (eqL (pivotN q ws n) (maxN (pivotN q ws n) n) n)
theorem strongL_len (q : Int) (ws : List Int) (n : Nat) : (strongL q ws n).length ≤ 1048576 := by
  by_cases hg : Vo.Good q ws n
  · exact okL_len (Nat.le_trans (eqL_len _ _ _) (by have := hg.hi; omega))
  · unfold strongL; rw [okL_no (goodB_false hg)]; simp
theorem pivotN_le {q ws n} (hn : n ≤ 9) (k : Nat) : pivotN q ws n k ≤ 131681894400 * 512 := pivN_le hn (pow_lt hn)

set_option maxHeartbeats 1000000 in
theorem max_any (f : Nat → Nat) (g n cap : Nat) (w : World) (h1 : 1 ≤ n) (hn : n < 10) (hf : ∀ k, f k ≤ 131681894400 * 512) (_hgl : g < w.heap.size) (hr : ∀ j, j < n → w.cell? ⟨g, j, none⟩ = some (.int .i64 (f j : Nat))) :
    Calls Try.prog 79 #[.slice (some ⟨g, 0, none⟩) n cap] w fun e w' => e = .returned (.int .i64 (maxN f n : Nat)) ∧ w = w' := by
  have HR := Lib.hid hr
  have HF := Lib.hid hf
  have hc0 := hr 0 (by omega)
  have H1 := Lib.hid (show maxN f 1 = f 0 from by simp [maxN])
  have h0 : ¬ (n : Int) < 1 := by omega
  have hf0 := hf 0
  clear hr hf
  go_enter Try.func79, Try.ntmps79
  go_wp2
  go_loop [3, 4] (fun m i => ∃ k : Nat, 1 ≤ k ∧ k ≤ n ∧ i = .int .i64 k ∧ m = .int .i64 (maxN f k : Nat)) (fun _ i => n - (intOf i).toNat)
  case atStart => exact ⟨1, by omega, h1, rfl, by rw [H1.out]⟩
  case round =>
    obtain ⟨k, hk1, hk, rfl, rfl⟩ := hrel
    by_cases hlt : k < n
    · have hcell := HR.out k hlt
      have hfk := HF.out k
      have hmk := maxN_le (k := k) HF.out
      have HS := Lib.hid (show maxN f (k+1) = max (maxN f k) (f k) from rfl)
      generalize maxN f k = m at *
      generalize f k = x at *
      go_wp2
      go_round
      case rel => exact ⟨k + 1, by omega, by omega, by go_num, by rw [HS.out]; first | (congr 1; omega) | (trace_state; simp; omega)⟩
      case measure => simp [intOf]; omega
    · obtain rfl : n = k := by omega
      go_wp2
      go_ret
      exact ⟨rfl, rfl⟩

set_option maxRecDepth 20000 in
set_option maxHeartbeats 4000000 in
theorem strongest_any (q : Int) (A : Option Addr) (n cap : Nat) (ws : List Int) (w : World) (hm : n ≤ 9223372036854775807) (hk : Known w A n ws) :
    Calls Try.prog 47 #[.agg #[.int .i64 q, .slice A n cap]] w fun e w' => PairAt (strongL q ws n) (goodB q ws n) w w' e := by
  have HK := Lib.hid hk
  clear hk
  obtain ⟨i0, hi0, hz0, hz1, hz2⟩ := infoIntParts
  have hb0 := below1 w (.cells #[.int .i64 q, .slice A n cap] 28)
  by_cases hg : Vo.Good q ws n
  · have HGB := Lib.hid (goodB_true hg)
    have hn9 := hg.hi
    have hn1 := hg.lo
    have HFB := Lib.hid (fun k => pivotN_le (q := q) (ws := ws) hn9 k)
    obtain ⟨f, hf⟩ : ∃ f, f = pivotN q ws n := ⟨_, rfl⟩
    have HPL := Lib.hid (show pivotsL q ws n = perL f n from by rw [hf]; exact okL_yes HGB.out)
    have HV := Lib.hid (show strongL q ws n = eqL f (maxN f n) n from by rw [hf]; exact okL_yes HGB.out)
    rw [← hf] at HFB
    clear hg hf
    go_enter Try.func47, Try.ntmps47
    go_wp2_with fail
    refine (pivotCounts_any q _ n cap ws _ hm (HK.out.now hb0)).mono ?_
    rintro e w1 ⟨A2, cap2, rfl, hown, hb⟩
    rw [HPL.out, perL_len] at hown
    rw [HPL.out, perL_len, HGB.out]
    have g1 := bfrom hb0 hb
    obtain ⟨g, rfl, hgl, HR0⟩ := row_reads f hown hn1 (B := w1.heap.size) (fun k hk => owns_lt hown hk)
    have HR := Lib.hid HR0
    have hz1' : w.heap.size ≤ w1.heap.size := g1.size
    clear hown HR0 hb
    go_wp2_with (go_at_call 79; refine (max_any f g n cap2 _ hn1 (by omega) HFB.out hgl (HR.out _ (Below.refl _ _))).mono ?_; rintro e w2 ⟨rfl, rfl⟩)
    obtain ⟨M, hM⟩ : ∃ M, M = maxN f n := ⟨_, rfl⟩
    rw [← hM] at HV ⊢
    clear hM
    go_loopw [7, 8, 9, 21] (fun v _ _ i wr => ∃ (j : Nat) (B : Option Addr) (cp : Nat), j ≤ n ∧ i = .int .i64 j ∧ v = .slice B (eqL f M j).length cp ∧ wr.ownsRow w1.heap.size 3 1 (.slice B (eqL f M j).length cp) (eqL f M j).length ((eqL f M j).map (Value.int .i64)) ∧ Below w1.heap.size w1 wr) (fun _ _ _ i _ => n - (intOf i).toNat)
    case atStart => exact ⟨0, none, 0, Nat.zero_le _, rfl, rfl, World.ownsRow_nil _ _ _ _, Below.refl _ _⟩
    case round =>
      obtain ⟨j, B, cp, hj, rfl, rfl, hown, hbr⟩ := hrel
      have HO := Lib.hid hown
      have hszr := hbr.size
      have hlen := eqL_len f M j
      clear hown
      by_cases hlt : j < n
      · have hcell := HR.out wr hbr j hlt
        have HS := Lib.hid (show eqL f M (j+1) = eqL f M j ++ if f j = M then [(j : Int)] else [] from rfl)
        obtain ⟨L, hL⟩ : ∃ L, eqL f M j = L := ⟨_, rfl⟩
        rw [hL] at HO HS hlen ⊢
        clear hL
        obtain ⟨m, hm1⟩ : ∃ m, m = L.length := ⟨_, rfl⟩
        have HMm := Lib.hid hm1
        rw [← hm1] at HO hlen ⊢
        clear hm1
        by_cases he : f j = M
        · rw [if_pos he] at HS
          have hee : ((f j : Int) == (M : Int)) = true := by simp [he]
          clear he
          generalize f j = x at *
          go_wp2_with (at_builtin; refine wpList_append_lies _ rfl _ _ _ rfl w1.heap.size 3 i0 _ 1 8 Try.underlying22 hi0 hz0 hz1 hz2 rfl (by decide) (.slice B m cp) m (L.map (Value.int .i64)) rfl (HO.out.alloc _) ⟨wr.heap.size, 0, none⟩ 1 1 [.int .i64 j] rfl rfl (World.news_of_block (cs := #[.int .i64 j]) (t := 3) (fr := (0, 0)) (heap_alloc_new wr _)) (by simp [Value.oneCell']) (by omega) (by unfold maxLen; omega) (by omega) (by simp; omega) (wr.heap.size + 1) (by simp) ?_; intro gg cap4 w4 hown4 hgrow hat hlt4)
          have b4 : Below w1.heap.size w1 w4 := (hbr.alloc hszr (.cells #[.int .i64 j] 3)).grown hgrow (by simp; omega) fun i hi => owns_le HO.out hi
          go_roundw
          case rel => exact ⟨j + 1, some ⟨gg, 0, none⟩, cap4, by omega, by go_num, by rw [HS.out, HMm.out]; simp, by rw [HS.out]; simpa [HMm.out] using hown4, b4⟩
          case measure => simp [intOf]; omega
        · rw [if_neg he] at HS
          have hee : ((f j : Int) == (M : Int)) = false := by simp; omega
          clear he
          generalize f j = x at *
          go_wp2
          go_roundw
          case rel => exact ⟨j + 1, B, cp, by omega, by go_num, by rw [HS.out, HMm.out]; simp, by rw [HS.out]; simpa [HMm.out] using HO.out, hbr⟩
          case measure => simp [intOf]; omega
      · obtain rfl : n = j := by omega
        go_wp2
        go_ret2
        exact ⟨B, cp, by rw [HV.out, HGB.out]; rfl, by rw [HV.out]; exact owns_less HO.out hz1', bfrom g1 hbr⟩
  · have HGB := Lib.hid (goodB_false hg)
    have HPL := Lib.hid (show pivotsL q ws n = [] from okL_no HGB.out)
    clear hg
    go_enter Try.func47, Try.ntmps47
    go_wp2_with fail
    refine (pivotCounts_any q _ n cap ws _ hm (HK.out.now hb0)).mono ?_
    rintro e w1 ⟨A2, cap2, rfl, hown, hb⟩
    rw [HPL.out, HGB.out]
    clear hown
    go_wp2
    go_ret2
    rw [show strongL q ws n = [] from okL_no HGB.out, HGB.out]
    exact PairAt.none_ (bfrom hb0 hb)

set_option maxHeartbeats 400000 in
theorem l1Most_any (a b : Nat) (w : World) : Calls Try.prog 78 #[.int .i64 a, .int .i64 b] w fun e w' => e = .returned (.int .i64 (max a b : Nat)) ∧ w = w' := by
  by_cases h : b < a
  · have HE := Lib.hid (show max a b = a from by omega)
    go_enter Try.func78, Try.ntmps78
    go_wp2
    go_ret
    exact ⟨by rw [HE.out]; rfl, rfl⟩
  · have HE := Lib.hid (show max a b = b from by omega)
    go_enter Try.func78, Try.ntmps78
    go_wp2
    go_ret
    exact ⟨by rw [HE.out]; rfl, rfl⟩

set_option maxRecDepth 20000 in
set_option maxHeartbeats 4000000 in
theorem sStrongest_any (q : Int) (A : Option Addr) (n cap : Nat) (ws : List Int) (w : World) (hm : n ≤ 9223372036854775807) (hk : Known w A n ws) :
    Calls Try.prog 46 #[.agg #[.int .i64 q, .slice A n cap]] w fun e w' => PairAt (strongL q ws n) (goodB q ws n) w w' e := by
  have HK := Lib.hid hk
  clear hk
  obtain ⟨i0, hi0, hz0, hz1, hz2⟩ := infoIntParts
  have hx := Box.new w (.int .i64 q) (.slice A n cap)
  have hb0 := below1 w (.cells #[.int .i64 q, .slice A n cap] 28)
  by_cases hg : Vo.Good q ws n
  · obtain ⟨b, off, rfl, hsl⟩ := HK.out.get hg.lo
    have HSL := Lib.hid hsl
    have HOK := Lib.hid hg.ok
    have HGB := Lib.hid (goodB_true hg)
    have hn9 := hg.hi
    have hn1 := hg.lo
    have hn10 : n < 10 := by omega
    have HFB := Lib.hid (fun k => pivotN_le (q := q) (ws := ws) hn9 k)
    have HPP := Lib.hid (fun g cap2 (W : World) (h : WinsIn (winB q ws n) n g W) => pwPivots_any (winB q ws n) n g cap2 W hn10 h)
    rw [show (fun k => pivN (winB q ws n) n k (2^n)) = pivotN q ws n from rfl] at HPP
    obtain ⟨f, hf⟩ : ∃ f, f = pivotN q ws n := ⟨_, rfl⟩
    have HV := Lib.hid (show strongL q ws n = eqL f (maxN f n) n from by rw [hf]; exact okL_yes HGB.out)
    rw [← hf] at HFB HPP
    clear hg hsl hf
    go_enter Try.func46, Try.ntmps46
    go_wp2_with fail
    refine (voGood_any q _ n cap ws _ hm (HK.out.now hb0)).mono ?_
    rintro e w1 ⟨rfl, hb⟩
    rw [HGB.out]
    have hx1 := hx.now hb
    have g1 := bfrom hb0 hb
    have hs1 := Lib.hid (HSL.out.now g1)
    obtain ⟨hc0, hc1⟩ := hx1.cells
    go_wp2_with fail
    go_region_held3 (fun w' => w'.cell? ⟨w.heap.size, 0, none⟩ = some (.int .i64 q) ∧ w'.cell? ⟨w.heap.size, 1, none⟩ = some (.slice (some ⟨b, off, none⟩) n cap))
      (first | exact hd | exact hd2 | exact hx1.cells | go_keep)
      (first
        | (go_at_call 53; refine (voWins_any q b off n cap ws _ hn10 HOK.out hs1.out.drew).mono ?_; rintro e w2 ⟨g, cap2, rfl, hg, hown, hb2⟩; have HO := Lib.hid hown; clear hown; have hd := (hx1.drew.now hb2).cells)
        | (go_at_call 57; refine (HPP.out g cap2 _ HO.out).mono ?_; rintro e w3 ⟨A3, cap3, rfl, hown3, hb3⟩; rw [perL_len] at hown3; rw [perL_len]; have HO3 := Lib.hid hown3; clear hown3; have hd2 := ((hx1.drew.now hb2).now hb3).cells))
    all_goals
      have g3 := bfrom (bfrom g1.drew hb2) hb3
      have hz3 : w.heap.size ≤ w3.heap.size := g3.size
      obtain ⟨gA, hA, hgl, HR0⟩ := row_reads f HO3.out hn1 (B := w3.heap.size) (fun k hk => owns_lt HO3.out hk)
      subst hA
      have HR := Lib.hid HR0
      clear HR0 hd hd2 hb2 hb3 HO HO3
      go_wp2_with fail
      go_loopw [5, 7, 22] (fun m _ i wr => ∃ k : Nat, k ≤ n ∧ i = .int .i64 k ∧ m = .int .i64 (maxN f k : Nat) ∧ Below w3.heap.size w3 wr) (fun _ _ i _ => n - (intOf i).toNat)
      case atStart => exact ⟨0, Nat.zero_le _, rfl, rfl, Below.refl _ _⟩
      case round =>
        obtain ⟨k, hk, rfl, rfl, hbr⟩ := hrel
        by_cases hlt : k < n
        · have hcell := HR.out wr hbr k hlt
          have HS := Lib.hid (show maxN f (k+1) = max (maxN f k) (f k) from rfl)
          generalize maxN f k = m at *
          generalize f k = x at *
          go_wp2_with (go_at_call 78; refine (l1Most_any m x _).mono ?_; rintro e w4 ⟨rfl, rfl⟩)
          go_roundw
          case rel => exact ⟨k + 1, by omega, by go_num, by rw [HS.out], hbr⟩
          case measure => simp [intOf]; omega
        · obtain rfl : n = k := by omega
          have hz4 := hbr.size
          obtain ⟨M, hM⟩ : ∃ M, M = maxN f n := ⟨_, rfl⟩
          rw [← hM] at HV ⊢
          clear hM
          go_wp2_with fail
          go_loopw [8, 9, 10, 32] (fun v _ _ i wr => ∃ (j : Nat) (B : Option Addr) (cp : Nat), j ≤ n ∧ i = .int .i64 j ∧ v = .slice B (eqL f M j).length cp ∧ wr.ownsRow w3.heap.size 3 1 (.slice B (eqL f M j).length cp) (eqL f M j).length ((eqL f M j).map (Value.int .i64)) ∧ Below w3.heap.size w3 wr) (fun _ _ _ i _ => n - (intOf i).toNat)
          case atStart => exact ⟨0, none, 0, Nat.zero_le _, rfl, rfl, World.ownsRow_nil _ _ _ _, hbr⟩
          case round =>
            obtain ⟨j, B, cp, hj, rfl, rfl, hown, hbr2⟩ := hrel
            have HO := Lib.hid hown
            have hszr := hbr2.size
            have hlen := eqL_len f M j
            clear hown
            by_cases hlt : j < n
            · have hcell := HR.out wr hbr2 j hlt
              have HS := Lib.hid (show eqL f M (j+1) = eqL f M j ++ if f j = M then [(j : Int)] else [] from rfl)
              obtain ⟨L, hL⟩ : ∃ L, eqL f M j = L := ⟨_, rfl⟩
              rw [hL] at HO HS hlen ⊢
              clear hL
              obtain ⟨m, hm1⟩ : ∃ m, m = L.length := ⟨_, rfl⟩
              have HMm := Lib.hid hm1
              rw [← hm1] at HO hlen ⊢
              clear hm1
              by_cases he : f j = M
              · rw [if_pos he] at HS
                have hee : ((f j : Int) == (M : Int)) = true := by simp [he]
                clear he
                generalize f j = x at *
                go_wp2_with (at_builtin; refine wpList_append_lies _ rfl _ _ _ rfl w3.heap.size 3 i0 _ 1 8 Try.underlying22 hi0 hz0 hz1 hz2 rfl (by decide) (.slice B m cp) m (L.map (Value.int .i64)) rfl (HO.out.alloc _) ⟨wr.heap.size, 0, none⟩ 1 1 [.int .i64 j] rfl rfl (World.news_of_block (cs := #[.int .i64 j]) (t := 3) (fr := (0, 0)) (heap_alloc_new wr _)) (by simp [Value.oneCell']) (by omega) (by unfold maxLen; omega) (by omega) (by simp; omega) (wr.heap.size + 1) (by simp) ?_; intro gg cap4 w4 hown4 hgrow hat hlt4)
                have b4 : Below w3.heap.size w3 w4 := (hbr2.alloc hszr (.cells #[.int .i64 j] 3)).grown hgrow (by simp; omega) fun i hi => owns_le HO.out hi
                go_roundw
                case rel => exact ⟨j + 1, some ⟨gg, 0, none⟩, cap4, by omega, by go_num, by rw [HS.out, HMm.out]; simp, by rw [HS.out]; simpa [HMm.out] using hown4, b4⟩
                case measure => simp [intOf]; omega
              · rw [if_neg he] at HS
                have hee : ((f j : Int) == (M : Int)) = false := by simp; omega
                clear he
                generalize f j = x at *
                go_wp2
                go_roundw
                case rel => exact ⟨j + 1, B, cp, by omega, by go_num, by rw [HS.out, HMm.out]; simp, by rw [HS.out]; simpa [HMm.out] using HO.out, hbr2⟩
                case measure => simp [intOf]; omega
            · obtain rfl : n = j := by omega
              go_wp2
              go_ret2
              exact ⟨B, cp, by rw [HV.out, HGB.out]; rfl, by rw [HV.out]; exact owns_less HO.out hz3, bfrom g3 hbr2⟩
  · have HGB := Lib.hid (goodB_false hg)
    clear hg
    go_enter Try.func46, Try.ntmps46
    go_wp2_with fail
    refine (voGood_any q A n cap ws _ hm (HK.out.now hb0)).mono ?_
    rintro e w1 ⟨rfl, hb⟩
    rw [HGB.out]
    go_wp2
    go_ret2
    rw [show strongL q ws n = [] from okL_no HGB.out, HGB.out]
    exact PairAt.none_ (bfrom hb0 hb)
theorem strongest_ans (q : Int) (A : Option Addr) (n cap : Nat) (ws : List Int) (w : World) (hm : n ≤ 9223372036854775807) (hk : Known w A n ws) :
    Calls Try.prog 47 #[.agg #[.int .i64 q, .slice A n cap]] w fun e w' => Ans (RS (strongL q ws n)) (goodB q ws n) w w' e := (strongest_any q A n cap ws w hm hk).mono fun _ _ h => h.ans
theorem sStrongest_ans (q : Int) (A : Option Addr) (n cap : Nat) (ws : List Int) (w : World) (hm : n ≤ 9223372036854775807) (hk : Known w A n ws) :
    Calls Try.prog 46 #[.agg #[.int .i64 q, .slice A n cap]] w fun e w' => Ans (RS (strongL q ws n)) (goodB q ws n) w w' e := (sStrongest_any q A n cap ws w hm hk).mono fun _ _ h => h.ans
end Go.Proofs.Ytlnlkfldlgchhaa
