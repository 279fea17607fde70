/- Contracts of the model's powers by orders as shares, and of its PowerSigns. -/
import Derived.Test.YtlnlkfldlgchhaaZ9
import Derived.Test.YtlnlkfldlgchhaaZ3
import Derived.Test.YtlnlkfldlgchhaaN7
import Derived.Deep.AppendLies
import Derived.Outline
import Derived.Test.YtlnlkfldlgchhaaZ12
import Derived.Test.YtlnlkfldlgchhaaQ0
namespace Go.Proofs.Ytlnlkfldlgchhaa
open Go.RowKit Vo

theorem leads_lists (q : Int) (A : Option Addr) (n cap : Nat) (ws : List Int) (w : World) (hk : Known w A n ws) (hg : Vo.Good q ws n) :
    Lists (perZ (leadZ q ws n) n) 83 (.agg #[.int .i64 q, .slice A n cap]) w := by
  obtain ⟨b, off, rfl, hsl⟩ := hk.get hg.lo
  exact ⟨enters_of Try.func83 (by kernel_rfl) rfl, fun W hb => powerLeads_any q b off n cap ws W (by have := hg.hi; omega) hg.ok (hsl.now hb)⟩

set_option maxHeartbeats 1000000 in
theorem compare0_any (x : Int) (w : World) : Calls Try.prog 86 #[.int .i64 x, .int .i64 0] w fun e w' => e = .returned (.int .i64 (sgn x)) ∧ w = w' := by
  rcases Int.lt_trichotomy x 0 with h | h | h
  · have HV := Lib.hid (sgn_neg h)
    go_enter Try.func86, Try.ntmps86
    go_wp2
    go_ret
    exact ⟨by rw [HV.out]; rfl, rfl⟩
  · subst h
    go_enter Try.func86, Try.ntmps86
    go_wp2
    go_ret
    exact ⟨rfl, rfl⟩
  · have HV := Lib.hid (sgn_pos h)
    have hd : decide (x < 0) = false := by simp; omega
    go_enter Try.func86, Try.ntmps86
    go_wp2
    go_ret
    exact ⟨by rw [HV.out]; rfl, rfl⟩

set_option maxHeartbeats 1000000 in
theorem signs1_any (f : Nat → Int) (g n cap gl : Nat) (k : Nat) (w : World) (_hn : n < 10) (hk : k < n) (hr : Own w g 3 n (fun j => .int .i64 (f j))) (hb : Box1 22 w gl (.slice (some ⟨g, 0, none⟩) n cap)) :
    Calls Try.prog 85 #[.int .i64 k, .pointer (some ⟨gl, 0, none⟩)] w fun e w' => e = .returned (.int .i64 (sgn (f k))) ∧ Below w.heap.size w w' := by
  have hc := hb.cell
  have hgl := hb.lt
  have hcell := hr.cell hk
  have hg := hr.lt
  have hkI : (k : Int) < (n : Int) := by omega
  clear hr hb
  generalize f k = x at *
  go_enter Try.func85, Try.ntmps85
  go_wp2_with (go_at_call 86; refine (compare0_any x _).mono ?_; rintro e w1 ⟨rfl, rfl⟩)
  go_ret
  exact ⟨rfl, Below.refl _ _⟩
theorem signs_nums (f : Nat → Int) (g n cap gl : Nat) (w : World) (hn : n < 10) (hr : Own w g 3 n (fun j => .int .i64 (f j))) (hb : Box1 22 w gl (.slice (some ⟨g, 0, none⟩) n cap)) :
    NumsZ (fun k => sgn (f k)) 85 #[] #[.pointer (some ⟨gl, 0, none⟩)] n w :=
  ⟨enters_of Try.func85 (by kernel_rfl) rfl, fun W k hk hW => signs1_any f g n cap gl k W hn hk (hr.now' hW) (hb.now hW)⟩

def signsL (q : Int) (ws : List Int) (n : Nat) : List Int := okL (goodB q ws n) (perZ (fun k => sgn (leadZ q ws n k)) n)
theorem signsL_len (q : Int) (ws : List Int) (n : Nat) : (signsL q ws n).length ≤ 1048576 := by
  by_cases hg : Vo.Good q ws n
  · exact okL_len (by rw [perZ_len]; have := hg.hi; omega)
  · unfold signsL; rw [okL_no (goodB_false hg)]; simp

set_option maxHeartbeats 2000000 in
theorem powerSigns_any (q : Int) (A : Option Addr) (n cap : Nat) (ws : List Int) (w : World) (hm : n ≤ 9223372036854775807) (hk : Known w A n ws) :
    Calls Try.prog 49 #[.agg #[.int .i64 q, .slice A n cap]] w fun e w' => PairAt (signsL q ws n) (goodB q ws n) w w' e := by
  have HK := Lib.hid hk
  clear hk
  have hb0 := below1 w (.cells #[.int .i64 q, .slice A n cap] 28)
  have hx := Box.new w (.int .i64 q) (.slice A n cap)
  by_cases hg : Vo.Good q ws n
  · have HG := Lib.hid hg
    have HGB := Lib.hid (goodB_true hg)
    have hn9 := hg.hi
    have hn1 := hg.lo
    have HV := Lib.hid (show signsL q ws n = perZ (fun k => sgn (leadZ q ws n k)) n from okL_yes HGB.out)
    have HLE := Lib.hid (perZ_len (fun k => sgn (leadZ q ws n k)) n)
    have HVL := Lib.hid (okL_yes (L := perZ (leadZ q ws n) n) HGB.out)
    have HPL := Lib.hid (perZ_len (leadZ q ws n) n)
    clear hg
    go_enter Try.func49, Try.ntmps49
    go_wp2_with fail
    refine (numbersOf_any (perZ (leadZ q ws n) n) _ q A n cap ws _ hm (HK.out.now hb0) (fun hg => leads_lists q A n cap ws _ (HK.out.now hb0) hg)).mono ?_
    rintro e w1 ⟨A1, cap1, rfl, hown, hb1⟩
    rw [HVL.out, HPL.out] at hown ⊢
    rw [HGB.out]
    obtain ⟨g, cp', hv, hgl, _, _⟩ := owns_head hown (by omega)
    obtain ⟨rfl, rfl⟩ : A1 = some ⟨g, 0, none⟩ ∧ cap1 = cp' := by simpa using hv
    have hO : Own w1 g 3 n (fun j => .int .i64 (leadZ q ws n j)) := Own.of_own hown fun i hi => by simp [perZ, hi]
    have g1 := bfrom hb0 hb1
    have b2 := below1 w1 (.cells #[.slice (some ⟨g, 0, none⟩) n cap1] 22)
    have hx2 := (hx.now hb1).now b2
    have hl2 := Box1.new 22 w1 (.slice (some ⟨g, 0, none⟩) n cap1)
    have HO2 := Lib.hid (hO.now' b2)
    obtain ⟨c0, c1⟩ := hx2.cells
    have g2 := bfrom g1 b2
    clear hown hv hO
    go_wp2_with fail
    refine (forEachMemberZ_any (fun k => sgn (leadZ q ws n k)) _ _ _ q _ n cap _ (by omega) (signs_nums (leadZ q ws n) g n cap1 w1.heap.size _ (by omega) HO2.out hl2)).mono ?_
    rintro e w3 ⟨A3, cap3, rfl, hown3, hb3⟩
    have HO3 := Lib.hid hown3
    clear hown3
    go_wp2
    go_ret2
    rw [HV.out, HGB.out]
    exact ⟨A3, cap3, rfl, owns_less HO3.out g2.size, bfrom g2 hb3⟩
  · have HGB := Lib.hid (goodB_false hg)
    go_enter Try.func49, Try.ntmps49
    go_wp2_with fail
    refine (numbersOf_any (perZ (leadZ q ws n) n) _ q A n cap ws _ hm (HK.out.now hb0) (fun h => absurd h hg)).mono ?_
    rintro e w1 ⟨A1, cap1, rfl, hown, hb1⟩
    rw [okL_no HGB.out, HGB.out]
    clear hown
    go_wp2
    go_ret2
    rw [show signsL q ws n = [] from okL_no HGB.out, HGB.out]
    exact PairAt.none_ ((bfrom hb0 hb1).alloc (bfrom hb0 hb1).size _)
theorem powerSigns_ans (q : Int) (A : Option Addr) (n cap : Nat) (ws : List Int) (w : World) (hm : n ≤ 9223372036854775807) (hk : Known w A n ws) :
    Calls Try.prog 49 #[.agg #[.int .i64 q, .slice A n cap]] w fun e w' => Ans (RS (signsL q ws n)) (goodB q ws n) w w' e := (powerSigns_any q A n cap ws w hm hk).mono fun _ _ h => h.ans
end Go.Proofs.Ytlnlkfldlgchhaa

namespace Go.Proofs.Ytlnlkfldlgchhaa
open Go.RowKit Vo

set_option maxRecDepth 20000 in
set_option maxHeartbeats 4000000 in
theorem shPowers_any (q : Int) (b off n cap : Nat) (ws : List Int) (w : World) (h1 : 1 ≤ n) (hn : n < 10) (hok : InK 0 1000 ws n) (hsl : Sl w b off n ws) :
    Calls Try.prog 81 #[.agg #[.int .i64 q, .slice (some ⟨b, off, none⟩) n cap]] w fun e w' =>
      ∃ A cp, e = .returned (.slice A n cp) ∧ w'.ownsRow w.heap.size 38 2 (.slice A n cp) n (shV (shL (pivotN q ws n) (fact n) n)) ∧ Below w.heap.size w w' := by
  obtain ⟨i0, hi0, hz0, hz1, hz2⟩ := info_parts infoShare
  have hb0 := below1 w (.cells #[.int .i64 q, .slice (some ⟨b, off, none⟩) n cap] 28)
  have HSL := Lib.hid (hsl.now hb0)
  have HOK := Lib.hid hok
  have hx := Box.new w (.int .i64 q) (.slice (some ⟨b, off, none⟩) n cap)
  have hD0 := fact_pos n
  have hD1 := fact_le (n := n) (by omega)
  have HPT := Lib.hid (fun W => pwTimes_any n W (by omega))
  have hfb : ∀ j, pivotN q ws n j ≤ 131681894400 * 512 := fun j => pivN_le (by omega) (pow_lt (by omega))
  have HPV := Lib.hid (show ∀ (g cap2 : Nat) (W : World), WinsIn (winB q ws n) n g W → Calls Try.prog 57 #[.slice (some ⟨g, 0, none⟩) (2^n : Nat) cap2, .int .i64 n] W fun e w' => IntsAt (perL (pivotN q ws n) n) W w' e from fun g cap2 W h => pwPivots_any (winB q ws n) n g cap2 W hn h)
  obtain ⟨f, hf⟩ : ∃ f, f = pivotN q ws n := ⟨_, rfl⟩
  rw [← hf] at hfb HPV ⊢
  have HFF := Lib.hid hfb
  obtain ⟨D, hD⟩ : ∃ D, D = fact n := ⟨_, rfl⟩
  rw [← hD] at hD0 hD1 HPT ⊢
  clear hok hsl hf hfb hD
  go_enter Try.func81, Try.ntmps81
  obtain ⟨c0, c1⟩ := hx.cells
  go_wp2_with (first
    | (go_at_call 53; refine (voWins_any q b off n cap ws _ hn HOK.out HSL.out).mono ?_; rintro e w2 ⟨g, cap2, rfl, hg, hown, hb2⟩; have HO := Lib.hid hown; clear hown)
    | (go_at_call 57; refine (HPV.out g cap2 _ HO.out).mono ?_; rintro e w3 ⟨A3, cap3, rfl, hown3, hb3⟩; rw [perL_len] at hown3 ⊢))
  obtain ⟨gA, cp', hv, hgA, _, _⟩ := owns_head hown3 (by omega)
  obtain ⟨rfl, rfl⟩ : A3 = some ⟨gA, 0, none⟩ ∧ cap3 = cp' := by simpa using hv
  have hO3 : Own w3 gA 3 n (fun j => .int .i64 (f j : Nat)) := Own.of_own hown3 fun i hi => by simp [perL, hi]
  have HRD := Lib.hid (show ∀ W, Below w3.heap.size w3 W → ∀ j, j < n → W.cell? ⟨gA, j, none⟩ = some (.int .i64 (f j : Nat)) from fun W h j hj => (Own.below hO3 h hO3.lt).cell hj)
  have g3 := bfrom hb0 (bfrom hb2 hb3)
  have hz3 := g3.size
  clear hown3 hv hO3
  go_loopw [4, 6, 15] (fun v _ i wr => ∃ (j : Nat) (B : Option Addr) (cp : Nat), j ≤ n ∧ i = .int .i64 j ∧ v = .slice B j cp ∧ wr.ownsRow w3.heap.size 38 2 (.slice B j cp) j (shV (shL f D j)) ∧ Below w3.heap.size w3 wr) (fun _ _ i _ => n - (intOf i).toNat)
  case atStart => exact ⟨0, none, 0, Nat.zero_le _, rfl, rfl, World.ownsRow_nil _ _ _ _, Below.refl _ _⟩
  case round =>
    obtain ⟨j, B, cp, hj, rfl, rfl, hown, hbr⟩ := hrel
    have HO2 := Lib.hid hown
    have hszr := hbr.size
    clear hown
    by_cases hlt : j < n
    · have hcell := HRD.out wr hbr j hlt
      have HS := Lib.hid (shL_succ f D j)
      have hfj := HFF.out j
      have HLT := Lib.hid (fun W => pwShare_any (f j) D W hD0 (by omega) (by omega))
      have HSH := Lib.hid (show share1 (f j) D = (((f j / Nat.gcd (f j) D : Nat) : Int), ((D / Nat.gcd (f j) D : Nat) : Int)) from rfl)
      generalize f j / Nat.gcd (f j) D = a at *
      generalize D / Nat.gcd (f j) D = bb at *
      go_wp2_with (first
        | (go_at_call 74; refine (HPT.out _).mono ?_; rintro e w4 ⟨rfl, rfl⟩)
        | (go_at_call 64; refine (HLT.out _).mono ?_; rintro e w5 ⟨rfl, hb5⟩; have HO5 := Lib.hid (owns_now HO2.out hb5); have b5 := hbr.trans (hb5.mono (by omega)); have hsz5 := b5.size)
        | (at_builtin; refine wpList_append_lies _ rfl _ _ _ rfl w3.heap.size 38 i0 _ 2 16 Try.underlying42 hi0 hz0 hz1 hz2 rfl (by decide) (.slice B j cp) j (shV (shL f D j)) rfl (HO5.out.alloc _) ⟨w5.heap.size, 0, none⟩ 1 1 [.int .i64 a, .int .i64 bb] rfl rfl (World.news_of_block (cs := #[.int .i64 a, .int .i64 bb]) (t := 38) (fr := (0, 0)) (heap_alloc_new w5 _)) (by simp [Value.oneCell']) (by omega) (by unfold maxLen; omega) (by omega) (by simp; omega) (w5.heap.size + 1) (by simp) ?_; intro gg cap4 w6 hown6 hgrow6 hat hlt6))
      have b6 : Below w3.heap.size w3 w6 := (b5.alloc (by omega) (.cells #[.int .i64 a, .int .i64 bb] 38)).grown hgrow6 (by simp; omega) fun i hi => owns_le HO5.out hi
      go_roundw
      case rel => exact ⟨j + 1, some ⟨gg, 0, none⟩, cap4, by omega, by go_num, by simp, by rw [HS.out, shV_append, HSH.out]; simpa [shV] using hown6, b6⟩
      case measure => simp [intOf]; omega
    · obtain rfl : n = j := by omega
      go_wp2
      go_ret
      exact ⟨B, cp, rfl, owns_less HO2.out hz3, bfrom g3 hbr⟩

/-- The cells of a row of the call's own that holds shares, at all later worlds. -/
theorem shRow_reads {L : List (Int × Int)} {w : World} {base : Nat} {A : Option Addr} {n cap : Nat} (hL : L.length = n) (h : w.ownsRow base 38 2 (.slice A n cap) n (shV L)) (hn : 1 ≤ n) :
    ∃ g, A = some ⟨g, 0, none⟩ ∧ base ≤ g ∧ g < w.heap.size ∧ ∀ W, Below w.heap.size w W → ∀ j, j < n → (W.cell? ⟨g, j * 2, none⟩ = some (.int .i64 (L.getD j (0, 0)).1) ∧ W.cell? ⟨g, j * 2 + 1, none⟩ = some (.int .i64 (L.getD j (0, 0)).2)) := by
  subst hL
  obtain ⟨A', cap', hv, h2⟩ := RSh.of_own h
  injection hv with hA _ _
  subst hA
  rcases h2 with h2 | ⟨g, hA, hg, hgl, ho⟩
  · omega
  · refine ⟨g, hA, hg, hgl, fun W hW j hj => ?_⟩
    have e1 := (ho.below hW hgl).cell (i := j * 2) (by omega)
    have e2 := (ho.below hW hgl).cell (i := j * 2 + 1) (by omega)
    rw [shF_num] at e1
    rw [shF_den] at e2
    exact ⟨e1, e2⟩
theorem shL_get {f : Nat → Nat} {D n j : Nat} (h : j < n) : (shL f D n).getD j (0, 0) = share1 (f j) D := by
  simp [shL, List.getD_eq_getElem?_getD, h]

theorem cell_same {w w' : World} {g : Nat} (h : w'.heap[g]? = w.heap[g]?) (o : Nat) : w'.cell? ⟨g, o, none⟩ = w.cell? ⟨g, o, none⟩ := by simp [World.cell?, h]

set_option maxRecDepth 20000 in
set_option maxHeartbeats 8000000 in
theorem sPowerSigns_ans (q : Int) (A : Option Addr) (n cap : Nat) (ws : List Int) (w : World) (hm : n ≤ 9223372036854775807) (hk : Known w A n ws) :
    Calls Try.prog 48 #[.agg #[.int .i64 q, .slice A n cap]] w fun e w' => Ans (RS (signsL q ws n)) (goodB q ws n) w w' e := by
  have HK := Lib.hid hk
  clear hk
  obtain ⟨i0, hi0, hz0, hz1, hz2⟩ := infoIntParts
  have hx := Box.new w (.int .i64 q) (.slice A n cap)
  have hb0 := below1 w (.cells #[.int .i64 q, .slice A n cap] 28)
  by_cases hg : Vo.Good q ws n
  · obtain ⟨b, off, rfl, hsl⟩ := HK.out.get hg.lo
    have HSL := Lib.hid hsl
    have HOK := Lib.hid hg.ok
    have HGB := Lib.hid (goodB_true hg)
    have hn9 := hg.hi
    have hn1 := hg.lo
    have hn10 : n < 10 := by omega
    have hpos : 0 < sumN (wtF ws n) n := by
      have h1 : ((sumN (wtF ws n) n : Nat) : Int) = sumK ws n := sumN_wt hg.ok (Nat.le_refl n)
      have h2 := hg.q1; have h3 := hg.q2; omega
    have hT : ((sumN (wtF ws n) n : Nat) : Int) = sumK ws n := sumN_wt hg.ok (Nat.le_refl n)
    have hTb : sumN (wtF ws n) n ≤ 9000 := by have := hg.tot; omega
    have HV := Lib.hid (show signsL q ws n = perZ (fun k => sgn (leadZ q ws n k)) n from okL_yes HGB.out)
    have HPOS := Lib.hid hpos
    have HSG := Lib.hid (show ∀ j, j < n → ∃ a b c d : Nat, (shL (pivotN q ws n) (fact n) n).getD j (0, 0) = ((a : Int), (b : Int)) ∧ (shL (wtF ws n) (sumN (wtF ws n) n) n).getD j (0, 0) = ((c : Int), (d : Int)) ∧ sgn ((a : Int) * d - c * b) = sgn (leadZ q ws n j) ∧ a ≤ 131681894400 * 512 ∧ b ≤ 362880 ∧ c ≤ 1000 ∧ d ≤ 9000 from fun j hj => by
      obtain ⟨a, b, g, e1, hg1, ex, ed, hb, _⟩ := share1_parts (x := pivotN q ws n j) (fact_pos n)
      obtain ⟨c, d, g2, e2, hg2, ex2, ed2, hd, _⟩ := share1_parts (x := wtF ws n j) hpos
      refine ⟨a, b, c, d, by rw [shL_get hj, e1], by rw [shL_get hj, e2], ?_, ?_, ?_, ?_, ?_⟩
      · rw [sgn_shares (fact_pos n) hpos e1 e2]
        unfold leadZ
        have hw := hg.ok j hj
        rw [hT]
        congr 2
        simp only [wtF, hj, if_true]
        unfold wtN
        congr 1
        omega
      · have h1 := pivN_le (p := winB q ws n) (k := j) hn9 (pow_lt hn9)
        have h2 : a ≤ pivotN q ws n j := by rw [ex]; exact Nat.le_mul_of_pos_left a hg1
        unfold pivotN at h2; omega
      · have h1 := fact_le hn9
        have h2 : b ≤ fact n := by
          have : b ≤ g * b := Nat.le_mul_of_pos_left b hg1
          omega
        omega
      · have h1 : wtF ws n j ≤ 1000 := wtN_le hg.ok j
        have h2 : c ≤ g2 * c := Nat.le_mul_of_pos_left c hg2
        omega
      · have h2 : d ≤ g2 * d := Nat.le_mul_of_pos_left d hg2
        omega)
    have HLP := Lib.hid (shL_len (pivotN q ws n) (fact n) n)
    have HLW := Lib.hid (shL_len (wtF ws n) (sumN (wtF ws n) n) n)
    have HLE := Lib.hid (perZ_len (fun k => sgn (leadZ q ws n k)) n)
    clear hg hsl hpos hT hTb
    go_enter Try.func48, Try.ntmps48
    go_wp2_with fail
    refine (voGood_any q _ n cap ws _ hm (HK.out.now hb0)).mono ?_
    rintro e w1 ⟨rfl, hb⟩
    rw [HGB.out]
    have g1 := bfrom hb0 hb
    have hx1 := hx.now hb
    have hs1 := Lib.hid (HSL.out.now g1)
    obtain ⟨hc0, hc1⟩ := hx1.cells
    go_wp2_with (first
      | (go_at_call 80; refine (shWeights_any q b off n cap ws _ hn10 HOK.out HPOS.out hs1.out).mono ?_; rintro e w2 ⟨A2, cp2, rfl, hown2, hb2⟩; obtain ⟨d0, d1⟩ := (hx1.now hb2).cells; have hs2 := Lib.hid (hs1.out.now hb2))
      | (go_at_call 81; refine (shPowers_any q b off n cap ws _ hn1 hn10 HOK.out hs2.out).mono ?_; rintro e w3 ⟨A3, cp3, rfl, hown3, hb3⟩))
    obtain ⟨gW, rfl, _, hgW, hrW⟩ := shRow_reads HLW.out hown2 hn1
    obtain ⟨gP, rfl, _, hgP, hrP⟩ := shRow_reads HLP.out hown3 hn1
    have HRD := Lib.hid (show ∀ W, Below w3.heap.size w3 W → ∀ j, j < n → ∃ a b c d : Nat, (W.cell? ⟨gP, j * 2, none⟩ = some (.int .i64 a) ∧ W.cell? ⟨gP, j * 2 + 1, none⟩ = some (.int .i64 b) ∧ W.cell? ⟨gW, j * 2, none⟩ = some (.int .i64 c) ∧ W.cell? ⟨gW, j * 2 + 1, none⟩ = some (.int .i64 d)) ∧ sgn ((a : Int) * d - c * b) = sgn (leadZ q ws n j) ∧ a ≤ 131681894400 * 512 ∧ b ≤ 362880 ∧ c ≤ 1000 ∧ d ≤ 9000 from fun W hW j hj => by
      obtain ⟨a, b, c, d, e1, e2, r⟩ := HSG.out j hj
      have p := hrP W hW j hj
      have p2 := hrW W (bfrom hb3 hW) j hj
      rw [e1] at p; rw [e2] at p2
      exact ⟨a, b, c, d, ⟨p.1, p.2, p2.1, p2.2⟩, r⟩)
    have g3 := bfrom (bfrom g1 hb2) hb3
    have hgW3 : gW < w3.heap.size := Nat.lt_of_lt_of_le hgW hb3.size
    obtain ⟨F, hF⟩ : ∃ F : Nat → Int, F = fun k => sgn (leadZ q ws n k) := ⟨_, rfl⟩
    have HF := Lib.hid (show ∀ j, sgn (leadZ q ws n j) = F j from fun j => by rw [hF])
    rw [← hF] at HV HLE
    clear hown2 hown3 hrW hrP hc0 hc1 d0 d1 hF
    go_loopw [5, 16] (fun v i wr => ∃ (j : Nat) (B : Option Addr) (cp : Nat), j ≤ n ∧ i = .int .i64 j ∧ v = .slice B j cp ∧ wr.ownsRow w3.heap.size 3 1 (.slice B j cp) j ((perZ F j).map (Value.int .i64)) ∧ Below w3.heap.size w3 wr) (fun _ i _ => n - (intOf i).toNat)
    case atStart => exact ⟨0, none, 0, Nat.zero_le _, rfl, rfl, World.ownsRow_nil _ _ _ _, Below.refl _ _⟩
    case round =>
      obtain ⟨j, B, cp, hj, rfl, rfl, hown, hbr⟩ := hrel
      have HO := Lib.hid hown
      have hszr := hbr.size
      clear hown
      by_cases hlt : j < n
      · obtain ⟨a, bb, c, d, ⟨q0, q1, q2, q3⟩, hsg, ba, bbb, bc, bd⟩ := HRD.out wr hbr j hlt
        have HSGN := Lib.hid (hsg.trans (HF.out j))
        have hltI : (j : Int) < (n : Int) := by omega
        have hgPr : gP < wr.heap.size := by omega
        have hgWr : gW < wr.heap.size := by omega
        have m1 : 0 ≤ (a : Int) * (d : Int) ∧ (a : Int) * (d : Int) ≤ 4000000000000000000 := by
          have := Int.mul_le_mul (show (a : Int) ≤ 131681894400 * 512 by omega) (show (d : Int) ≤ 9000 by omega) (by omega) (by omega)
          exact ⟨Int.mul_nonneg (by omega) (by omega), by omega⟩
        have m2 : 0 ≤ (c : Int) * (bb : Int) ∧ (c : Int) * (bb : Int) ≤ 4000000000000000000 := by
          have := Int.mul_le_mul (show (c : Int) ≤ 1000 by omega) (show (bb : Int) ≤ 362880 by omega) (by omega) (by omega)
          exact ⟨Int.mul_nonneg (by omega) (by omega), by omega⟩
        have HCMP := Lib.hid (fun W => pwCompareB_any a bb c d W m1 m2)
        have HCV := Lib.hid (show cmpV a bb c d = F j from HSGN.out)
        have HS := Lib.hid (perZ_succ F j)
        have hne1 : some wr.heap.size ≠ (Value.slice B j cp).ownBlock := by intro e; have := owns_lt HO.out e.symm; omega
        have hne2 := owns_ne HO.out hgW3
        have bw := below1 wr (.cells #[.int .i64 a, .int .i64 bb] 38)
        have hxs := BoxT.new 38 wr (.int .i64 a) (.int .i64 bb)
        have HO1 := Lib.hid (owns_now HO.out bw)
        have b1 : Below w3.heap.size w3 (wr.alloc (.cells #[.int .i64 a, .int .i64 bb] 38)) := hbr.alloc hszr _
        have K := Lib.hid (show ∀ W, BoxT 38 W wr.heap.size (.int .i64 a) (.int .i64 bb) → W.heap[gW]? = wr.heap[gW]? → (W.cell? ⟨wr.heap.size, 0, none⟩ = some (.int .i64 a) ∧ W.cell? ⟨wr.heap.size, 1, none⟩ = some (.int .i64 bb) ∧ W.cell? ⟨gW, j * 2, none⟩ = some (.int .i64 c) ∧ W.cell? ⟨gW, j * 2 + 1, none⟩ = some (.int .i64 d)) from fun W h1 h2 =>
          ⟨h1.cells.1, h1.cells.2, (cell_same h2 _).trans q2, (cell_same h2 _).trans q3⟩)
        clear hsg m1 m2
        go_wp2_with fail
        have k0 := K.out _ hxs (bw.block gW hgWr)
        go_region_held3 (fun w' => w'.cell? ⟨wr.heap.size, 0, none⟩ = some (.int .i64 a) ∧ w'.cell? ⟨wr.heap.size, 1, none⟩ = some (.int .i64 bb) ∧ w'.cell? ⟨gW, j * 2, none⟩ = some (.int .i64 c) ∧ w'.cell? ⟨gW, j * 2 + 1, none⟩ = some (.int .i64 d))
          (first | exact k0 | exact k6 | exact k5 | exact K.out _ (hx5.alloc _) ((Below.heap_alloc _ _ _ (by have := hx5.lt; omega)).trans hw5) | go_keep)
          (first
            | (go_at_call 82; refine (HCMP.out _).mono ?_; rintro e w5 ⟨rfl, hb5⟩; rw [HCV.out]; have hx5 := hxs.drew.now hb5; have hw5 := (bfrom bw.drew hb5).block gW hgWr; have k5 := K.out _ hx5 hw5; have HO5 := Lib.hid (owns_now (World.ownsRow.drew HO1.out) hb5); have b5 := bfrom3 b1.drew hb5; have hsz5 := b5.size)
            | (refine step_append_lies _ (by rfl) _ _ _ (by rfl) w3.heap.size 3 i0 _ 1 8 Try.underlying22 hi0 hz0 hz1 hz2 rfl (by omega) (.slice B j cp) j ((perZ F j).map (Value.int .i64)) (by rfl) (HO5.out.alloc _) ⟨w5.heap.size, 0, none⟩ 1 1 [.int .i64 (F j)] (by rfl) (by rfl) (World.news_of_block (cs := #[.int .i64 (F j)]) (t := 3) (fr := (0, 0)) (heap_alloc_new w5 _)) (by simp [Value.oneCell']) (by omega) (by unfold maxLen; omega) (by omega) (by simp; omega) (w5.heap.size + 1) (by simp) ?_; intro gg cap4 w6 hown6 hgrow6 hat6 hlt6; have k6 := K.out _ ((hx5.alloc _).grown hgrow6 hne1) ((hgrow6.block gW (by have := hx5.lt; simp; omega) hne2).trans ((Below.heap_alloc _ _ _ (by have := hx5.lt; omega)).trans hw5))))
        all_goals
          have b6 : Below w3.heap.size w3 w6 := (b5.alloc hsz5 (.cells #[.int .i64 (F j)] 3)).grown hgrow6 (by simp; omega) fun i hi => owns_le HO5.out hi
          go_wp2
          go_roundw
          case rel => exact ⟨j + 1, some ⟨gg, 0, none⟩, cap4, by omega, by go_num, by simp, by rw [HS.out]; simpa using hown6, b6⟩
          case measure => simp [intOf]; omega
      · obtain rfl : n = j := by omega
        have hw3 := g3.size
        go_wp2
        go_ret2
        rw [HV.out, HGB.out]
        exact (show PairAt _ _ w _ _ from ⟨B, cp, by rw [HLE.out]; rfl, by rw [HLE.out]; exact owns_less HO.out (by omega), bfrom g3 hbr⟩).ans
  · have HGB := Lib.hid (goodB_false hg)
    clear hg
    go_enter Try.func48, Try.ntmps48
    go_wp2_with fail
    refine (voGood_any q A n cap ws _ hm (HK.out.now hb0)).mono ?_
    rintro e w1 ⟨rfl, hb⟩
    rw [HGB.out]
    go_wp2
    go_ret2
    rw [show signsL q ws n = [] from okL_no HGB.out, HGB.out]
    exact (PairAt.none_ (bfrom hb0 hb)).ans
end Go.Proofs.Ytlnlkfldlgchhaa
