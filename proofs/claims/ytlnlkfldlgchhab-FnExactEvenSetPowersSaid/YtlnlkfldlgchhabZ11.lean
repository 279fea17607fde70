/- Contract of the model's EvenSetPowers. -/
import Derived.Test.YtlnlkfldlgchhabZ9
import Derived.Outline
namespace Go.Proofs.Ytlnlkfldlgchhab
open Go.RowKit Vo

set_option maxRecDepth 20000 in
set_option maxHeartbeats 8000000 in
theorem sEvenSetPowers_ans (q : Int) (A : Option Addr) (n cap : Nat) (ws : List Int) (w : World) (hm : n ≤ 9223372036854775807) (hk : Known w A n ws) :
    Calls Try.prog 24 #[.agg #[.int .i64 q, .slice A n cap]] w fun e w' => Ans (RSh (evenSetPowersL q ws n)) (goodB q ws n) w w' e := by
  have HK := Lib.hid hk
  clear hk
  obtain ⟨i0, hi0, hz0, hz1, hz2⟩ := info_parts infoShare
  have hx := Box.new w (.int .i64 q) (.slice A n cap)
  have hb0 := below1 w (.cells #[.int .i64 q, .slice A n cap] 29)
  by_cases hg : Vo.Good q ws n
  · obtain ⟨b, off, rfl, hsl⟩ := HK.out.get hg.lo
    have HSL := Lib.hid hsl
    have HOK := Lib.hid hg.ok
    have HGB := Lib.hid (goodB_true hg)
    have hn9 := hg.hi
    have hn1 := hg.lo
    have hn10 : n < 10 := by omega
    have hmk := run_make_row' (P := Try.prog) 22 3 (.int .i64 0) 8 Try.underlying22 infoInt rfl .i64 .i64 n (by omega) (by omega)
    have hSL := lwL_len (q := q) (ws := ws) hn9
    have hS0 := lwL_ne hg
    have HV := Lib.hid (show evenSetPowersL q ws n = shL (gainL partOf (lwL q ws n)) (2520 * (lwL q ws n).length) n from by rw [← parts_all hg]; exact okSh_yes HGB.out)
    have HLW := Lib.hid (show (inOrder n).filter (leastP (winB q ws n) n) = lwL q ws n from rfl)
    have HST := Lib.hid (fun j (h : j < (lwL q ws n).length) i => gainL_succ partOf (lwL q ws n) i j h)
    have HIN := Lib.hid (show ∀ j, j < (lwL q ws n).length → (lwL q ws n).getD j 0 < 2^n ∧ 1 ≤ sz ((lwL q ws n).getD j 0) from fun j hj => by
      have h1 := (lwL_mem (lwL_at hj)).1
      exact ⟨h1, sz_pos hn9 h1 (lwL_pos hg.q1 (lwL_at hj))⟩)
    obtain ⟨S, hS⟩ : ∃ S, S = lwL q ws n := ⟨_, rfl⟩
    rw [← hS] at hSL hS0 HV HLW HST HIN
    have HBN := Lib.hid (show ∀ j, j < S.length → ∀ z, (S.getD j 0).testBit z = true → z < n from fun j hj z hz => by
      rcases Nat.lt_or_ge z n with h | h
      · exact h
      · rw [Nat.testBit_lt_two_pow (Nat.lt_of_lt_of_le (HIN.out j hj).1 (Nat.pow_le_pow_right (by omega) h))] at hz; cases hz)
    have HLE := Lib.hid (show ∀ j i, gainL partOf (S.take j) i ≤ 2520 * 512 from fun j i => Nat.le_trans (gainL_take_le partOf_le S i j) (Nat.mul_le_mul_left _ hSL))
    have HTS := Lib.hid (List.take_length (l := S))
    clear hg hsl hS
    go_enter Try.func24, Try.ntmps24
    go_wp2_with fail
    refine (voGood_any q _ n cap ws _ hm (HK.out.now hb0)).mono ?_
    rintro e w1 ⟨rfl, hb⟩
    rw [HGB.out]
    have g1 := bfrom hb0 hb
    have hx1 := hx.now hb
    have hs1 := Lib.hid (HSL.out.now g1)
    obtain ⟨hc0, hc1⟩ := hx1.cells
    go_wp2_with (first
      | (go_at_call 59; refine (voWins_any q b off n cap ws _ hn10 HOK.out hs1.out).mono ?_; rintro e w2 ⟨g, cap2, rfl, hg, hown, hb2⟩; have HO := Lib.hid hown; clear hown)
      | (go_at_call 58; refine (voLeast_any (winB q ws n) n g cap2 _ hn10 HO.out).mono ?_; rintro e w3 ⟨v3, rfl, hr3, hb3⟩; rw [HLW.out] at hr3; obtain ⟨A4, cap4, rfl, hr⟩ := hr3; rw [setsL_len] at hr ⊢; have HR := Lib.hid hr; clear hr; obtain ⟨d0, d1⟩ := ((hx1.now hb2).now hb3).cells))
    have g3 := bfrom (bfrom g1 hb2) hb3
    have b4 := below1 w3 (.cells (madeCells #[.int .i64 0] n) 3)
    have HU := Lib.hid (show Own (w3.alloc (.cells (madeCells #[.int .i64 0] n) 3)) w3.heap.size 3 n (fun _ => .int .i64 0) from (Own.of_row (World.rowIs_made w3 (.int .i64 0) n 3)))
    obtain ⟨m, hmS⟩ : ∃ m, m = S.length := ⟨_, rfl⟩
    have HMS := Lib.hid hmS
    rw [← hmS] at HR hSL hS0 HST HTS HIN HBN HV ⊢
    clear hmS hmk hc0 hc1 d0 d1
    have HOLD := Lib.hid (show ∀ k, w2.heap.size ≤ k → k < w3.heap.size → (w3.alloc (.cells (madeCells #[.int .i64 0] n) 3)).heap[k]? = w3.heap[k]? from fun k _ h2 => Below.heap_alloc w3 _ k h2)
    go_loopw [7, 9, 25] (fun _ _ i wr => ∃ j : Nat, j ≤ m ∧ i = .int .i64 j ∧ Own wr w3.heap.size 3 n (fun i => .int .i64 (gainL partOf (S.take j) i : Nat)) ∧ (∀ k, w2.heap.size ≤ k → k < w3.heap.size → wr.heap[k]? = w3.heap[k]?) ∧ Below w3.heap.size w3 wr) (fun _ _ i _ => m - (intOf i).toNat)
    case atStart => exact ⟨0, Nat.zero_le _, rfl, HU.out.congr fun i _ => by simp [gainL], HOLD.out, b4⟩
    case round =>
      obtain ⟨j, hj, rfl, hou, hsm, hbr⟩ := hrel
      have HOU := Lib.hid hou
      have HSM := Lib.hid hsm
      clear hou hsm
      by_cases hlt : j < m
      · obtain ⟨g4, f4, rfl, hg1, hg2, hof, hri⟩ : ∃ g f, A4 = some ⟨g, 0, none⟩ ∧ w2.heap.size ≤ g ∧ g < w3.heap.size ∧ Own w3 g 22 m f ∧ ∀ i, i < m → RI ((setsL S).getD i []) w2.heap.size w3.heap.size (f i) w3 := by
          rcases HR.out with h | h
          · omega
          · exact h
        have hcell : wr.cell? ⟨g4, j, none⟩ = some (f4 j) := (hof.of_block (HSM.out g4 hg1 hg2)).cell hlt
        have hrj := hri j hlt
        have hsj : (setsL S).getD j [] = mem (S.getD j 0) 9 := by
          rw [List.getD_eq_getElem?_getD, List.getD_eq_getElem?_getD, setsL, List.getElem?_map, List.getElem?_eq_getElem (by have := HMS.out; omega)]; rfl
        rw [hsj] at hrj
        have HBJ := Lib.hid (HBN.out j hlt)
        have HS1 := Lib.hid (HST.out j hlt)
        have HL1 := Lib.hid (HLE.out j)
        have hz1' := (HIN.out j hlt).2
        obtain ⟨s, hs⟩ : ∃ s, S.getD j 0 = s := ⟨_, rfl⟩
        rw [hs] at hrj HBJ HS1 hz1'
        clear hs hsj hri hof
        obtain ⟨xa, xc, hfj, hxa⟩ := hrj
        rw [hfj] at hcell
        clear hfj
        obtain ⟨l, hl⟩ : ∃ l, l = (mem s 9).length := ⟨_, rfl⟩
        have hl9 : l ≤ 9 := by have := mem_len s 9; omega
        have hl1 : 1 ≤ l := by have : sz s = (mem s 9).length := rfl; omega
        have HXA := Lib.hid hxa
        have HAT := Lib.hid (show ∀ t, t < l → ∃ z : Nat, (mem s 9)[t]? = some (z : Int) ∧ z < n from fun t ht => by
          obtain ⟨z, h1, _, h3⟩ := mem_at (s := s) (t := t) (by omega)
          exact ⟨z, h1, HBJ.out z h3⟩)
        have HTK := Lib.hid (show (mem s 9).take l = mem s 9 from by rw [hl, List.take_length])
        have HCL := Lib.hid (fun t i => cntI_le (mem s 9) t i (mem_len s 9))
        obtain ⟨F, hF⟩ : ∃ F : Nat → Nat, F = fun i => gainL partOf (S.take j) i := ⟨_, rfl⟩
        obtain ⟨p, hp⟩ : ∃ p : Nat, p = partOf s := ⟨_, rfl⟩
        have hp1 : p ≤ 2520 := by rw [hp]; exact partOf_le s
        have hdiv : (2520 : Int) / (l : Int) = (p : Int) := by rw [hp, hl]; unfold partOf sz; simp
        have hd0 : (0 : Int) ≤ (2520 : Int) / (l : Int) := by omega
        have hd1 : (2520 : Int) / (l : Int) ≤ 2520 := by omega
        have HDIV := Lib.hid hdiv
        have HOUF := Lib.hid (show Own wr w3.heap.size 3 n (fun i => .int .i64 (F i : Nat)) from by rw [hF]; exact HOU.out)
        have HFL := Lib.hid (show ∀ i, F i ≤ 2520 * 512 from fun i => by rw [hF]; exact HL1.out i)
        have HFS := Lib.hid (show ∀ i, gainL partOf (S.take (j+1)) i = F i + if s.testBit i then p else 0 from fun i => by rw [hF, hp]; exact HS1.out i)
        rw [← hl] at HXA hcell
        clear hl hxa HOU HL1 HS1 hF hp hdiv
        go_wp2_with fail
        go_loopw [9, 31] (fun _ i wr => ∃ t : Nat, t ≤ l ∧ i = .int .i64 t ∧ Own wr w3.heap.size 3 n (fun i => .int .i64 (F i + p * cntI ((mem s 9).take t) i : Nat)) ∧ (∀ k, w2.heap.size ≤ k → k < w3.heap.size → wr.heap[k]? = w3.heap[k]?) ∧ Below w3.heap.size w3 wr) (fun _ i _ => l - (intOf i).toNat)
        case atStart => exact ⟨0, Nat.zero_le _, rfl, HOUF.out.congr fun i _ => by simp [cntI], HSM.out, hbr⟩
        case round =>
          obtain ⟨t, ht, rfl, hou2, hsm2, hbr2⟩ := hrel
          have HO2 := Lib.hid hou2
          have HSM2 := Lib.hid hsm2
          clear hou2 hsm2
          by_cases htl : t < l
          · obtain ⟨z, hz, hzn⟩ := HAT.out t htl
            obtain ⟨g5, rfl, hg51, hg52, hi5⟩ : ∃ g, xa = some ⟨g, 0, none⟩ ∧ w2.heap.size ≤ g ∧ g < w3.heap.size ∧ Ints w3 g l (mem s 9) := by
              rcases HXA.out with h | h
              · omega
              · exact h
            have hcell5 : wr.cell? ⟨g5, t, none⟩ = some (.int .i64 z) := by
              have h1 := (Own.of_block hi5 (HSM2.out g5 hg51 hg52)).cell htl
              rw [h1, List.getD_eq_getElem?_getD, hz]; rfl
            have hold := HO2.out.cell hzn
            have hfr := HO2.out.frozen z
            have hgu := HO2.out.lt
            have hfz := HFL.out z
            have hcz := HCL.out t z
            have hpc := Nat.mul_le_mul hp1 hcz
            have HAM := Lib.hid (cntI_more (mem s 9) t z hz)
            obtain ⟨X, hX⟩ : ∃ X : Nat, X = F z + p * cntI ((mem s 9).take t) z := ⟨_, rfl⟩
            have hXl : X ≤ 2520 * 600 := by omega
            rw [← hX] at hold
            have HXE := Lib.hid hX
            have HSET := Lib.hid (HO2.out.set z (.int .i64 ((X : Int) + 2520 / (l : Int))))
            have b7 := hbr2.setCell (p := ⟨w3.heap.size, z, none⟩) (Nat.le_refl _) (.int .i64 ((X : Int) + 2520 / (l : Int)))
            have hznI : (z : Int) < (n : Int) := by omega
            have hlne : ((l : Int) == 0) = false := by simp; omega
            clear hi5 hz hcell hX hfz hcz hpc
            go_wp2_with fail
            go_region
            go_wp2_with fail
            go_roundw
            case rel =>
              refine ⟨t + 1, by omega, by go_num, HSET.out.congr fun i hi => ?_, fun k k1 k2 => (Below.heap_setCell _ _ _ k (by show k ≠ w3.heap.size; omega)).trans (HSM2.out k k1 k2), b7.drew⟩
              rw [HAM.out i]
              by_cases e : i = z
              · rw [if_pos e, if_pos e, e, HXE.out, HDIV.out, Nat.mul_add, Nat.mul_one]; simp; omega
              · rw [if_neg e, if_neg e]; simp
            case measure => simp [intOf]; omega
          · obtain rfl : l = t := by omega
            go_wp2_with fail
            go_roundw
            case rel =>
              refine ⟨j + 1, by omega, by go_num, HO2.out.congr fun i hi => ?_, HSM2.out, hbr2⟩
              rw [HTK.out, cntI_mem (by omega), HFS.out i]
              cases s.testBit i <;> simp
            case measure => simp [intOf]; omega
      · obtain rfl : m = j := by omega
        obtain ⟨f, hf⟩ : ∃ f, f = gainL partOf S := ⟨_, rfl⟩
        have HOU2 := Lib.hid (show Own wr w3.heap.size 3 n (fun i => .int .i64 (f i : Nat)) from by rw [hf]; have h := HOU.out; rw [HTS.out] at h; exact h)
        have hfl : ∀ i, f i ≤ 2520 * 512 := fun i => by rw [hf]; have h := HLE.out m i; rw [HTS.out] at h; exact h
        have HFL := Lib.hid hfl
        obtain ⟨D, hD⟩ : ∃ D : Nat, D = 2520 * m := ⟨_, rfl⟩
        rw [← hf, ← hD] at HV
        have HDE := Lib.hid (show (2520 : Int) * (m : Int) = (D : Int) from by rw [hD]; simp)
        have hD0 : 0 < D := by omega
        have hD1 : D ≤ 2520 * 512 := by omega
        have HLEN := Lib.hid (shL_len f D n)
        have hszr : w3.heap.size + 1 ≤ wr.heap.size := HOU2.out.lt
        clear HOU HSM HR HIN HBN hf hfl hD
        go_wp2_with fail
        go_loopw [10, 12, 48] (fun v _ i wr => ∃ (j : Nat) (B : Option Addr) (cp : Nat), j ≤ n ∧ i = .int .i64 j ∧ v = .slice B j cp ∧ wr.ownsRow (w3.heap.size + 1) 45 2 (.slice B j cp) j (shV (shL f D j)) ∧ Own wr w3.heap.size 3 n (fun i => .int .i64 (f i : Nat)) ∧ Below w3.heap.size w3 wr) (fun _ _ i _ => n - (intOf i).toNat)
        case atStart => exact ⟨0, none, 0, Nat.zero_le _, rfl, rfl, World.ownsRow_nil _ _ _ _, HOU2.out, hbr⟩
        case round =>
          obtain ⟨j, B, cp, hj, rfl, rfl, hown, hou3, hbr3⟩ := hrel
          have HO := Lib.hid hown
          have HU3 := Lib.hid hou3
          have hszq : w3.heap.size + 1 ≤ wr.heap.size := hou3.lt
          clear hown hou3
          by_cases hlt : j < n
          · have hcell := HU3.out.cell hlt
            have HS := Lib.hid (shL_succ f D j)
            have hfj := HFL.out j
            have HLT := Lib.hid (fun W => pwShare_any (f j) D W hD0 (by omega) (by omega))
            have HSH := Lib.hid (show share1 (f j) D = (((f j / Nat.gcd (f j) D : Nat) : Int), ((D / Nat.gcd (f j) D : Nat) : Int)) from rfl)
            generalize f j / Nat.gcd (f j) D = a at *
            generalize D / Nat.gcd (f j) D = bb at *
            go_wp2_with (first
              | (go_at_call 52; rw [HDE.out]; refine (HLT.out _).mono ?_; rintro e w5 ⟨rfl, hb5⟩; have HO5 := Lib.hid (owns_now HO.out hb5); have HU5 := Lib.hid (HU3.out.now' hb5); have b5 := hbr3.trans (hb5.mono (by omega)); have hsz5 := b5.size; have hsq5 := hb5.size)
              | (at_builtin; refine wpList_append_lies _ rfl _ _ _ rfl (w3.heap.size + 1) 45 i0 _ 2 16 Try.underlying26 hi0 hz0 hz1 hz2 rfl (by decide) (.slice B j cp) j (shV (shL f D j)) rfl (HO5.out.alloc _) ⟨w5.heap.size, 0, none⟩ 1 1 [.int .i64 a, .int .i64 bb] rfl rfl (World.news_of_block (cs := #[.int .i64 a, .int .i64 bb]) (t := 45) (fr := (0, 0)) (heap_alloc_new w5 _)) (by simp [Value.oneCell']) (by omega) (by unfold maxLen; omega) (by omega) (by simp; omega) (w5.heap.size + 1) (by simp) ?_; intro gg cap5 w6 hown6 hgrow6 hat hlt6))
            have b6 : Below w3.heap.size w3 w6 := (b5.alloc (by omega) (.cells #[.int .i64 a, .int .i64 bb] 45)).grown hgrow6 (by simp; omega) fun i hi => by have := owns_le HO5.out hi; omega
            have HU6 := Lib.hid (Own.grown (HU5.out.alloc (.cells #[.int .i64 a, .int .i64 bb] 45)) hgrow6 (owns_ne HO5.out (by omega)))
            go_roundw
            case rel => exact ⟨j + 1, some ⟨gg, 0, none⟩, cap5, by omega, by go_num, by simp, by rw [HS.out, shV_append, HSH.out]; simpa [shV] using hown6, HU6.out, b6⟩
            case measure => simp [intOf]; omega
          · obtain rfl : n = j := by omega
            have hw3 := g3.size
            go_wp2
            go_ret2
            rw [HV.out, HGB.out]
            exact (show ShAt _ _ w _ _ from ⟨B, cp, by rw [HLEN.out]; rfl, by rw [HLEN.out]; exact owns_less HO.out (by omega), bfrom g3 hbr3⟩).ans
  · have HGB := Lib.hid (goodB_false hg)
    clear hg
    go_enter Try.func24, Try.ntmps24
    go_wp2_with fail
    refine (voGood_any q A n cap ws _ hm (HK.out.now hb0)).mono ?_
    rintro e w1 ⟨rfl, hb⟩
    rw [HGB.out]
    go_wp2
    go_ret2
    rw [show evenSetPowersL q ws n = [] from okSh_no HGB.out, HGB.out]
    exact (ShAt.none_ (bfrom hb0 hb)).ans
end Go.Proofs.Ytlnlkfldlgchhab
