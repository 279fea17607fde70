/- Contracts of SizesOfLeast, the program's and the model's. -/
import Derived.Test.YtldpdjnedoflcabZ8
import Derived.Test.YtldpdjnedoflcabZ2
import Derived.Outline
namespace Go.Proofs.Ytldpdjnedoflcab
open Go.RowKit Vo

def sizesOfLeastL (q : Int) (ws : List Int) (n : Nat) : List Int := okL (goodB q ws n) (perL (sizeL (lwL q ws n)) (n+1))
theorem sizesOfLeastL_len (q : Int) (ws : List Int) (n : Nat) : (sizesOfLeastL q ws n).length ≤ 1048576 := by
  by_cases hg : Vo.Good q ws n
  · exact okL_len (by rw [perL_len]; have := hg.hi; omega)
  · unfold sizesOfLeastL; rw [okL_no (goodB_false hg)]; simp
theorem sz_le {n s : Nat} (hn : n ≤ 9) (hs : s < 2^n) : sz s ≤ n := by
  unfold sz; rw [mem_stop hs hn]; exact mem_len s n

set_option maxRecDepth 20000 in
set_option maxHeartbeats 4000000 in
theorem sizesOfLeast0_any (q : Int) (b off n cap : Nat) (ws : List Int) (w : World) (hn : n < 10) (hok : InK 0 1000 ws n) (hsl : Sl w b off n ws) :
    Calls Try.prog 84 #[.agg #[.int .i64 q, .slice (some ⟨b, off, none⟩) n cap]] w fun e w' => RowOf (perL (sizeL (lwL q ws n)) (n+1)) w w' e := by
  have HOK := Lib.hid hok
  have HSL := Lib.hid hsl
  clear hok hsl
  have hx := Box.new w (.int .i64 q) (.slice (some ⟨b, off, none⟩) n cap)
  have hb0 := below1 w (.cells #[.int .i64 q, .slice (some ⟨b, off, none⟩) n cap] 29)
  have hmk := run_make_row' (P := Try.prog) 22 3 (.int .i64 0) 8 Try.underlying22 infoInt rfl .i64 .i64 (n+1) (by omega) (by omega)
  simp only [show ((n + 1 : Nat) : Int) = (n : Int) + 1 from rfl] at hmk
  have hSL := lwL_len (q := q) (ws := ws) (n := n) (by omega)
  have HIN := Lib.hid (show ∀ j, j < (lwL q ws n).length → (lwL q ws n).getD j 0 < 512 ∧ sz ((lwL q ws n).getD j 0) < n + 1 from fun j hj => by
    have h1 := (lwL_mem (lwL_at hj)).1
    have h2 := pow_lt (n := n) (by omega)
    have h3 := sz_le (n := n) (by omega) h1
    omega)
  have HST := Lib.hid (fun z j (h : j < (lwL q ws n).length) => sizeL_succ (lwL q ws n) z j h)
  obtain ⟨S, hS⟩ : ∃ S, S = lwL q ws n := ⟨_, rfl⟩
  rw [← hS] at hSL HIN HST ⊢
  have HSE := Lib.hid hS
  clear hS
  have HLE := Lib.hid (show ∀ z j, sizeL (S.take j) z ≤ 512 from fun z j => Nat.le_trans (sizeL_le _ _) (by rw [List.length_take]; omega))
  have HTK := Lib.hid (List.take_length (l := S))
  have HL := Lib.hid (perL_len (sizeL S) (n+1))
  go_enter Try.func84, Try.ntmps84
  go_wp2_with fail
  refine (members_any _ _ n cap _).mono ?_
  rintro e w1 ⟨rfl, hb1⟩
  have hx1 := hx.now hb1
  have g1 := bfrom hb0 hb1
  have hz1 : w.heap.size < w1.heap.size := hx1.lt
  have b2 := below1 w1 (.cells (madeCells #[.int .i64 0] (n+1)) 3)
  have hx2 := hx1.now b2
  have HO2 := Lib.hid (show Own (w1.alloc (.cells (madeCells #[.int .i64 0] (n+1)) 3)) w1.heap.size 3 (n+1) (fun z => .int .i64 (sizeL (S.take 0) z : Nat)) from
    (Own.of_row (World.rowIs_made w1 (.int .i64 0) (n+1) 3)).congr fun i _ => by simp [sizeL])
  have hs2 := Lib.hid ((HSL.out.now g1).now b2)
  obtain ⟨c0, c1⟩ := hx2.cells
  have g2 := bfrom g1 b2
  go_wp2_with fail
  refine (leastWinning_any q b off n cap ws _ hn HOK.out hs2.out).mono ?_
  rintro e w3 ⟨A3, cap3, rfl, hown3, hb3⟩
  rw [← HSE.out] at hown3 ⊢
  have HO3 := Lib.hid (HO2.out.now' hb3)
  have g3 := bfrom g2 hb3
  obtain ⟨m, hm1⟩ : ∃ m, m = S.length := ⟨_, rfl⟩
  have HM := Lib.hid hm1
  rw [← hm1] at hown3 hSL HIN HST HTK ⊢
  clear hm1 c0 c1
  have HRD := Lib.hid (show 0 < m → ∃ ga, A3 = some ⟨ga, 0, none⟩ ∧ w1.heap.size + 1 ≤ ga ∧ Own w3 ga 67 m (fun i => .int .u64 (S.getD i 0 : Nat)) from fun h0 => by
    obtain ⟨ga, cp', hv, hga, _, _⟩ := owns_head hown3 h0
    injection hv with hA _ _
    subst hA
    exact ⟨ga, rfl, by simpa using hga, Own.of_own hown3 (fun i hi => by simp [setsV, List.getD_eq_getElem?_getD, show i < S.length from by have := HM.out; omega])⟩)
  clear hown3 hmk
  go_wp2_with fail
  go_loopw [5, 13] (fun _ i wr => ∃ j : Nat, j ≤ m ∧ i = .int .i64 j ∧ Own wr w1.heap.size 3 (n+1) (fun z => .int .i64 (sizeL (S.take j) z : Nat)) ∧ (0 < m → ∃ ga, A3 = some ⟨ga, 0, none⟩ ∧ w1.heap.size + 1 ≤ ga ∧ Own wr ga 67 m (fun i => .int .u64 (S.getD i 0 : Nat))) ∧ Below w.heap.size w wr) (fun _ i _ => m - (intOf i).toNat)
  case atStart => exact ⟨0, Nat.zero_le _, rfl, HO3.out, HRD.out, g3⟩
  case round =>
    obtain ⟨j, hj, rfl, hou, hrd, hbr⟩ := hrel
    have HOU := Lib.hid hou
    have HRDr := Lib.hid hrd
    clear hou hrd
    by_cases hlt : j < m
    · obtain ⟨ga, hA, hga, hoa⟩ := HRDr.out (by omega)
      subst hA
      have HOA := Lib.hid hoa
      have hcell := hoa.cell hlt
      obtain ⟨hs512, hszn⟩ := HIN.out j hlt
      have HS1 := Lib.hid (fun z => HST.out z j hlt)
      clear hoa
      generalize S.getD j 0 = s at *
      have HZ := Lib.hid (show (mem s 9).length = sz s from rfl)
      have hle := HLE.out (sz s) j
      obtain ⟨z, hz⟩ : ∃ z, z = sz s := ⟨_, rfl⟩
      rw [← hz] at HZ hszn hle
      have HZE := Lib.hid hz
      clear hz
      have hold := HOU.out.cell hszn
      have hfr := HOU.out.frozen z
      have hgu := HOU.out.lt
      obtain ⟨X, hX⟩ : ∃ X : Nat, X = sizeL (S.take j) z := ⟨_, rfl⟩
      rw [← hX] at hold hle
      have HXE := Lib.hid hX
      have HSET := Lib.hid (HOU.out.set z (.int .i64 ((X : Int) + 1)))
      have b7 := hbr.setCell (p := ⟨w1.heap.size, z, none⟩) (by show w.heap.size ≤ w1.heap.size; omega) (.int .i64 ((X : Int) + 1))
      have HOA7 := Lib.hid (HOA.out.far (p := ⟨w1.heap.size, z, none⟩) (show ga ≠ w1.heap.size by omega) (.int .i64 ((X : Int) + 1)))
      clear hX
      go_wp2_with (go_at_call 99; refine (size_any s _ hs512).mono ?_; rintro e w6 ⟨rfl, rfl⟩; rw [HZ.out])
      go_roundw
      case rel =>
        refine ⟨j + 1, by omega, by go_num, HSET.out.congr fun i hi => ?_, fun _ => ⟨ga, rfl, hga, HOA7.out⟩, b7⟩
        rw [HS1.out i, ← HZE.out]
        by_cases e : i = z
        · rw [if_pos e, if_pos e.symm, e, HXE.out]; simp
        · rw [if_neg e, if_neg (fun h => e h.symm)]; simp
      case measure => simp [intOf]; omega
    · obtain rfl : m = j := by omega
      have hle1 : w.heap.size ≤ w1.heap.size := by omega
      go_wp2
      go_ret
      refine ⟨w1.heap.size, n+1, by rw [HL.out]; rfl, hle1, ?_, hbr⟩
      rw [HL.out]
      exact HOU.out.congr fun i hi => by rw [HTK.out, perL_get hi]

/-- The function value (k, none bound), called with a committee, answers with these integers in a block of its own. -/
structure Rows (L : List Int) (k : Nat) (c : Value) (w : World) : Prop where
  enters : ∀ args W, (callFunc k args).run Try.prog W = .ok (.enter k args) W
  gives : ∀ (W : World), Below w.heap.size w W → Calls Try.prog k #[c] W fun e W' => RowOf L W W' e
theorem Rows.now {L k c} {w w' : World} (h : Rows L k c w) (hb : Below w.heap.size w w') : Rows L k c w' := ⟨h.enters, fun W hb' => h.gives W (bfrom hb hb')⟩
theorem Lies.lower {R : Nat → Nat → Value → World → Prop} {lo lo2 hi : Nat} {v : Value} {w : World} (h : Lies (R lo hi v) lo hi w) (hl : lo2 ≤ lo) (hr : ∀ w, R lo hi v w → R lo2 hi v w) : Lies (R lo2 hi v) lo2 hi w :=
  ⟨h.1, fun w' e => hr w' (h.2 w' fun k h1 h2 => e k (by omega) h2)⟩

set_option maxHeartbeats 1000000 in
theorem numbersOfRow_ans (L : List Int) (k : Nat) (q : Int) (A : Option Addr) (n cap : Nat) (ws : List Int) (w : World) (hm : n ≤ 9223372036854775807) (hk : Known w A n ws)
    (hl : Vo.Good q ws n → Rows L k (.agg #[.int .i64 q, .slice A n cap]) w) :
    Calls Try.prog 82 #[.agg #[.int .i64 q, .slice A n cap], .func (.func k) #[] #[]] w fun e w' => Ans (RS (okL (goodB q ws n) L)) (goodB q ws n) w w' e := by
  have HK := Lib.hid hk
  clear hk
  have hx := Box.new w (.int .i64 q) (.slice A n cap)
  have hb0 := below1 w (.cells #[.int .i64 q, .slice A n cap] 29)
  by_cases hg : Vo.Good q ws n
  · have HL := Lib.hid (hl hg)
    have eg := (hl hg).enters
    have HGB := Lib.hid (goodB_true hg)
    clear hg hl
    go_enter Try.func82, Try.ntmps82
    go_wp2_with fail
    refine (isCommittee_any q _ n cap ws _ hm (HK.out.now hb0)).mono ?_
    rintro e w1 ⟨rfl, hb⟩
    rw [HGB.out]
    have g1 := bfrom hb0 hb
    obtain ⟨hc0, hc1⟩ := (hx.now hb).cells
    have HV := Lib.hid (okL_yes (L := L) HGB.out)
    go_wp2_with (go_at_fn k; refine (HL.out.gives _ g1).mono ?_; rintro e w2 ⟨g2, cap2, rfl, hg2, hown, hb2⟩; have HO := Lib.hid hown; clear hown)
    have hgl := HO.out.lt
    have hz1 := g1.size
    go_ret2
    rw [HV.out, HGB.out]
    exact ⟨_, rfl, RS.lies ⟨_, cap2, rfl, Or.inr ⟨g2, rfl, by omega, hgl, HO.out⟩⟩ (Nat.le_refl _), bfrom g1 hb2⟩
  · have HGB := Lib.hid (goodB_false hg)
    clear hg hl
    go_enter Try.func82, Try.ntmps82
    go_wp2_with fail
    refine (isCommittee_any q A n cap ws _ hm (HK.out.now hb0)).mono ?_
    rintro e w1 ⟨rfl, hb⟩
    rw [HGB.out]
    go_wp2
    go_ret2
    rw [okL_no HGB.out, HGB.out]
    exact (PairAt.none_ (bfrom hb0 hb)).ans
theorem sizesOfLeast_rows (q : Int) (A : Option Addr) (n cap : Nat) (ws : List Int) (w : World) (hk : Known w A n ws) (hg : Vo.Good q ws n) :
    Rows (perL (sizeL (lwL q ws n)) (n+1)) 84 (.agg #[.int .i64 q, .slice A n cap]) w := by
  obtain ⟨b, off, rfl, hsl⟩ := hk.get hg.lo
  exact ⟨enters_of Try.func84 (by kernel_rfl) rfl, fun W hb => sizesOfLeast0_any q b off n cap ws W (by have := hg.hi; omega) hg.ok (hsl.now hb)⟩
set_option maxHeartbeats 1000000 in
theorem sizesOfLeast_ans (q : Int) (A : Option Addr) (n cap : Nat) (ws : List Int) (w : World) (hm : n ≤ 9223372036854775807) (hk : Known w A n ws) :
    Calls Try.prog 48 #[.agg #[.int .i64 q, .slice A n cap]] w fun e w' => Ans (RS (sizesOfLeastL q ws n)) (goodB q ws n) w w' e := by
  have HK := Lib.hid hk
  have hb0 := below1 w (.cells #[.int .i64 q, .slice A n cap] 29)
  clear hk
  go_enter Try.func48, Try.ntmps48
  go_wp2_with fail
  refine (numbersOfRow_ans (perL (sizeL (lwL q ws n)) (n+1)) _ q A n cap ws _ hm (HK.out.now hb0) (fun hg => sizesOfLeast_rows q A n cap ws _ (HK.out.now hb0) hg)).mono ?_
  rintro e w1 ⟨v1, rfl, hl1, hb⟩
  have HL1 := Lib.hid (hl1.lower hb0.size fun W h => h.wide (Or.inr ⟨hb0.size, Nat.le_refl _⟩))
  obtain ⟨A1, cap1, rfl, _⟩ := hl1.here
  clear hl1
  go_wp2
  go_ret2
  exact ⟨_, rfl, HL1.out, bfrom hb0 hb⟩

set_option maxRecDepth 20000 in
set_option maxHeartbeats 4000000 in
theorem sSizesOfLeast_ans (q : Int) (A : Option Addr) (n cap : Nat) (ws : List Int) (w : World) (hm : n ≤ 9223372036854775807) (hk : Known w A n ws) :
    Calls Try.prog 47 #[.agg #[.int .i64 q, .slice A n cap]] w fun e w' => Ans (RS (sizesOfLeastL q ws n)) (goodB q ws n) w w' e := by
  have HK := Lib.hid hk
  clear hk
  have hx := Box.new w (.int .i64 q) (.slice A n cap)
  have hb0 := below1 w (.cells #[.int .i64 q, .slice A n cap] 29)
  by_cases hg : Vo.Good q ws n
  · obtain ⟨b, off, rfl, hsl⟩ := HK.out.get hg.lo
    have HSL := Lib.hid hsl
    have HOK := Lib.hid hg.ok
    have HGB := Lib.hid (goodB_true hg)
    have hn9 := hg.hi
    have hn10 : n < 10 := by omega
    have hmk := run_make_row' (P := Try.prog) 22 3 (.int .i64 0) 8 Try.underlying22 infoInt rfl .i64 .i64 (n+1) (by omega) (by omega)
    simp only [show ((n + 1 : Nat) : Int) = (n : Int) + 1 from rfl] at hmk
    have HV := Lib.hid (show sizesOfLeastL q ws n = perL (sizeL (lwL q ws n)) (n+1) from okL_yes HGB.out)
    have hSL := lwL_len (q := q) (ws := ws) hn9
    have HIN := Lib.hid (show ∀ j, j < (lwL q ws n).length → sz ((lwL q ws n).getD j 0) < n + 1 from fun j hj => by
      have h3 := sz_le (n := n) (by omega) (lwL_mem (lwL_at hj)).1
      omega)
    have HLW := Lib.hid (show (inOrder n).filter (leastP (winB q ws n) n) = lwL q ws n from rfl)
    have HST := Lib.hid (fun z j (h : j < (lwL q ws n).length) => sizeL_succ (lwL q ws n) z j h)
    obtain ⟨S, hS⟩ : ∃ S, S = lwL q ws n := ⟨_, rfl⟩
    rw [← hS] at hSL HIN HLW HST HV
    have HLE := Lib.hid (show ∀ z j, sizeL (S.take j) z ≤ 512 from fun z j => Nat.le_trans (sizeL_le _ _) (by rw [List.length_take]; omega))
    have HTK := Lib.hid (List.take_length (l := S))
    have HL := Lib.hid (perL_len (sizeL S) (n+1))
    clear hg hsl hS
    go_enter Try.func47, Try.ntmps47
    go_wp2_with fail
    refine (voGood_any q _ n cap ws _ hm (HK.out.now hb0)).mono ?_
    rintro e w1 ⟨rfl, hb⟩
    rw [HGB.out]
    have g1 := bfrom hb0 hb
    have hx1 := hx.now hb
    have hz1 : w.heap.size < w1.heap.size := hx1.lt
    obtain ⟨hc0, hc1⟩ := hx1.cells
    have b2 := below1 w1 (.cells (madeCells #[.int .i64 0] (n+1)) 3)
    have hs2 := Lib.hid ((HSL.out.now g1).now b2)
    have HO2 := Lib.hid (show Own (w1.alloc (.cells (madeCells #[.int .i64 0] (n+1)) 3)) w1.heap.size 3 (n+1) (fun z => .int .i64 (sizeL (S.take 0) z : Nat)) from
      (Own.of_row (World.rowIs_made w1 (.int .i64 0) (n+1) 3)).congr fun i _ => by simp [sizeL])
    go_wp2_with (first
      | (go_at_call 54; refine (voWins_any q b off n cap ws _ hn10 HOK.out hs2.out).mono ?_; rintro e w2 ⟨g, cap2, rfl, hg, hown, hb2⟩; have HO := Lib.hid hown; clear hown; have hsz2 : w1.heap.size + 1 ≤ w2.heap.size := by have := hb2.size; simpa using this)
      | (go_at_call 53; refine (voLeast_any (winB q ws n) n g cap2 _ hn10 HO.out).mono ?_; rintro e w3 ⟨v3, rfl, hr3, hb3⟩; rw [HLW.out] at hr3; obtain ⟨A4, cap4, rfl, hr⟩ := hr3; rw [setsL_len] at hr ⊢; have HR := Lib.hid hr; clear hr))
    have g3 := bfrom (bfrom (bfrom g1 b2) hb2) hb3
    have HO3 := Lib.hid ((HO2.out.now' hb2).now' hb3)
    obtain ⟨m, hmS⟩ : ∃ m, m = S.length := ⟨_, rfl⟩
    have HMS := Lib.hid hmS
    rw [← hmS] at HR hSL HST HTK HIN ⊢
    clear hmS hmk hc0 hc1
    go_loopw [6, 19] (fun _ i wr => ∃ j : Nat, j ≤ m ∧ i = .int .i64 j ∧ Own wr w1.heap.size 3 (n+1) (fun z => .int .i64 (sizeL (S.take j) z : Nat)) ∧ (∀ k, w2.heap.size ≤ k → k < w3.heap.size → wr.heap[k]? = w3.heap[k]?) ∧ Below w.heap.size w wr) (fun _ i _ => m - (intOf i).toNat)
    case atStart => exact ⟨0, Nat.zero_le _, rfl, HO3.out, fun _ _ _ => rfl, g3⟩
    case round =>
      obtain ⟨j, hj, rfl, hou, hsm, hbr⟩ := hrel
      have HOU := Lib.hid hou
      have HSM := Lib.hid hsm
      clear hou hsm
      by_cases hlt : j < m
      · obtain ⟨g4, f, rfl, hg1, hg2, hof, hri⟩ : ∃ g f, A4 = some ⟨g, 0, none⟩ ∧ w2.heap.size ≤ g ∧ g < w3.heap.size ∧ Own w3 g 22 m f ∧ ∀ i, i < m → RI ((setsL S).getD i []) w2.heap.size w3.heap.size (f i) w3 := by
          rcases HR.out with h | h
          · omega
          · exact h
        have hcell : wr.cell? ⟨g4, j, none⟩ = some (f j) := (hof.of_block (HSM.out g4 hg1 hg2)).cell hlt
        have hrj := hri j hlt
        have hsj : (setsL S).getD j [] = mem (S.getD j 0) 9 := by
          rw [List.getD_eq_getElem?_getD, List.getD_eq_getElem?_getD, setsL, List.getElem?_map, List.getElem?_eq_getElem (by have := HMS.out; omega)]; rfl
        rw [hsj] at hrj
        have HS1 := Lib.hid (fun z => HST.out z j hlt)
        have hszn := HIN.out j hlt
        have HZ := Lib.hid (show (mem (S.getD j 0) 9).length = sz (S.getD j 0) from rfl)
        obtain ⟨xa, xc, hfj, hxa⟩ := hrj
        rw [hfj, HZ.out] at hcell
        clear hfj hxa hsj hri hof
        have hle := HLE.out (sz (S.getD j 0)) j
        obtain ⟨z, hz⟩ : ∃ z, z = sz (S.getD j 0) := ⟨_, rfl⟩
        rw [← hz] at hcell hszn hle
        have HZE := Lib.hid hz
        clear hz
        have hold := HOU.out.cell hszn
        have hfr := HOU.out.frozen z
        have hgu := HOU.out.lt
        obtain ⟨X, hX⟩ : ∃ X : Nat, X = sizeL (S.take j) z := ⟨_, rfl⟩
        rw [← hX] at hold hle
        have HXE := Lib.hid hX
        have HSET := Lib.hid (HOU.out.set z (.int .i64 ((X : Int) + 1)))
        have b7 := hbr.setCell (p := ⟨w1.heap.size, z, none⟩) (by show w.heap.size ≤ w1.heap.size; omega) (.int .i64 ((X : Int) + 1))
        clear hX
        go_wp2_with fail
        go_roundw
        case rel =>
          refine ⟨j + 1, by omega, by go_num, HSET.out.congr fun i hi => ?_, fun k k1 k2 => (Below.heap_setCell _ _ _ k (by show k ≠ w1.heap.size; omega)).trans (HSM.out k k1 k2), b7⟩
          rw [HS1.out i, ← HZE.out]
          by_cases e : i = z
          · rw [if_pos e, if_pos e.symm, e, HXE.out]; simp
          · rw [if_neg e, if_neg (fun h => e h.symm)]; simp
        case measure => simp [intOf]; omega
      · obtain rfl : m = j := by omega
        have hgl := HOU.out.lt
        go_wp2
        go_ret2
        rw [HV.out, HGB.out]
        refine ⟨_, rfl, RS.lies ⟨_, n+1, by rw [HL.out]; rfl, Or.inr ⟨w1.heap.size, rfl, by omega, hgl, ?_⟩⟩ (Nat.le_refl _), hbr⟩
        rw [HL.out]
        exact HOU.out.congr fun i hi => by rw [HTK.out, perL_get hi]
  · have HGB := Lib.hid (goodB_false hg)
    clear hg
    go_enter Try.func47, Try.ntmps47
    go_wp2_with fail
    refine (voGood_any q A n cap ws _ hm (HK.out.now hb0)).mono ?_
    rintro e w1 ⟨rfl, hb⟩
    rw [HGB.out]
    go_wp2
    go_ret2
    rw [show sizesOfLeastL q ws n = [] from okL_no HGB.out, HGB.out]
    exact (PairAt.none_ (bfrom hb0 hb)).ans
end Go.Proofs.Ytldpdjnedoflcab
