/- Contract of the program's QuotasOfPower. -/
import Derived.Test.YtlnlkfldlgchhabQf
import Derived.Outline
namespace Go.Proofs.Ytlnlkfldlgchhab
open Go.RowKit Vo

/-- Is there a committee whose member's powers may be looked through? -/
def powOk (q : Int) (ws : List Int) (n : Nat) (x : Int) : Bool := memOk q ws n x && decide (sumK ws n ≤ 200)
/-- Of how many orders the member is the pivot at a quota. -/
def powF (ws : List Int) (n i : Nat) (j : Nat) : Nat := pivotN (j : Int) ws n i
def powL (q : Int) (ws : List Int) (n : Nat) (x : Int) : List Int := okL (powOk q ws n x) (bstL (powF ws n x.toNat) (sumK ws n).toNat)
theorem powOk_parts {q ws n x} (h : powOk q ws n x = true) : Vo.Good q ws n ∧ (0 ≤ x ∧ x < n) ∧ sumK ws n ≤ 200 := by
  unfold powOk at h
  simp at h
  exact ⟨(memOk_parts h.1).1, (memOk_parts h.1).2, h.2⟩
theorem powL_len (q : Int) (ws : List Int) (n : Nat) (x : Int) : (powL q ws n x).length ≤ 1048576 := by
  cases h : powOk q ws n x with
  | true => exact okL_len (Nat.le_trans (bstL_le _ _) (by have := (powOk_parts h).2.2; omega))
  | false => unfold powL; rw [okL_no h]; simp
theorem powF_le {ws : List Int} {n i : Nat} (hn : n ≤ 9) (j : Nat) : powF ws n i j ≤ 100000000000000 := by
  have h := pivN_le (p := winB (j : Int) ws n) (n := n) (k := i) (N := 2^n) hn (pow_lt hn)
  have e : powF ws n i j = pivN (winB (j : Int) ws n) n i (2^n) := rfl
  rw [e]; omega

set_option maxRecDepth 20000 in
set_option maxHeartbeats 2000000 in
theorem powers1_any (q : Int) (b off n cap i j g g2 : Nat) (ws : List Int) (w : World) (h1 : 1 ≤ n) (h9 : n ≤ 9) (hi : i < n) (hok : InK 0 1000 ws n) (hsl : Sl w b off n ws) (hx : Box w g (.int .i64 q) (.slice (some ⟨b, off, none⟩) n cap)) (hk : BoxI w g2 (.int .i64 i)) :
    Calls Try.prog 91 #[.int .i64 j, .pointer (some ⟨g, 0, none⟩), .pointer (some ⟨g2, 0, none⟩)] w fun e w' => e = .returned (.tuple #[.int .i64 (powF ws n i j : Nat), .bool true]) ∧ Below w.heap.size w w' := by
  have HSL := Lib.hid hsl
  have HOK := Lib.hid hok
  have HCP := Lib.hid (fun b2 W (h : Sl W b2 0 n ws) => (show Calls Try.prog 93 #[.agg #[.int .i64 j, .slice (some ⟨b2, 0, none⟩) n n], .int .i64 i] W fun e w' => e = .returned (.int .i64 (powF ws n i j : Nat)) ∧ Below W.heap.size W w' from countPivots_any (j : Int) b2 0 n n ws i W (by omega) hi hok h))
  obtain ⟨v, hv⟩ : ∃ v, v = powF ws n i j := ⟨_, rfl⟩
  rw [← hv] at HCP ⊢
  clear hsl hok hv
  obtain ⟨c0, c1⟩ := hx.cells
  have c2 := hk.cell
  go_enter Try.func91, Try.ntmps91
  go_wp2_with fail
  go_region_held3 (fun w' => w'.cell? ⟨g, 0, none⟩ = some (.int .i64 q) ∧ w'.cell? ⟨g, 1, none⟩ = some (.slice (some ⟨b, off, none⟩) n cap) ∧ w'.cell? ⟨g2, 0, none⟩ = some (.int .i64 i))
    (first | with_reducible exact ⟨c0, c1, c2⟩ | with_reducible exact ⟨d0, d1, d2⟩ | with_reducible exact ⟨e0, e1, e2⟩ | go_keep)
    (first
      | (go_at_call 93; refine (HCP.out _ _ (Ints.sl HI2.out)).mono ?_; rintro e w3 ⟨rfl, hb3⟩; obtain ⟨e0, e1⟩ := ((hx.drew.now hb2).now hb3).cells; have e2 := ((hk.drew.now hb2).now hb3).cell)
      | (go_at_call 92; refine (withQuota_any q (j : Int) b off n cap ws _ h1 h9 HSL.out.drew).mono ?_; rintro e w2 ⟨rfl, hi2, hb2⟩; have HI2 := Lib.hid hi2; clear hi2; obtain ⟨d0, d1⟩ := (hx.drew.now hb2).cells; have d2 := (hk.drew.now hb2).cell)
      | fail)
  all_goals
    go_wp2
    go_ret2
    exact ⟨rfl, bfrom (Below.refl _ _).drew (bfrom hb2 hb3)⟩

set_option maxRecDepth 20000 in
set_option maxHeartbeats 2000000 in
theorem quotasOfPower_any (q : Int) (A : Option Addr) (n cap : Nat) (ws : List Int) (x : Int) (w : World) (hm : n ≤ 9223372036854775807) (hk : Known w A n ws) (_hx : (Lit.int .i64 x).wf = true) :
    Calls Try.prog 47 #[.agg #[.int .i64 q, .slice A n cap], .int .i64 x] w fun e w' => PairAt (powL q ws n x) (powOk q ws n x) w w' e := by
  have HK := Lib.hid hk
  clear hk
  have hb0 : Below w.heap.size w ((w.alloc (.cells #[.int .i64 q, .slice A n cap] 29)).alloc (.cells #[.int .i64 x] 3)) := (below1 w _).alloc (by simp) _
  have hx := (Box.new w (.int .i64 q) (.slice A n cap)).alloc (.cells #[.int .i64 x] 3)
  have hi := BoxI.new (w.alloc (.cells #[.int .i64 q, .slice A n cap] 29)) (.int .i64 x)
  simp only [World.size_alloc] at hi
  have c2 := hi.cell
  cases hm1 : memOk q ws n x with
  | false =>
    have HM := Lib.hid hm1
    have HO := Lib.hid (show powOk q ws n x = false from by unfold powOk; rw [hm1]; rfl)
    have HV := Lib.hid (show powL q ws n x = [] from okL_no HO.out)
    clear hm1
    go_enter Try.func47, Try.ntmps47
    go_wp2_with fail
    refine (hasMember_any q A n cap ws x _ hm (HK.out.now hb0)).mono ?_
    rintro e w1 ⟨rfl, hb1⟩
    rw [HM.out]
    go_wp2
    go_ret2
    rw [HV.out, HO.out]
    exact PairAt.none_ (bfrom hb0 hb1)
  | true =>
    obtain ⟨hg, hx0, hxn⟩ := memOk_parts hm1
    have HM := Lib.hid hm1
    obtain ⟨b, off, rfl, hsl⟩ := HK.out.get hg.lo
    obtain ⟨i, rfl⟩ : ∃ i : Nat, x = i := ⟨x.toNat, by omega⟩
    have HSL := Lib.hid hsl
    have HG := Lib.hid hg
    have hn9 := hg.hi
    have hn1 := hg.lo
    have htot := hg.tot
    have hq1 := hg.q1
    have hq2 := hg.q2
    have hin : i < n := by omega
    have HPO := Lib.hid (show powOk q ws n i = decide (sumK ws n ≤ 200) from by unfold powOk; rw [hm1]; rfl)
    have HTO := Lib.hid (fun W (h : Sl W b off n ws) => total_any q b off n cap ws W (by omega) hg.ok h)
    have HB := Lib.hid (fun (T : Nat) (hT : T ≤ 200) W (h : Sl W b off n ws) (h2 : Box W w.heap.size (.int .i64 q) (.slice (some ⟨b, off, none⟩) n cap)) (h3 : BoxI W (w.heap.size + 1) (.int .i64 i)) =>
      bestOfI_any (powF ws n i) T 91 #[.pointer (some ⟨w.heap.size, 0, none⟩), .pointer (some ⟨w.heap.size + 1, 0, none⟩)] W (by omega) (powF_le hn9)
        ⟨enters_of Try.func91 (by kernel_rfl) rfl, fun W' j _ _ hb => powers1_any q b off n cap i j w.heap.size (w.heap.size + 1) ws W' hn1 hn9 hin hg.ok (h.now hb) (h2.now hb) (h3.now hb)⟩)
    obtain ⟨S, hS⟩ : ∃ S : Nat, sumK ws n = S := ⟨(sumK ws n).toNat, by omega⟩
    have HL := Lib.hid (show (bstL (powF ws n i) S).length ≤ S from bstL_le _ _)
    have HPL := Lib.hid (show sumK ws n ≤ 200 → powL q ws n i = bstL (powF ws n i) S from fun h => by unfold powL; rw [okL_yes (by rw [HPO.out]; exact decide_eq_true h), Int.toNat_natCast, hS, Int.toNat_natCast])
    rw [hS] at HTO HPO HPL hq2 htot
    obtain ⟨f, hf⟩ : ∃ f, f = powF ws n i := ⟨_, rfl⟩
    rw [← hf] at HB HPL HL
    clear hm1 hg hsl hS hf
    by_cases h200 : S ≤ 200
    · have HO := Lib.hid (show powOk q ws n i = true from by rw [HPO.out]; simp; omega)
      have HV := Lib.hid (HPL.out (by omega))
      have hS' : ¬ ((S : Int) > 200) := by omega
      go_enter Try.func47, Try.ntmps47
      go_wp2_with fail
      refine (hasMember_any q _ n cap ws i _ hm (HK.out.now hb0)).mono ?_
      rintro e w1 ⟨rfl, hb1⟩
      rw [HM.out]
      have g1 := bfrom hb0 hb1
      have hx1 := hx.now hb1
      have hi1 := hi.now hb1
      obtain ⟨c0, c1⟩ := hx1.cells
      clear c2 hx hi hb0 hb1
      have c2 := hi1.cell
      go_wp2_with fail
      refine (HTO.out _ (HSL.out.now g1)).mono ?_
      rintro e w2 ⟨rfl, hb2⟩
      have g2 := bfrom g1 hb2
      have hx2 := hx1.now hb2
      have hi2 := hi1.now hb2
      clear c0 c1 c2 hx1 hi1 g1 hb2
      obtain ⟨c0, c1⟩ := hx2.cells
      have c2 := hi2.cell
      go_wp2_with fail
      refine (HTO.out _ (HSL.out.now g2)).mono ?_
      rintro e w3 ⟨rfl, hb3⟩
      have g3 := bfrom g2 hb3
      go_wp2_with fail
      refine (HB.out S h200 _ (HSL.out.now g3) (hx2.now hb3) (hi2.now hb3)).mono ?_
      rintro e w4 ⟨A4, cap4, rfl, hown4, hb4⟩
      have HO4 := Lib.hid hown4
      have hz3 := g3.size
      clear hown4
      go_wp2
      go_ret2
      exact ⟨A4, cap4, by rw [HV.out, HO.out]; rfl, by rw [HV.out]; exact owns_less HO4.out hz3, bfrom g3 hb4⟩
    · have HO := Lib.hid (show powOk q ws n i = false from by rw [HPO.out]; simp; omega)
      have HV := Lib.hid (show powL q ws n i = [] from okL_no HO.out)
      have hS' : (S : Int) > 200 := by omega
      go_enter Try.func47, Try.ntmps47
      go_wp2_with fail
      refine (hasMember_any q _ n cap ws i _ hm (HK.out.now hb0)).mono ?_
      rintro e w1 ⟨rfl, hb1⟩
      rw [HM.out]
      have g1 := bfrom hb0 hb1
      obtain ⟨c0, c1⟩ := (hx.now hb1).cells
      go_wp2_with fail
      refine (HTO.out _ (HSL.out.now g1)).mono ?_
      rintro e w2 ⟨rfl, hb2⟩
      go_wp2
      go_ret2
      rw [HV.out, HO.out]
      exact PairAt.none_ (bfrom g1 hb2)
theorem quotasOfPower_ans (q : Int) (A : Option Addr) (n cap : Nat) (ws : List Int) (x : Int) (w : World) (hm : n ≤ 9223372036854775807) (hk : Known w A n ws) (hxw : (Lit.int .i64 x).wf = true) :
    Calls Try.prog 47 #[.agg #[.int .i64 q, .slice A n cap], .int .i64 x] w fun e w' => Ans (RS (powL q ws n x)) (powOk q ws n x) w w' e := (quotasOfPower_any q A n cap ws x w hm hk hxw).mono fun _ _ h => h.ans
end Go.Proofs.Ytlnlkfldlgchhab
