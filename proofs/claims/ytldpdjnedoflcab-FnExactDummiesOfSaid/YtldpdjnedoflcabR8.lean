/- Contracts of the program's dummies and DummiesOf. -/
import Derived.Test.YtldpdjnedoflcabA1
import Derived.Test.YtldpdjnedoflcabJ7
namespace Go.Proofs.Ytldpdjnedoflcab
open Go.RowKit Vo

set_option maxHeartbeats 2000000 in
theorem dummies_any (q : Int) (b off n cap : Nat) (ws : List Int) (w : World) (hn : n ≤ 9) (hok : InK 0 1000 ws n) (hsl : Sl w b off n ws) :
    Calls Try.prog 66 #[.agg #[.int .i64 q, .slice (some ⟨b, off, none⟩) n cap]] w fun e w' => e = .returned (.int .u64 (strip (2^n-1) (lwL q ws n) : Nat)) ∧ Below w.heap.size w w' := by
  have HOK := Lib.hid hok
  have hb0 := below1 w (.cells #[.int .i64 q, .slice (some ⟨b, off, none⟩) n cap] 29)
  have HSL := Lib.hid (hsl.now hb0)
  have hx := Box.new w (.int .i64 q) (.slice (some ⟨b, off, none⟩) n cap)
  have hn10 : n < 10 := by omega
  have HLT := Lib.hid (show ∀ i, i < (lwL q ws n).length → (lwL q ws n).getD i 0 < 2^n from fun i hi => (lwL_mem (lwL_at hi)).1)
  have HLN := Lib.hid (lwL_len (q := q) (ws := ws) hn)
  have HST := Lib.hid (show strip (2^n-1) (lwL q ws n) = co n (orK (lwL q ws n) (lwL q ws n).length) from by have h := strip_orK hn HLT.out _ (Nat.le_refl _); rwa [List.take_length] at h)
  clear hok hsl
  go_enter Try.func66, Try.ntmps66
  go_wp2_with fail
  go_region_held3 (fun w' => w'.cell? ⟨w.heap.size, 0, none⟩ = some (.int .i64 q) ∧ w'.cell? ⟨w.heap.size, 1, none⟩ = some (.slice (some ⟨b, off, none⟩) n cap))
    (first | exact hd | exact hd2 | exact hd3 | exact hx.cells | go_keep)
    (first
      | (go_at_call 61; refine (members_any _ _ n cap _).mono ?_; rintro e w2 ⟨rfl, hb2⟩; have hd := (hx.drew.now hb2).cells)
      | (go_at_call 57; refine (leastWinning_any q b off n cap ws _ hn10 HOK.out (HSL.out.drew.now hb2)).mono ?_; rintro e w3 ⟨A3, cap3, rfl, hown3, hb3⟩; have HO3 := Lib.hid hown3; clear hown3; have hd2 := ((hx.drew.now hb2).now hb3).cells)
      | (go_at_call 98; refine (membersOfNone_any (lwL q ws n) n _ _ cap3 A3 _ hn rfl (by have := HLN.out; omega) HLT.out HO3.out).mono ?_; rintro e w4 ⟨rfl, rfl⟩; have hd3 := ((hx.drew.now hb2).now hb3).cells))
  all_goals
    go_wp2
    go_ret
    exact ⟨by rw [HST.out]; rfl, bfrom hb0.drew (bfrom hb2 hb3)⟩

set_option maxRecDepth 20000 in
set_option maxHeartbeats 4000000 in
theorem dummiesOf_any (q : Int) (A : Option Addr) (n cap : Nat) (ws : List Int) (w : World) (hm : n ≤ 9223372036854775807) (hk : Known w A n ws) :
    Calls Try.prog 29 #[.agg #[.int .i64 q, .slice A n cap]] w fun e w' => PairAt (dummyL q ws n) (goodB q ws n) w w' e := by
  have HK := Lib.hid hk
  clear hk
  have hx := Box.new w (.int .i64 q) (.slice A n cap)
  have hb0 := below1 w (.cells #[.int .i64 q, .slice A n cap] 29)
  by_cases hg : Vo.Good q ws n
  · obtain ⟨b, off, rfl, hsl⟩ := HK.out.get hg.lo
    have HSL := Lib.hid hsl
    have HOK := Lib.hid hg.ok
    have HGB := Lib.hid (goodB_true hg)
    have hn9 := hg.hi
    have hn10 : n < 10 := by omega
    clear hg hsl
    go_enter Try.func29, Try.ntmps29
    go_wp2_with fail
    refine (isCommittee_any q _ n cap ws _ hm (HK.out.now hb0)).mono ?_
    rintro e w1 ⟨rfl, hb⟩
    rw [HGB.out]
    have hx1 := hx.now hb
    have hs1 := Lib.hid ((HSL.out.now hb0).now hb)
    obtain ⟨hc0, hc1⟩ := hx1.cells
    go_wp2_with (first
      | (go_at_call 66; refine (dummies_any q b off n cap ws _ hn9 HOK.out hs1.out).mono ?_; rintro e w2 ⟨rfl, hb2⟩)
      | fail)
    have HV := Lib.hid (dummyL_yes HGB.out)
    have HD := Lib.hid (show strip (2^n-1) (lwL q ws n) < 512 from by
      have := strip_le (2^n-1) (lwL q ws n)
      have := pow_lt hn9
      omega)
    have HE := Lib.hid (show dummyL q ws n = mem (strip (2^n-1) (lwL q ws n)) 9 from HV.out)
    have g2 := bfrom hb0 (bfrom hb hb2)
    generalize strip (2^n-1) (lwL q ws n) = d at *
    refine (list_any d _ HD.out).mono ?_
    rintro e w5 ⟨A5, cap5, rfl, hown5, hb5⟩
    have HO5 := Lib.hid hown5
    clear hown5
    go_wp2
    go_ret2
    exact ⟨A5, cap5, by rw [HE.out, HGB.out]; rfl, by rw [HE.out]; exact owns_less HO5.out g2.size, bfrom g2 hb5⟩
  · have HGB := Lib.hid (goodB_false hg)
    clear hg
    go_enter Try.func29, Try.ntmps29
    go_wp2_with fail
    refine (isCommittee_any q A n cap ws _ hm (HK.out.now hb0)).mono ?_
    rintro e w1 ⟨rfl, hb⟩
    rw [HGB.out]
    go_wp2
    go_ret2
    rw [dummyL_no HGB.out, HGB.out]
    exact PairAt.none_ (bfrom hb0 hb)
theorem dummiesOf_ans (q : Int) (A : Option Addr) (n cap : Nat) (ws : List Int) (w : World) (hm : n ≤ 9223372036854775807) (hk : Known w A n ws) :
    Calls Try.prog 29 #[.agg #[.int .i64 q, .slice A n cap]] w fun e w' => Ans (RS (dummyL q ws n)) (goodB q ws n) w w' e := (dummiesOf_any q A n cap ws w hm hk).mono fun _ _ h => h.ans
end Go.Proofs.Ytldpdjnedoflcab
