/- Contract of the program's QuarrelHelps. -/
import Derived.Test.YtlnlkfldlgchhabPi
import Derived.Test.YtlnlkfldlgchhabN8
namespace Go.Proofs.Ytlnlkfldlgchhab
open Go.RowKit Vo

/-- No member has more swings then. -/
def qhL (_q : Int) (_ws : List Int) (_n : Nat) (_x _y : Int) : List Int := []
theorem qhL_len (q : Int) (ws : List Int) (n : Nat) (x y : Int) : (qhL q ws n x y).length ≤ 1048576 := by simp [qhL]

theorem pairAt_nil {ok : Bool} {w w' : World} (hb : Below w.heap.size w w') : PairAt [] ok w w' (.returned (.tuple #[.slice none 0 0, .bool ok])) :=
  ⟨none, 0, rfl, World.ownsRow_nil _ _ _ _, hb⟩

set_option maxRecDepth 20000 in
set_option maxHeartbeats 2000000 in
theorem quarrelHelps_any (q : Int) (A : Option Addr) (n cap : Nat) (ws : List Int) (x y : Int) (w : World) (hm : n ≤ 9223372036854775807) (hk : Known w A n ws) (hxw : (Lit.int .i64 x).wf = true) (hyw : (Lit.int .i64 y).wf = true) :
    Calls Try.prog 43 #[.agg #[.int .i64 q, .slice A n cap], .int .i64 x, .int .i64 y] w fun e w' => PairAt (qhL q ws n x y) (pairOk q ws n x y) w w' e := by
  have HK := Lib.hid hk
  clear hk
  have hb0 := below1 w (.cells #[.int .i64 q, .slice A n cap] 29)
  have hx := Box.new w (.int .i64 q) (.slice A n cap)
  unfold qhL
  cases hok : pairOk q ws n x y with
  | false =>
    have HV := Lib.hid (show quaL q ws n x y = [] from okL_no hok)
    have HO := Lib.hid hok
    clear hok
    go_enter Try.func43, Try.ntmps43
    go_wp2_with fail
    refine (quarrelSwings_any q A n cap ws x y _ hm (HK.out.now hb0) hxw hyw).mono ?_
    rintro e w1 ⟨A1, cap1, rfl, _, hb1⟩
    rw [HO.out]
    have g1 := bfrom hb0 hb1
    go_wp2
    go_ret2
    exact PairAt.none_ g1
  | true =>
    obtain ⟨hg, hxb, hyb, _⟩ := pairOk_parts hok
    have HV := Lib.hid (show quaL q ws n x y = perL (quaN q ws n x.toNat y.toNat) n from okL_yes hok)
    have HO := Lib.hid hok
    obtain ⟨b, off, rfl, hsl⟩ := HK.out.get hg.lo
    have HSL := Lib.hid hsl
    have HG := Lib.hid hg
    have hn9 := hg.hi
    have hn1 := hg.lo
    have hn10 : n < 10 := by omega
    have HLE := Lib.hid (fun k => quaN_le q ws n x.toNat y.toNat k)
    have HB5 := Lib.hid (show ∀ k, swingN q ws n k ≤ 512 from fun k => Nat.le_trans (cnt_le _ _) (pow_lt (n := n) (by omega)))
    obtain ⟨f, hf⟩ : ∃ f, f = quaN q ws n x.toNat y.toNat := ⟨_, rfl⟩
    rw [← hf] at HV HLE
    have HSW := Lib.hid (fun W (h : Sl W b off n ws) => swings_any q b off n cap ws W hn10 HG.out.ok h)
    have HLN := Lib.hid (fun (f : Nat → Nat) => perL_len f n)
    clear hok hg hsl hf
    go_enter Try.func43, Try.ntmps43
    go_wp2_with fail
    refine (quarrelSwings_any q _ n cap ws x y _ hm (HK.out.now hb0) hxw hyw).mono ?_
    rintro e w1 ⟨A1, cap1, rfl, hown1, hb1⟩
    rw [HV.out, HLN.out] at hown1
    rw [HV.out, HLN.out, HO.out]
    have g1 := bfrom hb0 hb1
    have hx1 := hx.now hb1
    obtain ⟨gA, rfl, hgA, hcA⟩ := row_reads f hown1 hn1 (fun k hk => owns_lt hown1 hk)
    have HCA := Lib.hid hcA
    obtain ⟨c0, c1⟩ := hx1.cells
    clear hown1 hcA hx hb0 hb1
    go_wp2_with fail
    refine (HSW.out _ (HSL.out.now g1)).mono ?_
    rintro e w2 ⟨A2, cap2, rfl, hown2, hb2⟩
    rw [HLN.out] at hown2
    rw [HLN.out]
    have g2 := bfrom g1 hb2
    obtain ⟨gB, rfl, hgB, hcB⟩ := row_reads (swingN q ws n) hown2 hn1 (fun k hk => owns_lt hown2 hk)
    have HCB := Lib.hid hcB
    obtain ⟨f', hf'⟩ : ∃ f', f' = swingN q ws n := ⟨_, rfl⟩
    rw [← hf'] at HCB HLE HB5
    clear hown2 hcB hf' c0 c1
    go_wp2
    go_loopw [10, 11, 12, 25] (fun h _ _ i wr => ∃ j : Nat, j ≤ n ∧ i = .int .i64 j ∧ h = .slice none 0 0 ∧ wr = w2) (fun _ _ _ i _ => n - (intOf i).toNat)
    case atStart => exact ⟨0, Nat.zero_le _, rfl, rfl, rfl⟩
    case round =>
      obtain ⟨j, hj, rfl, rfl, rfl⟩ := hrel
      by_cases hlt : j < n
      · have cA := HCA.out _ hb2 j hlt
        have cB := HCB.out _ (Below.refl _ _) j hlt
        have hle := HLE.out j
        have h5 := HB5.out j
        generalize f j = a at *
        generalize f' j = b' at *
        go_wp2
        go_roundw
        case rel => exact ⟨j + 1, by omega, by go_num, by simp⟩
        case measure => simp [intOf]; omega
      · obtain rfl : j = n := by omega
        go_wp2
        go_ret2
        exact pairAt_nil g2
theorem quarrelHelps_ans (q : Int) (A : Option Addr) (n cap : Nat) (ws : List Int) (x y : Int) (w : World) (hm : n ≤ 9223372036854775807) (hk : Known w A n ws) (hxw : (Lit.int .i64 x).wf = true) (hyw : (Lit.int .i64 y).wf = true) :
    Calls Try.prog 43 #[.agg #[.int .i64 q, .slice A n cap], .int .i64 x, .int .i64 y] w fun e w' => Ans (RS (qhL q ws n x y)) (pairOk q ws n x y) w w' e :=
  (quarrelHelps_any q A n cap ws x y w hm hk hxw hyw).mono fun _ _ h => h.ans
theorem quarrelSwings_ans (q : Int) (A : Option Addr) (n cap : Nat) (ws : List Int) (x y : Int) (w : World) (hm : n ≤ 9223372036854775807) (hk : Known w A n ws) (hxw : (Lit.int .i64 x).wf = true) (hyw : (Lit.int .i64 y).wf = true) :
    Calls Try.prog 41 #[.agg #[.int .i64 q, .slice A n cap], .int .i64 x, .int .i64 y] w fun e w' => Ans (RS (quaL q ws n x y)) (pairOk q ws n x y) w w' e :=
  (quarrelSwings_any q A n cap ws x y w hm hk hxw hyw).mono fun _ _ h => h.ans
end Go.Proofs.Ytlnlkfldlgchhab
