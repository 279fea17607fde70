/- Contracts of SwingsOf, the program's and the model's. -/
import Derived.Test.YtlnlkfldlgchhaaN4
import Derived.Test.YtlnlkfldlgchhaaK1
import Derived.Deep.RegionHeld3
namespace Go.Proofs.Ytlnlkfldlgchhaa
open Go.RowKit Vo

/-- The function value (k, none bound), called with a committee, answers with these integers in memory of its own. -/
structure Lists (L : List Int) (k : Nat) (c : Value) (w : World) : Prop where
  enters : ∀ args W, (callFunc k args).run Try.prog W = .ok (.enter k args) W
  gives : ∀ (W : World), Below w.heap.size w W → Calls Try.prog k #[c] W fun e W' => IntsAt L W W' e
theorem Lists.now {L k c} {w w' : World} (h : Lists L k c w) (hb : Below w.heap.size w w') : Lists L k c w' := ⟨h.enters, fun W hb' => h.gives W (bfrom hb hb')⟩

def okL (ok : Bool) (L : List Int) : List Int := if ok then L else []
theorem okL_yes {ok L} (h : ok = true) : okL ok L = L := if_pos h
theorem okL_no {ok L} (h : ok = false) : okL ok L = [] := if_neg (by rw [h]; simp)
theorem okL_len {ok L} {N : Nat} (h : L.length ≤ N) : (okL ok L).length ≤ N := by unfold okL; split; exact h; simp

set_option maxHeartbeats 1000000 in
theorem numbersOf_any (L : List Int) (k : Nat) (q : Int) (A : Option Addr) (n cap : Nat) (ws : List Int) (w : World) (hm : n ≤ 9223372036854775807) (hk : Known w A n ws)
    (hl : Vo.Good q ws n → Lists L k (.agg #[.int .i64 q, .slice A n cap]) w) :
    Calls Try.prog 55 #[.agg #[.int .i64 q, .slice A n cap], .func (.func k) #[] #[]] w fun e w' => PairAt (okL (goodB q ws n) L) (goodB q ws n) w w' e := by
  have HK := Lib.hid hk
  clear hk
  have hx := Box.new w (.int .i64 q) (.slice A n cap)
  have hb0 := below1 w (.cells #[.int .i64 q, .slice A n cap] 28)
  by_cases hg : Vo.Good q ws n
  · have HL := Lib.hid (hl hg)
    have eg := (hl hg).enters
    have HGB := Lib.hid (goodB_true hg)
    clear hg hl
    go_enter Try.func55, Try.ntmps55
    go_wp2_with fail
    refine (isCommittee_any q _ n cap ws _ hm (HK.out.now hb0)).mono ?_
    rintro e w1 ⟨rfl, hb⟩
    rw [HGB.out]
    have g1 := bfrom hb0 hb
    obtain ⟨hc0, hc1⟩ := (hx.now hb).cells
    have HV := Lib.hid (okL_yes (L := L) HGB.out)
    go_wp2_with (go_at_fn k; refine (HL.out.gives _ g1).mono ?_; rintro e w2 ⟨A2, cap2, rfl, hown, hb2⟩; have HO := Lib.hid hown; clear hown)
    go_ret2
    exact ⟨A2, cap2, by rw [HV.out, HGB.out]; rfl, by rw [HV.out]; exact owns_less HO.out g1.size, bfrom g1 hb2⟩
  · have HGB := Lib.hid (goodB_false hg)
    clear hg hl
    go_enter Try.func55, Try.ntmps55
    go_wp2_with fail
    refine (isCommittee_any q A n cap ws _ hm (HK.out.now hb0)).mono ?_
    rintro e w1 ⟨rfl, hb⟩
    rw [HGB.out]
    go_wp2
    go_ret2
    rw [okL_no HGB.out, HGB.out]
    exact PairAt.none_ (bfrom hb0 hb)

/-- How many swings each member has. -/
def swingN (q : Int) (ws : List Int) (n : Nat) (k : Nat) : Nat := cnt (swP (winB q ws n) k) (2^n)
def swingsL (q : Int) (ws : List Int) (n : Nat) : List Int := okL (goodB q ws n) (perL (swingN q ws n) n)

theorem swings_lists (q : Int) (A : Option Addr) (n cap : Nat) (ws : List Int) (w : World) (hk : Known w A n ws) (hg : Vo.Good q ws n) :
    Lists (perL (swingN q ws n) n) 56 (.agg #[.int .i64 q, .slice A n cap]) w := by
  obtain ⟨b, off, rfl, hsl⟩ := hk.get hg.lo
  exact ⟨enters_of Try.func56 (by kernel_rfl) rfl, fun W hb => swings_any q b off n cap ws W (by have := hg.hi; omega) hg.ok (hsl.now hb)⟩

set_option maxHeartbeats 1000000 in
theorem swingsOf_any (q : Int) (A : Option Addr) (n cap : Nat) (ws : List Int) (w : World) (hm : n ≤ 9223372036854775807) (hk : Known w A n ws) :
    Calls Try.prog 18 #[.agg #[.int .i64 q, .slice A n cap]] w fun e w' => PairAt (swingsL q ws n) (goodB q ws n) w w' e := by
  have HK := Lib.hid hk
  have hb0 := below1 w (.cells #[.int .i64 q, .slice A n cap] 28)
  clear hk
  go_enter Try.func18, Try.ntmps18
  go_wp2_with fail
  refine (numbersOf_any (perL (swingN q ws n) n) _ q A n cap ws _ hm (HK.out.now hb0) (fun hg => swings_lists q A n cap ws _ (HK.out.now hb0) hg)).mono ?_
  rintro e w1 ⟨A2, cap2, rfl, hown, hb⟩
  have HO := Lib.hid hown
  clear hown
  go_wp2
  go_ret2
  exact ⟨A2, cap2, rfl, owns_less HO.out hb0.size, bfrom hb0 hb⟩

set_option maxHeartbeats 1000000 in
theorem sSwingsOf_any (q : Int) (A : Option Addr) (n cap : Nat) (ws : List Int) (w : World) (hm : n ≤ 9223372036854775807) (hk : Known w A n ws) :
    Calls Try.prog 16 #[.agg #[.int .i64 q, .slice A n cap]] w fun e w' => PairAt (swingsL q ws n) (goodB q ws n) w w' e := by
  have HK := Lib.hid hk
  clear hk
  have hx := Box.new w (.int .i64 q) (.slice A n cap)
  have hb0 := below1 w (.cells #[.int .i64 q, .slice A n cap] 28)
  by_cases hg : Vo.Good q ws n
  · obtain ⟨b, off, rfl, hsl⟩ := HK.out.get hg.lo
    have HSL := Lib.hid hsl
    have HOK := Lib.hid hg.ok
    have HGB := Lib.hid (goodB_true hg)
    have hn9 := hg.hi
    have hn10 : n < 10 := by omega
    clear hg hsl
    go_enter Try.func16, Try.ntmps16
    go_wp2_with fail
    refine (voGood_any q _ n cap ws _ hm (HK.out.now hb0)).mono ?_
    rintro e w1 ⟨rfl, hb⟩
    rw [HGB.out]
    have hx1 := hx.now hb
    have g1 := bfrom hb0 hb
    have hs1 := Lib.hid (HSL.out.now g1)
    obtain ⟨hc0, hc1⟩ := hx1.cells
    have HV := Lib.hid (show swingsL q ws n = perL (swingN q ws n) n from okL_yes HGB.out)
    go_wp2_with fail
    go_region_held3 (fun w' => w'.cell? ⟨w.heap.size, 0, none⟩ = some (.int .i64 q) ∧ w'.cell? ⟨w.heap.size, 1, none⟩ = some (.slice (some ⟨b, off, none⟩) n cap))
      (first | exact hd | exact hd2 | exact hx1.cells | go_keep)
      (first
        | (go_at_call 53; refine (voWins_any q b off n cap ws _ hn10 HOK.out hs1.out.drew).mono ?_; rintro e w2 ⟨g, cap2, rfl, hg, hown, hb2⟩; have HO := Lib.hid hown; clear hown; have hd := (hx1.drew.now hb2).cells)
        | (go_at_call 52; refine (pwCounts_any (winB q ws n) n g cap2 _ hn10 HO.out).mono ?_; rintro e w3 ⟨A3, cap3, rfl, hown3, hb3⟩; have HO3 := Lib.hid hown3; clear hown3; have hd2 := ((hx1.drew.now hb2).now hb3).cells))
    all_goals
      have g2 := bfrom g1.drew hb2
      have hz := g2.size
      go_wp2
      go_ret2
      exact ⟨A3, cap3, by rw [HV.out, HGB.out]; rfl, by rw [HV.out]; exact owns_less HO3.out hz, bfrom g2 hb3⟩
  · have HGB := Lib.hid (goodB_false hg)
    clear hg
    go_enter Try.func16, Try.ntmps16
    go_wp2_with fail
    refine (voGood_any q A n cap ws _ hm (HK.out.now hb0)).mono ?_
    rintro e w1 ⟨rfl, hb⟩
    rw [HGB.out]
    go_wp2
    go_ret2
    rw [show swingsL q ws n = [] from okL_no HGB.out, HGB.out]
    exact PairAt.none_ (bfrom hb0 hb)
theorem swingsL_len (q : Int) (ws : List Int) (n : Nat) : (swingsL q ws n).length ≤ 1048576 := by
  by_cases hg : Vo.Good q ws n
  · exact okL_len (by rw [perL_len]; have := hg.hi; omega)
  · unfold swingsL; rw [okL_no (goodB_false hg)]; simp
theorem swingsOf_ans (q : Int) (A : Option Addr) (n cap : Nat) (ws : List Int) (w : World) (hm : n ≤ 9223372036854775807) (hk : Known w A n ws) :
    Calls Try.prog 18 #[.agg #[.int .i64 q, .slice A n cap]] w fun e w' => Ans (RS (swingsL q ws n)) (goodB q ws n) w w' e := (swingsOf_any q A n cap ws w hm hk).mono fun _ _ h => h.ans
theorem sSwingsOf_ans (q : Int) (A : Option Addr) (n cap : Nat) (ws : List Int) (w : World) (hm : n ≤ 9223372036854775807) (hk : Known w A n ws) :
    Calls Try.prog 16 #[.agg #[.int .i64 q, .slice A n cap]] w fun e w' => Ans (RS (swingsL q ws n)) (goodB q ws n) w w' e := (sSwingsOf_any q A n cap ws w hm hk).mono fun _ _ h => h.ans
end Go.Proofs.Ytlnlkfldlgchhaa
