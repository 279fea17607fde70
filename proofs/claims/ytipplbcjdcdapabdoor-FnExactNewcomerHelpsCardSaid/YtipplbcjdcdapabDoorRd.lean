/- Contract of the model's NewcomerHelps. -/
import Derived.Test.YtipplbcjdcdapabDoorRc
import Derived.Test.YtipplbcjdcdapabDoorPq
import Derived.Test.YtipplbcjdcdapabDoorPy
import Derived.Outline
namespace Go.Proofs.YtipplbcjdcdapabDoor
open Go.RowKit Vo

/-- How much the member j gains by the newcomer. -/
def helpV (q : Int) (ws : List Int) (n : Nat) (x : Int) (j : Nat) : Int := sgn ((swingN q (addL ws n x) (n + 1) j : Int) * swS q ws n - (swingN q ws n j : Int) * swS q (addL ws n x) (n + 1))
theorem helpB_one {q : Int} {ws : List Int} {n : Nat} {x : Int} {j : Nat} (hj : j < n) (hn : n ≤ 9) : helpB q ws n x (2^j) = decide (0 < helpV q ws n x j) := by
  unfold helpB helpV gainV
  rw [first_one (by omega), partN_one _ hj, partN_one _ (show j < n + 1 by omega)]

set_option maxRecDepth 20000 in
set_option maxHeartbeats 6000000 in
theorem sNewcomerHelps_any (q : Int) (A : Option Addr) (n cap : Nat) (ws : List Int) (x : Int) (w : World) (hm : n ≤ 9223372036854775807) (hk : Known w A n ws) (_hxw : (Lit.int .i64 x).wf = true) :
    Calls Tryd.prog 5 #[.agg #[.int .i64 q, .slice A n cap], .int .i64 x] w fun e w' => PairAt (nhL q ws n x) (addOk q q ws n x) w w' e := by
  have HK := Lib.hid hk
  clear hk
  obtain ⟨i0, hi0, hz0, hz1, hz2⟩ := infoIntParts
  have hb0 := below1 w (.cells #[.int .i64 q, .slice A n cap] 28)
  have hx := Box.new w (.int .i64 q) (.slice A n cap)
  cases hok : addOk q q ws n x with
  | false =>
    have HV := Lib.hid (show nhL q ws n x = [] from okL_no hok)
    have HO := Lib.hid hok
    clear hok
    go_enter Tryd.func5, Tryd.ntmps5
    go_wp2_with fail
    refine (unNew_any q A n cap ws x _ hm (HK.out.now hb0)).mono ?_
    rintro e w1 ⟨rfl, hb1⟩
    rw [HO.out]
    go_wp2
    go_ret2
    rw [HV.out]
    exact PairAt.none_ (bfrom hb0 hb1)
  | true =>
    obtain ⟨hg, hg'⟩ := addOk_parts hok
    have HO := Lib.hid hok
    have HV := Lib.hid (show nhL q ws n x = aloneL (helpB q ws n x) n from okL_yes hok)
    obtain ⟨b, off, rfl, hsl⟩ := HK.out.get hg.lo
    have HSL := Lib.hid hsl
    have hn9 := hg.hi
    have hn1 := hg.lo
    have HUA := Lib.hid (fun W (h : Sl W b off n ws) => unAdd_any q b off n cap ws x W hn1 hn9 h)
    have HS1 := Lib.hid (show ∀ (j : Nat), j < n → ∀ b2 W, Known W (some ⟨b, off, none⟩) n ws → Sl W b2 0 1 [(j : Int)] → Calls Tryd.prog 15 #[.agg #[.int .i64 q, .slice (some ⟨b, off, none⟩) n cap], .slice (some ⟨b2, 0, none⟩) 1 1] W fun e w' => e = .returned (.tuple #[.int .i64 (swingN q ws n j : Nat), .int .i64 (swS q ws n : Nat)]) ∧ Below W.heap.size W w' from fun j hj b2 W h1 h2 => by
      have h := unSwings_any q (some ⟨b, off, none⟩) n cap ws b2 0 1 1 [(j : Int)] W hg h1 (by omega) h2 (one_in hj)
      rw [setN_one] at h
      exact h)
    have HS2 := Lib.hid (show ∀ (j : Nat), j < n → ∀ g gp b2 W, Known W (some ⟨g, 0, none⟩) (n + 1) (addL ws n x) → Sl W b2 0 1 [(j : Int)] → Calls Tryd.prog 15 #[.agg #[.int .i64 q, .slice (some ⟨g, 0, none⟩) (n + 1) gp], .slice (some ⟨b2, 0, none⟩) 1 1] W fun e w' => e = .returned (.tuple #[.int .i64 (swingN q (addL ws n x) (n + 1) j : Nat), .int .i64 (swS q (addL ws n x) (n + 1) : Nat)]) ∧ Below W.heap.size W w' from fun j hj g gp b2 W h1 h2 => by
      have h := unSwings_any q (some ⟨g, 0, none⟩) (n + 1) gp (addL ws n x) b2 0 1 1 [(j : Int)] W hg' h1 (by omega) h2 (one_in (by omega))
      rw [setN_one] at h
      exact h)
    have HUG := Lib.hid (show ∀ (j : Nat) W, Calls Tryd.prog 17 #[.int .i64 (swingN q ws n j : Nat), .int .i64 (swS q ws n : Nat), .int .i64 (swingN q (addL ws n x) (n + 1) j : Nat), .int .i64 (swS q (addL ws n x) (n + 1) : Nat)] W fun e w' => e = .returned (.int .i64 (helpV q ws n x j)) ∧ W = w' from fun j W => by
      refine unGain_any (swingN q ws n j) (swS q ws n) (swingN q (addL ws n x) (n + 1) j) (swS q (addL ws n x) (n + 1)) W ?_ ?_ ?_ ?_
      · have := swingN_le q ws n j hn9; omega
      · have := swS_le (q := q) (ws := ws) hn9; omega
      · have := swingN_le q (addL ws n x) (n + 1) j hg'.hi; omega
      · have := swS_le (q := q) (ws := addL ws n x) hg'.hi; omega)
    have HB := Lib.hid (show ∀ j, j < n → helpB q ws n x (2^j) = decide (0 < helpV q ws n x j) from fun j hj => helpB_one hj hn9)
    obtain ⟨p, hp⟩ : ∃ p, p = helpB q ws n x := ⟨_, rfl⟩
    rw [← hp] at HB HV
    obtain ⟨V, hV⟩ : ∃ V, V = helpV q ws n x := ⟨_, rfl⟩
    rw [← hV] at HB HUG
    generalize swS q (addL ws n x) (n + 1) = s1 at *
    generalize swS q ws n = s0 at *
    obtain ⟨f1, hf1⟩ : ∃ f1, f1 = swingN q (addL ws n x) (n + 1) := ⟨_, rfl⟩
    rw [← hf1] at HS2 HUG
    obtain ⟨f0, hf0⟩ : ∃ f0, f0 = swingN q ws n := ⟨_, rfl⟩
    rw [← hf0] at HS1 HUG
    obtain ⟨L, hL⟩ : ∃ L, L = addL ws n x := ⟨_, rfl⟩
    rw [← hL] at HUA HS2
    clear hok hg hg' hsl hp hV hf1 hf0 hL
    go_enter Tryd.func5, Tryd.ntmps5
    go_wp2_with fail
    refine (unNew_any q _ n cap ws x _ hm (HK.out.now hb0)).mono ?_
    rintro e w1 ⟨rfl, hb1⟩
    rw [HO.out]
    have g1 := bfrom hb0 hb1
    have hx1 := hx.now hb1
    obtain ⟨c0, c1⟩ := hx1.cells
    have hxk : w.heap.size + 1 ≤ w1.heap.size := hx1.lt
    have HO1 := Lib.hid (World.ownsRow_nil w1 (w.heap.size + 1) 3 1)
    go_wp2_with fail
    clear hx hb0 hb1 c0 c1
    go_loopw [6, 7, 8, 9, 10, 11, 19] (fun u _ _ _ _ _ k wr => ∃ (j : Nat) (A : Option Addr) (cp : Nat), j ≤ n ∧ k = .int .i64 j ∧ u = .slice A (aloneL p j).length cp ∧ wr.ownsRow (w.heap.size + 1) 3 1 (.slice A (aloneL p j).length cp) (aloneL p j).length ((aloneL p j).map (Value.int .i64)) ∧ Below (w.heap.size + 1) w1 wr) (fun _ _ _ _ _ _ k _ => n - (intOf k).toNat)
    case atStart => exact ⟨0, none, 0, Nat.zero_le _, rfl, rfl, HO1.out, Below.refl _ _⟩
    case round =>
      obtain ⟨j, A, cp, hj, rfl, rfl, hown, hbr⟩ := hrel
      have HOW := Lib.hid hown
      have hwr : Below w.heap.size w wr := g1.trans (hbr.mono (Nat.le_succ _))
      have hxr := hx1.of_below hbr (Nat.lt_succ_self _)
      have hszr : w.heap.size + 1 ≤ wr.heap.size := Nat.le_trans hxk hbr.size
      have hlen : (aloneL p j).length ≤ j := aloneB_len p j
      obtain ⟨c0, c1⟩ := hxr.cells
      clear hown
      by_cases hlt : j < n
      · have hjn : (j : Int) < n := by omega
        have HS1J := Lib.hid (HS1.out j hlt)
        have HS2J := Lib.hid (HS2.out j hlt)
        have HUGJ := Lib.hid (HUG.out j)
        have HBJ := Lib.hid (HB.out j hlt)
        generalize f0 j = a at *
        generalize f1 j = a' at *
        obtain ⟨v, hv⟩ : ∃ v, v = V j := ⟨_, rfl⟩
        rw [← hv] at HUGJ HBJ
        obtain ⟨ln, hln⟩ : ∃ ln, ln = (aloneL p j).length := ⟨_, rfl⟩
        rw [← hln] at HOW hlen
        rw [← hln]
        have HLN := Lib.hid hln
        clear hv hln
        have b2 := below1 wr (.cells #[.int .i64 j] 3)
        have hl2 := Lib.hid (lit1_sl wr j)
        have HK2 := Lib.hid (HK.out.now (bfrom hwr b2))
        go_wp2_with fail
        refine (HS1J.out _ _ HK2.out hl2.out).mono ?_
        rintro e w3 ⟨rfl, hb3⟩
        have br3 := bfrom b2 hb3
        have hx3 := hxr.now br3
        have b3 := bfrom hwr br3
        clear c0 c1 hl2 HK2
        obtain ⟨c0, c1⟩ := hx3.cells
        go_wp2_with fail
        refine (HUA.out _ (HSL.out.now b3)).mono ?_
        rintro e w4 ⟨g, gp, rfl, hge, hI, hb4⟩
        have b5 := below1 w4 (.cells #[.int .i64 j] 3)
        have hl5 := Lib.hid (lit1_sl w4 j)
        have HK5 := Lib.hid ((Known.of (Ints.sl hI)).now b5)
        clear hI
        go_wp2_with fail
        refine (HS2J.out _ gp _ _ HK5.out hl5.out).mono ?_
        rintro e w6 ⟨rfl, hb6⟩
        have br6 := bfrom br3 (bfrom hb4 (bfrom b5 hb6))
        have b6 : Below (w.heap.size + 1) w1 w6 := hbr.trans (br6.mono hszr)
        have O6 := Lib.hid (owns_now HOW.out br6)
        have hz6 : w.heap.size + 1 ≤ w6.heap.size := Nat.le_trans hszr br6.size
        clear hl5 HK5 c0 c1
        go_wp2_with fail
        refine (HUGJ.out _).mono ?_
        rintro e w7 ⟨rfl, rfl⟩
        by_cases hpos : 0 < v
        · have HS := Lib.hid (show aloneL p (j+1) = aloneL p j ++ [(j : Int)] from by simp only [aloneL]; rw [HBJ.out, decide_eq_true hpos]; rfl)
          clear HBJ
          go_wp2_with (first
            | (at_builtin; refine wpList_append_lies _ rfl _ _ _ rfl (w.heap.size + 1) 3 i0 _ 1 8 Tryd.underlying22 hi0 hz0 hz1 hz2 rfl (by decide) (.slice A ln cp) ln ((aloneL p j).map (Value.int .i64)) rfl (O6.out.alloc _) ⟨w6.heap.size, 0, none⟩ 1 1 [.int .i64 j] rfl rfl (World.news_of_block (cs := #[.int .i64 j]) (t := 3) (fr := (0, 0)) (heap_alloc_new w6 _)) (by simp [Value.oneCell']) (by omega) (by unfold maxLen; omega) (by omega) (by simp; omega) (w6.heap.size + 1) (by simp) ?_; intro gg cap4 w8 hown8 hgrow8 hat hlt8)
            | fail)
          have b8 : Below (w.heap.size + 1) w1 w8 := (b6.alloc hz6 (.cells #[.int .i64 j] 3)).grown hgrow8 (by simp; omega) fun i hi => owns_le O6.out hi
          go_roundw
          case rel => exact ⟨j + 1, some ⟨gg, 0, none⟩, cap4, by omega, by go_num, by rw [HS.out, HLN.out]; simp, by rw [HS.out]; simpa [HLN.out] using hown8, b8⟩
          case measure => simp [intOf]; omega
        · have HS := Lib.hid (show aloneL p (j+1) = aloneL p j from by simp only [aloneL]; rw [HBJ.out, decide_eq_false hpos]; simp)
          clear HBJ
          go_wp2_with fail
          go_roundw
          case rel => exact ⟨j + 1, A, cp, by omega, by go_num, by rw [HS.out, HLN.out], by rw [HS.out, ← HLN.out]; exact O6.out, b6⟩
          case measure => simp [intOf]; omega
      · obtain rfl : j = n := by omega
        have hjn : ¬ ((j : Int) < j) := by omega
        go_wp2
        go_ret2
        exact ⟨A, cp, by rw [HV.out]; rfl, by rw [HV.out]; exact owns_less HOW.out (Nat.le_succ _), hwr⟩
theorem sNewcomerHelps_ans (q : Int) (A : Option Addr) (n cap : Nat) (ws : List Int) (x : Int) (w : World) (hm : n ≤ 9223372036854775807) (hk : Known w A n ws) (hxw : (Lit.int .i64 x).wf = true) :
    Calls Tryd.prog 5 #[.agg #[.int .i64 q, .slice A n cap], .int .i64 x] w fun e w' => Ans (RS (nhL q ws n x)) (addOk q q ws n x) w w' e := (sNewcomerHelps_any q A n cap ws x w hm hk hxw).mono fun _ _ h => h.ans
end Go.Proofs.YtipplbcjdcdapabDoor
