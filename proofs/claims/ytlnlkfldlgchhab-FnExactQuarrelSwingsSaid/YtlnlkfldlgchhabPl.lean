/- Contracts of the model's CountQuarrelWins, QuarrelSwings, QuarrelHelps. -/
import Derived.Test.YtlnlkfldlgchhabPk
import Derived.Outline
namespace Go.Proofs.Ytlnlkfldlgchhab
open Go.RowKit Vo

set_option maxRecDepth 20000 in
set_option maxHeartbeats 2000000 in
theorem sQuarrelSwings_any (q : Int) (A : Option Addr) (n cap : Nat) (ws : List Int) (x y : Int) (w : World) (hm : n ≤ 9223372036854775807) (hk : Known w A n ws) (_hx : (Lit.int .i64 x).wf = true) (_hy : (Lit.int .i64 y).wf = true) :
    Calls Try.prog 40 #[.agg #[.int .i64 q, .slice A n cap], .int .i64 x, .int .i64 y] w fun e w' => PairAt (quaL q ws n x y) (pairOk q ws n x y) w w' e := by
  have HK := Lib.hid hk
  clear hk
  have hb0 := below1 w (.cells #[.int .i64 q, .slice A n cap] 29)
  have hx := Box.new w (.int .i64 q) (.slice A n cap)
  cases hok : pairOk q ws n x y with
  | false =>
    have HV := Lib.hid (show quaL q ws n x y = [] from okL_no hok)
    have HO := Lib.hid hok
    clear hok
    go_enter Try.func40, Try.ntmps40
    go_wp2_with fail
    refine (unPair_any q A n cap ws x y _ hm (HK.out.now hb0)).mono ?_
    rintro e w1 ⟨rfl, hb1⟩
    rw [HO.out]
    go_wp2
    go_ret2
    rw [HV.out]
    exact PairAt.none_ (bfrom hb0 hb1)
  | true =>
    obtain ⟨hg, hxb, hyb, _⟩ := pairOk_parts hok
    obtain ⟨i, rfl⟩ : ∃ i : Nat, x = i := ⟨x.toNat, by omega⟩
    obtain ⟨j, rfl⟩ : ∃ j : Nat, y = j := ⟨y.toNat, by omega⟩
    have HV := Lib.hid (show quaL q ws n i j = perL (fun k => cnt (swP (quaP (winB q ws n) i j) k) (2^n)) n from by unfold quaL; rw [okL_yes hok, Int.toNat_natCast, Int.toNat_natCast]; rfl)
    have HO := Lib.hid hok
    obtain ⟨b, off, rfl, hsl⟩ := HK.out.get hg.lo
    have HSL := Lib.hid hsl
    have HG := Lib.hid hg
    have hn9 := hg.hi
    have hn10 : n < 10 := by omega
    have HQ := Lib.hid (fun W (h : Sl W b off n ws) => unQuarrel_any q b off n cap ws i j W hn10 (by omega) (by omega) HG.out.ok h)
    have HC := Lib.hid (fun g cap2 W (h : WinsIn (quaP (winB q ws n) i j) n g W) => pwCounts_any (quaP (winB q ws n) i j) n g cap2 W hn10 h)
    obtain ⟨p, hp⟩ : ∃ p, p = quaP (winB q ws n) i j := ⟨_, rfl⟩
    rw [← hp] at HQ HC HV
    obtain ⟨N, hN⟩ : ∃ N, N = 2^n := ⟨_, rfl⟩
    rw [← hN] at HQ HC HV
    clear hok hg hsl hp hN
    go_enter Try.func40, Try.ntmps40
    go_wp2_with fail
    refine (unPair_any q _ n cap ws i j _ hm (HK.out.now hb0)).mono ?_
    rintro e w1 ⟨rfl, hb1⟩
    rw [HO.out]
    have g1 := bfrom hb0 hb1
    have hx1 := hx.now hb1
    have hs1 := Lib.hid (HSL.out.now g1)
    go_wp2_with fail
    go_region_held3 (fun w' => w'.cell? ⟨w.heap.size, 0, none⟩ = some (.int .i64 q) ∧ w'.cell? ⟨w.heap.size, 1, none⟩ = some (.slice (some ⟨b, off, none⟩) n cap))
      (first | exact hd | exact hd2 | exact hx1.cells | go_keep)
      (first
        | (go_at_call 78; refine (HQ.out _ hs1.out.drew).mono ?_; rintro e w2 ⟨g, cap2, rfl, hg, hown, hb2⟩; have HO2 := Lib.hid hown; clear hown; have hd := (hx1.drew.now hb2).cells)
        | (go_at_call 77; refine (HC.out g cap2 _ HO2.out).mono ?_; rintro e w3 ⟨A3, cap3, rfl, hown3, hb3⟩; have HO3 := Lib.hid hown3; clear hown3; have hd2 := ((hx1.drew.now hb2).now hb3).cells))
    all_goals
      have g2 := bfrom g1.drew hb2
      have hz := g2.size
      go_wp2
      go_ret2
      exact ⟨A3, cap3, by rw [HV.out]; rfl, by rw [HV.out]; exact owns_less HO3.out hz, bfrom g2 hb3⟩
theorem sQuarrelSwings_ans (q : Int) (A : Option Addr) (n cap : Nat) (ws : List Int) (x y : Int) (w : World) (hm : n ≤ 9223372036854775807) (hk : Known w A n ws) (hxw : (Lit.int .i64 x).wf = true) (hyw : (Lit.int .i64 y).wf = true) :
    Calls Try.prog 40 #[.agg #[.int .i64 q, .slice A n cap], .int .i64 x, .int .i64 y] w fun e w' => Ans (RS (quaL q ws n x y)) (pairOk q ws n x y) w w' e :=
  (sQuarrelSwings_any q A n cap ws x y w hm hk hxw hyw).mono fun _ _ h => h.ans
end Go.Proofs.Ytlnlkfldlgchhab
