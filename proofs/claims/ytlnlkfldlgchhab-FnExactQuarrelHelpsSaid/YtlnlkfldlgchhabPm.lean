/- Contract of the model's QuarrelHelps. -/
import Derived.Test.YtlnlkfldlgchhabPk
import Derived.Outline
namespace Go.Proofs.Ytlnlkfldlgchhab
open Go.RowKit Vo

set_option maxRecDepth 20000 in
set_option maxHeartbeats 4000000 in
theorem sQuarrelHelps_any (q : Int) (A : Option Addr) (n cap : Nat) (ws : List Int) (x y : Int) (w : World) (hm : n ≤ 9223372036854775807) (hk : Known w A n ws) (_hxw : (Lit.int .i64 x).wf = true) (_hyw : (Lit.int .i64 y).wf = true) :
    Calls Try.prog 42 #[.agg #[.int .i64 q, .slice A n cap], .int .i64 x, .int .i64 y] w fun e w' => PairAt (qhL q ws n x y) (pairOk q ws n x y) w w' e := by
  have HK := Lib.hid hk
  clear hk
  have hb0 := below1 w (.cells #[.int .i64 q, .slice A n cap] 29)
  have hx := Box.new w (.int .i64 q) (.slice A n cap)
  unfold qhL
  cases hok : pairOk q ws n x y with
  | false =>
    have HO := Lib.hid hok
    clear hok
    go_enter Try.func42, Try.ntmps42
    go_wp2_with fail
    refine (unPair_any q A n cap ws x y _ hm (HK.out.now hb0)).mono ?_
    rintro e w1 ⟨rfl, hb1⟩
    rw [HO.out]
    go_wp2
    go_ret2
    exact PairAt.none_ (bfrom hb0 hb1)
  | true =>
    obtain ⟨hg, hxb, hyb, _⟩ := pairOk_parts hok
    obtain ⟨i, rfl⟩ : ∃ i : Nat, x = i := ⟨x.toNat, by omega⟩
    obtain ⟨j, rfl⟩ : ∃ j : Nat, y = j := ⟨y.toNat, by omega⟩
    have HO := Lib.hid hok
    obtain ⟨b, off, rfl, hsl⟩ := HK.out.get hg.lo
    have HSL := Lib.hid hsl
    have HG := Lib.hid hg
    have hn9 := hg.hi
    have hn1 := hg.lo
    have hn10 : n < 10 := by omega
    have HLE := Lib.hid (fun k => quaN_le q ws n i j k)
    have HB5 := Lib.hid (show ∀ k, swingN q ws n k ≤ 512 from fun k => Nat.le_trans (cnt_le _ _) (pow_lt (n := n) (by omega)))
    have HV := Lib.hid (fun W (h : Sl W b off n ws) => voWins_any q b off n cap ws W hn10 HG.out.ok h)
    unfold WinsAt at HV
    have HQ := Lib.hid (fun W (h : Sl W b off n ws) => unQuarrel_any q b off n cap ws i j W hn10 (by omega) (by omega) HG.out.ok h)
    have HC1 := Lib.hid (fun g cap2 W (h : WinsIn (winB q ws n) n g W) => (show Calls Try.prog 77 #[.slice (some ⟨g, 0, none⟩) (2^n : Nat) cap2, .int .i64 n] W fun e w' => IntsAt (perL (swingN q ws n) n) W w' e from pwCounts_any (winB q ws n) n g cap2 W hn10 h))
    have HC2 := Lib.hid (fun g cap2 W (h : WinsIn (quaP (winB q ws n) i j) n g W) => (show Calls Try.prog 77 #[.slice (some ⟨g, 0, none⟩) (2^n : Nat) cap2, .int .i64 n] W fun e w' => IntsAt (perL (quaN q ws n i j) n) W w' e from pwCounts_any (quaP (winB q ws n) i j) n g cap2 W hn10 h))
    have HLN := Lib.hid (fun (f : Nat → Nat) => perL_len f n)
    obtain ⟨f, hf⟩ : ∃ f, f = quaN q ws n i j := ⟨_, rfl⟩
    rw [← hf] at HLE HC2
    obtain ⟨f', hf'⟩ : ∃ f', f' = swingN q ws n := ⟨_, rfl⟩
    rw [← hf'] at HLE HC1 HB5
    obtain ⟨p, hp⟩ : ∃ p, p = winB q ws n := ⟨_, rfl⟩
    rw [← hp] at HV HC1 HQ HC2
    obtain ⟨p', hp'⟩ : ∃ p', p' = quaP p i j := ⟨_, rfl⟩
    rw [← hp'] at HQ HC2
    unfold WinsIn at HQ HC1 HC2
    obtain ⟨N, hN⟩ : ∃ N, N = 2^n := ⟨_, rfl⟩
    rw [← hN] at HV HQ HC1 HC2
    clear hok hg hsl hf hf' hp hp' hN
    go_enter Try.func42, Try.ntmps42
    go_wp2_with fail
    refine (unPair_any q _ n cap ws i j _ hm (HK.out.now hb0)).mono ?_
    rintro e w1 ⟨rfl, hb1⟩
    rw [HO.out]
    have g1 := bfrom hb0 hb1
    have hx1 := hx.now hb1
    have hs1 := Lib.hid (HSL.out.now g1)
    clear hx hb0 hb1
    go_wp2_with fail
    go_region_held3 (fun w' => w'.cell? ⟨w.heap.size, 0, none⟩ = some (.int .i64 q) ∧ w'.cell? ⟨w.heap.size, 1, none⟩ = some (.slice (some ⟨b, off, none⟩) n cap))
      (first | exact hd | exact hd2 | exact hd3 | exact hd4 | exact hx1.cells | go_keep)
      (first
        | (go_at_call 59; refine (HV.out _ hs1.out.drew).mono ?_; rintro e w2 ⟨gA, capA, rfl, _, hownA, hb2⟩; have HOA := Lib.hid hownA; clear hownA; have hx2 := hx1.drew.now hb2; have hd := hx2.cells; have hs2 := Lib.hid (hs1.out.drew.now hb2))
        | (go_at_call 77; refine (HC2.out gB capB _ HOB.out).mono ?_; rintro e w5 ⟨A5, cap5, rfl, hown5, hb5⟩; have HO5 := Lib.hid hown5; clear hown5; have hd4 := (hx4.now hb5).cells)
        | (go_at_call 77; refine (HC1.out gA capA _ HOA.out).mono ?_; rintro e w3 ⟨A3, cap3, rfl, hown3, hb3⟩; have HO3 := Lib.hid hown3; clear hown3; have hx3 := hx2.now hb3; have hd2 := hx3.cells; have hs3 := Lib.hid (hs2.out.now hb3))
        | (go_at_call 78; refine (HQ.out _ hs3.out).mono ?_; rintro e w4 ⟨gB, capB, rfl, _, hownB, hb4⟩; have HOB := Lib.hid hownB; clear hownB; have hx4 := hx3.now hb4; have hd3 := hx4.cells)
        | fail)
    all_goals
      simp only [HLN.out]
      have hx5 := hx4.now hb5
      have g5 := bfrom (bfrom (bfrom (bfrom g1.drew hb2) hb3) hb4) hb5
      have h3 := HO3.out
      have h5 := HO5.out
      rw [HLN.out] at h3 h5
      obtain ⟨gC, rfl, hgC, hcC⟩ := row_reads f' h3 hn1 (fun k hk => owns_lt h3 hk)
      obtain ⟨gD, rfl, hgD, hcD⟩ := row_reads f h5 hn1 (fun k hk => owns_lt h5 hk)
      have HCC := Lib.hid (fun z (hz : z < n) => hcC w5 (hb4.trans (hb5.mono hb4.size)) z hz)
      have HCD := Lib.hid (fun z (hz : z < n) => hcD w5 (Below.refl _ _) z hz)
      clear h3 h5 hcC hcD hd hd2 hd3 hd4
      obtain ⟨c0, c1⟩ := hx5.cells
      go_wp2
      go_loopw [10, 11, 34] (fun h _ k wr => ∃ z : Nat, z ≤ n ∧ k = .int .i64 z ∧ h = .slice none 0 0 ∧ Below w5.heap.size w5 wr ∧ ∀ y, y < n → (wr.cell? ⟨gC, y, none⟩ = some (.int .i64 (f' y : Nat)) ∧ wr.cell? ⟨gD, y, none⟩ = some (.int .i64 (f y : Nat)))) (fun _ _ k _ => n - (intOf k).toNat)
      case atStart => exact ⟨0, Nat.zero_le _, rfl, rfl, Below.refl _ _, fun y hy => ⟨HCC.out y hy, HCD.out y hy⟩⟩
      case round =>
        obtain ⟨z, hz, rfl, rfl, hbr, hcr⟩ := hrel
        have HCR := Lib.hid hcr
        clear hcr
        by_cases hlt : z < n
        · obtain ⟨cA, cB⟩ := HCR.out z hlt
          have hle := HLE.out z
          have h5 := HB5.out z
          obtain ⟨a, ha⟩ : ∃ a, a = f z := ⟨_, rfl⟩
          obtain ⟨b', hb'⟩ : ∃ b', b' = f' z := ⟨_, rfl⟩
          rw [← ha] at cB hle
          rw [← hb'] at cA hle h5
          clear ha hb'
          go_wp2_with fail
          go_quiet (fail)
          go_wp2
          go_roundw
          case rel =>
            refine ⟨z + 1, by omega, by go_num, ?_⟩
            simp only [true_and]
            exact ⟨below_drewN hbr _, HCR.out⟩
          case measure => simp [intOf]; omega
        · obtain rfl : z = n := by omega
          go_wp2
          go_ret2
          exact pairAt_nil (bfrom g5 hbr)
theorem sQuarrelHelps_ans (q : Int) (A : Option Addr) (n cap : Nat) (ws : List Int) (x y : Int) (w : World) (hm : n ≤ 9223372036854775807) (hk : Known w A n ws) (hxw : (Lit.int .i64 x).wf = true) (hyw : (Lit.int .i64 y).wf = true) :
    Calls Try.prog 42 #[.agg #[.int .i64 q, .slice A n cap], .int .i64 x, .int .i64 y] w fun e w' => Ans (RS (qhL q ws n x y)) (pairOk q ws n x y) w w' e :=
  (sQuarrelHelps_any q A n cap ws x y w hm hk hxw hyw).mono fun _ _ h => h.ans
end Go.Proofs.Ytlnlkfldlgchhab
