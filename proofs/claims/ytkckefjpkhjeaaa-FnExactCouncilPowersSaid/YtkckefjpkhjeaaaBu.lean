/- Contract of the model's powers of councils. -/
import Derived.Test.YtkckefjpkhjeaaaBt
namespace Go.Proofs.Ytkckefjpkhjeaaa
open Go.RowKit Vo

set_option maxRecDepth 20000 in
set_option maxHeartbeats 4000000 in
theorem sCouncilPowers_ans (q : Int) (A : Option Addr) (n cap : Nat) (ws : List Int) (A2 : Option Addr) (k cp : Nat) (C : List (Int × List Int)) (w : World) (hm : n ≤ 9223372036854775807) (hk : Known w A n ws) (hm2 : k ≤ 9223372036854775807) (hk2 : KCS w A2 k C) (hT : csum C k ≤ 1048576) :
    Calls Try.prog 55 #[.agg #[.int .i64 q, .slice A n cap], .slice A2 k cp] w fun e w' => Ans (RSh (cpwL q ws n C)) (cnB q ws n C) w w' e := by
  obtain ⟨i0, hi0, hz0, hz1, hz2⟩ := info_parts infoShare
  have hb0 := below1 w (.cells #[.int .i64 q, .slice A n cap] 47)
  have hx := Box.new w (.int .i64 q) (.slice A n cap)
  obtain ⟨c0, c1⟩ := hx.cells
  have HAC := Lib.hid (sAreCouncil_any q A n cap ws A2 k cp C _ hm (hk.now hb0) hm2 (hk2.now hb0) hT)
  cases hc : cnB q ws n C with
  | false =>
    have HC := Lib.hid hc
    have HL := Lib.hid (cpwL_no hc)
    rw [HL.out]
    clear hk hk2 hc
    go_enter Try.func55, Try.ntmps55
    go_wp2_with fail
    refine HAC.out.mono ?_
    rintro e w1 ⟨rfl, hb1⟩
    rw [HC.out]
    go_wp2
    go_ret2
    exact (ShAt.none_ (bfrom hb0 hb1)).ans
  | true =>
    obtain ⟨hkn, hco⟩ := council_of hk hk2 hc
    subst hkn
    have hT9 := hco.few
    have hT1 := csum_pos hco.good.lo hco.each
    have HC := Lib.hid hc
    have HCI := Lib.hid (cmI_yes (C := C) (n := k) (allK_iff.2 fun i hi => decide_eq_true (hco.each i hi)))
    have HCM := Lib.hid (fun W (hb : Below w.heap.size w W) => chMembers_any A2 k cp C W hm hT (hk2.now hb))
    rw [HCI.out] at HCM
    have HCC := Lib.hid (fun W (hb : Below w.heap.size w W) => chCouncil_any q A k cap ws A2 cp C W hm (hco.now hb))
    simp only [TableAt] at HCC
    have HL := Lib.hid (cpwL_yes hc)
    have HF := Lib.hid (show ∀ j, j < csum C k → cpwN q ws k C j < 4611686018427387904 from fun j _ => by
      have := cnt_le (swP (councilP q ws k C) j) (2 ^ csum C k)
      have := pow_lt (n := csum C k) hT9
      unfold cpwN; omega)
    have HN := Lib.hid (show ∀ j, cnt (swP (councilP q ws k C) j) (2 ^ csum C k) = cpwN q ws k C j from fun _ => rfl)
    rw [HL.out]
    clear hk hk2 hc hco HL HCI hT
    obtain ⟨T, hTe⟩ : ∃ z, z = csum C k := ⟨_, rfl⟩
    rw [← hTe] at hT9 hT1 ⊢
    simp only [← hTe] at HCM HCC HF HN
    clear hTe
    obtain ⟨f, hf⟩ : ∃ z, z = cpwN q ws k C := ⟨_, rfl⟩
    rw [← hf]
    simp only [← hf] at HF HN
    have HPC := Lib.hid (fun g2 cap2 W h => pwCounts_any (councilP q ws k C) T g2 cap2 W (by omega) h)
    have HPF := Lib.hid (show perL (fun j => cnt (swP (councilP q ws k C) j) (2 ^ T)) T = perL f T from by
      unfold perL
      exact List.map_congr_left fun j _ => congrArg (fun z : Nat => (z : Int)) (HN.out j))
    rw [HPF.out] at HPC
    simp only [WinsIn, IntsAt, perL_len] at HPC
    clear hf
    have hsh := shl_pow (T - 1) (by omega)
    have hcast : ((T : Int) - 1) = ((T - 1 : Nat) : Int) := by omega
    have hD0 := Nat.two_pow_pos (T - 1)
    have hD1 : 2 ^ (T - 1) ≤ 512 := pow_lt (n := T - 1) (by omega)
    obtain ⟨D, hD⟩ : ∃ z, z = 2 ^ (T - 1) := ⟨_, rfl⟩
    rw [← hD] at hD0 hD1 hsh ⊢
    clear hD
    obtain ⟨N, hN⟩ : ∃ z, z = 2 ^ T := ⟨_, rfl⟩
    simp only [← hN] at HCC HPC
    clear hN
    have HSL := Lib.hid (shL_len f D T)
    go_enter Try.func55, Try.ntmps55
    go_wp2_with (first
      | (go_at_call 46; refine HAC.out.mono ?_; rintro e w1 ⟨rfl, hb1⟩; rw [HC.out]; have g1 := bfrom hb0 hb1; have hx1 := hx.now hb1)
      | (go_at_call 94; refine (HCM.out _ g1).mono ?_; rintro e w2 ⟨rfl, hb2⟩; have g2 := bfrom g1 hb2; obtain ⟨d0, d1⟩ := (hx1.now hb2).cells)
      | (go_at_call 96; refine (HCC.out _ g2).mono ?_; rintro e w3 ⟨g, cap3, rfl, hg3, ho3, hb3⟩; have HO3 := Lib.hid ho3; clear ho3; have g3 := bfrom g2 hb3)
      | (go_at_call 92; refine (HPC.out g cap3 _ HO3.out).mono ?_; rintro e w4 ⟨B4, c4, rfl, hown4, hb4⟩; have HO4 := Lib.hid hown4; clear hown4; have g4 := bfrom g3 hb4)
      | fail)
    obtain ⟨gA, c4', hv, hgA, _, _⟩ := owns_head HO4.out (by omega)
    obtain ⟨rfl, rfl⟩ : B4 = some ⟨gA, 0, none⟩ ∧ c4 = c4' := by simpa using hv
    have HOI := Lib.hid (show Own w4 gA 3 T (fun i => .int .i64 (f i : Nat)) from Own.of_own HO4.out fun i hi => by simp [perL, hi])
    have hglA := HOI.out.lt
    have hz4 : w.heap.size ≤ w4.heap.size := g4.size
    clear hx c0 c1 hx1 d0 d1
    go_loopw [7, 9, 22] (fun v _ i wr => ∃ (j : Nat) (B : Option Addr) (cp : Nat), j ≤ T ∧ i = .int .i64 j ∧ v = .slice B j cp ∧ wr.ownsRow w4.heap.size 112 2 (.slice B j cp) j (shV (shL f D j)) ∧ Below w4.heap.size w4 wr) (fun _ _ i _ => T - (intOf i).toNat)
    case atStart => exact ⟨0, none, 0, Nat.zero_le _, rfl, rfl, World.ownsRow_nil _ _ _ _, Below.refl _ _⟩
    case round =>
      obtain ⟨j, B, cp, hj, rfl, rfl, hown, hbr⟩ := hrel
      have HO := Lib.hid hown
      have hszr := hbr.size
      clear hown
      by_cases hlt : j < T
      · have hcell := (HOI.out.below hbr hglA).cell hlt
        have HS := Lib.hid (shL_succ f D j)
        have hfj := HF.out j hlt
        have HLT := Lib.hid (fun W => pwShare_any (f j) D W hD0 hfj (by omega))
        have HSH := Lib.hid (show share1 (f j) D = (((f j / Nat.gcd (f j) D : Nat) : Int), ((D / Nat.gcd (f j) D : Nat) : Int)) from rfl)
        generalize f j / Nat.gcd (f j) D = a at *
        generalize D / Nat.gcd (f j) D = bb at *
        go_wp2_with (first
          | (go_at_call 103; refine (HLT.out _).mono ?_; rintro e w5 ⟨rfl, hb5⟩; have HO5 := Lib.hid (owns_now HO.out hb5); have b5 := hbr.trans (hb5.mono hszr); have hsz5 := b5.size)
          | (at_builtin; refine wpList_append_lies _ rfl _ _ _ rfl w4.heap.size 112 i0 _ 2 16 Try.underlying63 hi0 hz0 hz1 hz2 rfl (by decide) (.slice B j cp) j (shV (shL f D j)) rfl (HO5.out.alloc _) ⟨w5.heap.size, 0, none⟩ 1 1 [.int .i64 a, .int .i64 bb] rfl rfl (World.news_of_block (cs := #[.int .i64 a, .int .i64 bb]) (t := 112) (fr := (0, 0)) (heap_alloc_new w5 _)) (by simp [Value.oneCell']) (by omega) (by unfold maxLen; omega) (by omega) (by simp; omega) (w5.heap.size + 1) (by simp) ?_; intro gg cap4 w6 hown6 hgrow6 hat hlt6)
          | fail)
        have b6 : Below w4.heap.size w4 w6 := (b5.alloc hsz5 (.cells #[.int .i64 a, .int .i64 bb] 112)).grown hgrow6 (by simp; omega) fun i hi => owns_le HO5.out hi
        go_roundw
        case rel => exact ⟨j + 1, some ⟨gg, 0, none⟩, cap4, by omega, by go_num, by simp, by rw [HS.out, shV_append, HSH.out]; simpa [shV] using hown6, b6⟩
        case measure => simp [intOf]; omega
      · obtain rfl : T = j := by omega
        go_wp2
        go_ret2
        exact ShAt.ans ⟨B, cp, by rw [HSL.out]; rfl, by rw [HSL.out]; exact owns_less HO.out hz4, bfrom g4 hbr⟩
theorem council_few (q : Int) (ws : List Int) (n : Nat) (C : List (Int × List Int)) (p : Nat → Bool) : tot (okG (cnB q ws n C) ((inOrder (csum C n)).filter p)) + (okG (cnB q ws n C) ((inOrder (csum C n)).filter p)).length ≤ 1048576 :=
  okG_few fun h => inOrder_few (by have := (cnB_parts h).2.2.1; omega)
end Go.Proofs.Ytkckefjpkhjeaaa
