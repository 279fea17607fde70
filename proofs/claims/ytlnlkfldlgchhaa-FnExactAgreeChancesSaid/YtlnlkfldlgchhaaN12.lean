/- Contract of the model's AgreeChances. -/
import Derived.Test.YtlnlkfldlgchhaaN11
import Derived.Outline
namespace Go.Proofs.Ytlnlkfldlgchhaa
open Go.RowKit Vo

set_option maxRecDepth 20000 in
set_option maxHeartbeats 4000000 in
theorem sAgreeChances_any (q : Int) (A : Option Addr) (n cap : Nat) (ws : List Int) (w : World) (hm : n ≤ 9223372036854775807) (hk : Known w A n ws) :
    Calls Try.prog 44 #[.agg #[.int .i64 q, .slice A n cap]] w fun e w' => ShAt (agreeChancesL q ws n) (goodB q ws n) w w' e := by
  have HK := Lib.hid hk
  clear hk
  obtain ⟨i0, hi0, hz0, hz1, hz2⟩ := info_parts infoShare
  have hx := Box.new w (.int .i64 q) (.slice A n cap)
  have hb0 := below1 w (.cells #[.int .i64 q, .slice A n cap] 28)
  by_cases hg : Vo.Good q ws n
  · obtain ⟨b, off, rfl, hsl⟩ := HK.out.get hg.lo
    have HSL := Lib.hid hsl
    have HOK := Lib.hid hg.ok
    have HGB := Lib.hid (goodB_true hg)
    have hn9 := hg.hi
    have hn1 := hg.lo
    have hn10 : n < 10 := by omega
    obtain ⟨HF0, hD0, hD1⟩ := agreeChances_ok hg
    have HFF := Lib.hid HF0
    have HV := Lib.hid (show agreeChancesL q ws n = shL (agreeN q ws n) (2^n) n from okSh_yes HGB.out)
    have HLE := Lib.hid (shL_len (agreeN q ws n) (2^n) n)
    have h512 := pow_lt hn9
    have HVW := Lib.hid (fun (W : World) (h : Sl W b off n ws) => voWins_any q b off n cap ws W hn10 HOK.out h)
    have HAG := Lib.hid (show ∀ k, agreeN q ws n k = cnt (agreeP (winB q ws n) k) (2^n) from fun _ => rfl)
    clear hg hsl HF0
    go_enter Try.func44, Try.ntmps44
    go_wp2_with fail
    refine (voGood_any q _ n cap ws _ hm (HK.out.now hb0)).mono ?_
    rintro e w1 ⟨rfl, hb⟩
    rw [HGB.out]
    have hx1 := hx.now hb
    have g1 := bfrom hb0 hb
    have hs1 := Lib.hid (HSL.out.now g1)
    obtain ⟨c0, c1⟩ := hx1.cells
    go_wp2_with (go_at_call 53; refine (HVW.out _ hs1.out).mono ?_; rintro e w2 ⟨g, cap2, rfl, hg, hown, hb2⟩; have HO2 := Lib.hid hown; have hgl2 := hown.lt; clear hown c0 c1; obtain ⟨c0, c1⟩ := (hx1.now hb2).cells)
    have g2 := bfrom g1 hb2
    have hz2' : w.heap.size ≤ w2.heap.size := g2.size
    obtain ⟨p, hp⟩ : ∃ p, p = winB q ws n := ⟨_, rfl⟩
    have HWN := Lib.hid (show ∀ W, Below w2.heap.size w2 W → Own W g 4 (2^n) (fun j => .bool (p j)) from fun W h => by rw [hp]; exact Own.below HO2.out h hgl2)
    rw [← hp] at HAG
    obtain ⟨N, hN⟩ : ∃ N, 2^n = N := ⟨_, rfl⟩
    rw [hN] at HWN HAG hD0 hD1 h512 HV HLE ⊢
    clear HO2 hb2 hx1 hx hb g1 hp hN HVW
    go_loopw [5, 6, 7, 18] (fun v _ _ i wr => ∃ (j : Nat) (B : Option Addr) (cp : Nat), j ≤ n ∧ i = .int .i64 j ∧ v = .slice B j cp ∧ wr.ownsRow w2.heap.size 38 2 (.slice B j cp) j (shV (shL (agreeN q ws n) N j)) ∧ Below w2.heap.size w2 wr) (fun _ _ _ i _ => n - (intOf i).toNat)
    case atStart => exact ⟨0, none, 0, Nat.zero_le _, rfl, rfl, World.ownsRow_nil _ _ _ _, Below.refl _ _⟩
    case round =>
      obtain ⟨j, B, cp, hj, rfl, rfl, hown, hbr⟩ := hrel
      have HO := Lib.hid hown
      have hszr := hbr.size
      clear hown
      by_cases hlt : j < n
      · have HS := Lib.hid (shL_succ (agreeN q ws n) N j)
        have hfj := HFF.out j hlt
        have HLT := Lib.hid (fun W => pwShare_any (agreeN q ws n j) N W hD0 hfj hD1)
        have HSH := Lib.hid (show share1 (agreeN q ws n j) N = (((agreeN q ws n j / Nat.gcd (agreeN q ws n j) N : Nat) : Int), ((N / Nat.gcd (agreeN q ws n j) N : Nat) : Int)) from rfl)
        have HAJ := Lib.hid (HAG.out j)
        have HWR := Lib.hid (HWN.out wr hbr)
        have hgr : g < wr.heap.size := Own.lt HWR.out
        generalize agreeN q ws n j / Nat.gcd (agreeN q ws n j) N = a at *
        generalize N / Nat.gcd (agreeN q ws n j) N = bb at *
        go_wp2_with fail
        go_loopw [7, 8, 9, 23] (fun c _ _ i wr2 => ∃ k : Nat, k ≤ N ∧ i = .int .i64 k ∧ c = .int .i64 (cnt (agreeP p j) k : Nat) ∧ wr2 = wr) (fun _ _ _ i _ => N - (intOf i).toNat)
        case atStart => exact ⟨0, Nat.zero_le _, rfl, rfl, rfl⟩
        case round =>
          obtain ⟨k, hk, rfl, rfl, rfl⟩ := hrel
          have hcl := cnt_le (agreeP p j) k
          by_cases hlt2 : k < N
          · have hcell := HWR.out.cell hlt2
            have HCS := Lib.hid (show cnt (agreeP p j) (k+1) = cnt (agreeP p j) k + if (k.testBit j == p k) then 1 else 0 from rfl)
            have hbm := bit_mod k j
            have hnn := div_nn k j
            generalize cnt (agreeP p j) k = t at *
            cases hw : p k <;> cases hbt : k.testBit j
            all_goals
              rw [hw] at hcell HCS
              rw [hbt] at hbm HCS
              clear hw hbt
              go_wp2
              go_roundw
              case rel => exact ⟨k + 1, by omega, by go_num, by rw [HCS.out]; simp, trivial⟩
              case measure => simp [intOf]; omega
          · obtain rfl : N = k := by omega
            rw [← HAJ.out]
            go_wp2_with (first
              | (go_at_call 64; refine (HLT.out _).mono ?_; rintro e w5 ⟨rfl, hb5⟩; have HO5 := Lib.hid (owns_now HO.out hb5); have b5 := hbr.trans (hb5.mono (by omega)); have hsz5 := b5.size)
              | (at_builtin; refine wpList_append_lies _ rfl _ _ _ rfl w2.heap.size 38 i0 _ 2 16 Try.underlying42 hi0 hz0 hz1 hz2 rfl (by decide) (.slice B j cp) j (shV (shL (agreeN q ws n) N j)) rfl (HO5.out.alloc _) ⟨w5.heap.size, 0, none⟩ 1 1 [.int .i64 a, .int .i64 bb] rfl rfl (World.news_of_block (cs := #[.int .i64 a, .int .i64 bb]) (t := 38) (fr := (0, 0)) (heap_alloc_new w5 _)) (by simp [Value.oneCell']) (by omega) (by unfold maxLen; omega) (by omega) (by simp; omega) (w5.heap.size + 1) (by simp) ?_; intro gg cap4 w6 hown6 hgrow6 hat hlt6))
            have b6 : Below w2.heap.size w2 w6 := (b5.alloc (by omega) (.cells #[.int .i64 a, .int .i64 bb] 38)).grown hgrow6 (by simp; omega) fun i hi => owns_le HO5.out hi
            go_roundw
            case rel => exact ⟨j + 1, some ⟨gg, 0, none⟩, cap4, by omega, by go_num, by simp, by rw [HS.out, shV_append, HSH.out]; simpa [shV] using hown6, b6⟩
            case measure => simp [intOf]; omega
      · obtain rfl : n = j := by omega
        go_wp2
        go_ret2
        exact ⟨B, cp, by rw [HV.out, HGB.out, HLE.out]; rfl, by rw [HV.out, HLE.out]; exact owns_less HO.out hz2', bfrom g2 hbr⟩
  · have HGB := Lib.hid (goodB_false hg)
    clear hg
    go_enter Try.func44, Try.ntmps44
    go_wp2_with fail
    refine (voGood_any q A n cap ws _ hm (HK.out.now hb0)).mono ?_
    rintro e w1 ⟨rfl, hb⟩
    rw [HGB.out]
    go_wp2
    go_ret2
    rw [show agreeChancesL q ws n = [] from okSh_no HGB.out, HGB.out]
    exact ShAt.none_ (bfrom hb0 hb)
theorem sAgreeChances_ans (q : Int) (A : Option Addr) (n cap : Nat) (ws : List Int) (w : World) (hm : n ≤ 9223372036854775807) (hk : Known w A n ws) :
    Calls Try.prog 44 #[.agg #[.int .i64 q, .slice A n cap]] w fun e w' => Ans (RSh (agreeChancesL q ws n)) (goodB q ws n) w w' e := (sAgreeChances_any q A n cap ws w hm hk).mono fun _ _ h => h.ans
end Go.Proofs.Ytlnlkfldlgchhaa
