/- WorthTable, the program's. -/
import Derived.Test.YtgilbenbaefgfaaDc
import Derived.Test.YtgilbenbaefgfaaN4
import Derived.Test.YtgilbenbaefgfaaR7
import Derived.Outline
namespace Go.Proofs.Ytgilbenbaefgfaa
open Go.RowKit Vo

/-- The rows of the table: 1 where a member is worth another one. -/
def bitF (f : Nat → Nat → Bool) (i j : Nat) : Nat := if f i j then 1 else 0
def rowsT (f : Nat → Nat → Bool) (n : Nat) : Nat → List (List Int)
  | 0 => []
  | k+1 => rowsT f n k ++ [perL (bitF f k) n]
theorem rowsT_len (f n k) : (rowsT f n k).length = k := by
  induction k with
  | zero => rfl
  | succ k ih => simp only [rowsT, List.length_append, ih, List.length_cons, List.length_nil]
theorem rowsT_row (f : Nat → Nat → Bool) (n k i : Nat) : ((rowsT f n k).getD i []).length ≤ n := by
  induction k with
  | zero => simp [rowsT]
  | succ k ih =>
    simp only [rowsT]
    by_cases h : i < (rowsT f n k).length
    · rw [List.getD_eq_getElem?_getD, List.getElem?_append_left h, ← List.getD_eq_getElem?_getD]; exact ih
    · rw [List.getD_eq_getElem?_getD, List.getElem?_append_right (by omega)]
      rcases i - (rowsT f n k).length with _ | d
      · simp [perL_len]
      · simp
theorem totK_few9 {L : List (List Int)} {b : Nat} (h : ∀ i, (L.getD i []).length ≤ b) (k : Nat) : totK L k ≤ b * k := by
  induction k with
  | zero => simp [totK]
  | succ k ih => simp only [totK]; have := h k; rw [Nat.mul_succ]; omega
def wtabL (m : Int) (L : List (List Int)) : List (List Int) := if goodG m L then rowsT (worthP (winS (setsN L)) m.toNat) m.toNat m.toNat else []
theorem wtabL_yes {q : Nat} {L : List (List Int)} (h : goodG (q : Int) L = true) : wtabL (q : Int) L = rowsT (worthP (winS (setsN L)) q) q q := by unfold wtabL; rw [if_pos h, Int.toNat_natCast]
theorem wtabL_no {m : Int} {L : List (List Int)} (h : goodG m L = false) : wtabL m L = [] := if_neg (by rw [h]; simp)
theorem wtabL_small (m : Int) (L : List (List Int)) : tot (wtabL m L) + (wtabL m L).length ≤ 1048576 := by
  unfold wtabL; split
  · rename_i h
    obtain ⟨h1, h9, _⟩ := goodG_parts h
    have h3 : m.toNat ≤ 9 := by omega
    have h4 := totK_few9 (rowsT_row (worthP (winS (setsN L)) m.toNat) m.toNat m.toNat) m.toNat
    unfold tot
    rw [rowsT_len]
    have := Nat.mul_le_mul h3 h3
    omega
  · simp [tot, totK]

theorem bit_one (s j : Nat) : (s / 2^j) &&& 1 = if s.testBit j then 1 else 0 := by
  rw [Nat.and_one_is_mod]
  have h : s.testBit j = decide (s / 2^j % 2 = 1) := Nat.testBit_eq_decide_div_mod_eq
  have := Nat.mod_lt (s / 2^j) (show 0 < 2 by omega)
  rw [h]
  by_cases e : s / 2^j % 2 = 1
  · rw [decide_eq_true e, e]; rfl
  · rw [decide_eq_false e]; simp only [Bool.false_eq_true, if_false]; omega
theorem worth_bit (s j : Nat) (hs : s < 512) : bits BinOp.and IntKind.u64 ((s : Int) / 2^j) 1 = ((if s.testBit j then 1 else 0 : Nat) : Int) := by
  rw [← bit_one]
  have h : (s : Int) / 2^j = ((s / 2^j : Nat) : Int) := by simp
  have hl : s / 2^j ≤ s := Nat.div_le_self _ _
  rw [h]
  exact u64_and_nat _ 1 (by omega) (by omega)

set_option maxHeartbeats 1000000 in
theorem wt1_any (s j g : Nat) (w : World) (hs : s < 512) (hj : j < 10) (hg : Box1 80 w g (.int .u64 s)) :
    Calls Try.prog 60 #[.int .i64 j, .pointer (some ⟨g, 0, none⟩)] w fun e w' => e = .returned (.int .i64 (if s.testBit j then 1 else 0 : Nat)) ∧ Below w.heap.size w w' := by
  have hc := hg.cell
  have hbit := worth_bit s j hs
  have h0 : (0 : Int) ≤ j := by omega
  have hz : (if s.testBit j then 1 else 0 : Nat) ≤ 1 := by split <;> omega
  generalize (if s.testBit j then 1 else 0 : Nat) = r at *
  have hw : IntKind.i64.wrap ((r : Nat) : Int) = (r : Int) := IntWalk.i64_in _ (by omega)
  go_enter Try.func60, Try.ntmps60
  go_wp2
  go_ret
  exact ⟨by first | rfl | simp [hbit, hw], Below.refl _ _⟩

set_option maxRecDepth 20000 in
set_option maxHeartbeats 8000000 in
theorem iWorthTable_any (m : Int) (A : Option Addr) (n cap : Nat) (L : List (List Int)) (w : World) (hl : n ≤ 1048576) (hk : Lists w A n L) :
    Calls Try.prog 29 #[.agg #[.int .i64 m, .slice A n cap]] w fun e w' => Ans (RSS (wtabL m L)) (goodG m L) w w' e := by
  obtain ⟨i0, hi0, hz0, hz1, hz2⟩ := info_parts infoInts
  have HK := Lib.hid (hk.now (below1 w (.cells #[.int .i64 m, .slice A n cap] 28)))
  have HLEN := Lib.hid hk.1
  clear hk
  have hx := BoxT.new 28 w (.int .i64 m) (.slice A n cap)
  have hb0 := below1 w (.cells #[.int .i64 m, .slice A n cap] 28)
  obtain ⟨c0, c1⟩ := hx.cells
  go_enter Try.func29, Try.ntmps29
  go_wp2_with fail
  refine (readGame_any m A n cap L _ hl HK.out).mono ?_
  rintro e w1 ⟨hb1, h⟩
  have g1 := bfrom hb0 hb1
  rcases h with ⟨hg, B, cp, rfl, hown⟩ | ⟨hg, rfl⟩
  · obtain ⟨h1, h9, _, hr, _⟩ := goodG_parts hg
    obtain ⟨q, rfl⟩ : ∃ q : Nat, m = q := ⟨m.toNat, by omega⟩
    rw [Int.toNat_natCast] at hr
    have hq9 : q ≤ 9 := by omega
    rw [HLEN.out] at hown ⊢
    have HGB := Lib.hid hg
    have HCN := Lib.hid (wtabL_yes hg)
    have HSN := Lib.hid (show n = (setsN L).length from by rw [← HLEN.out]; simp [setsN])
    have b2 := below1 w1 (.cells #[.int .i64 q, .slice B n cp] 72)
    have hy := BoxT.new 72 w1 (.int .i64 q) (.slice B n cp)
    obtain ⟨d0, d1⟩ := hy.cells
    have HB := Lib.hid (worthTable_any (setsN L) q _ n cp B _ hq9 HSN.out hl (setsN_512 hq9 hr) (owns_now hown b2))
    have g2 := bfrom g1 b2
    obtain ⟨f, hf⟩ : ∃ f, f = worthP (winS (setsN L)) q := ⟨_, rfl⟩
    rw [← hf] at HB HCN
    clear hown hg hr hf
    go_wp2_with fail
    refine HB.out.mono ?_
    rintro e w3 ⟨rfl, hown3, hb3⟩
    have HO := Lib.hid hown3
    have hol := hown3.lt
    have HY := Lib.hid (hy.now hb3)
    have g3 := bfrom g2 hb3
    clear hown3 d0 d1 hy
    obtain ⟨tg, htg⟩ : ∃ z, z = (w1.alloc (.cells #[.int .i64 q, .slice B n cp] 72)).heap.size + 1 := ⟨_, rfl⟩
    rw [← htg] at HO hol ⊢
    clear htg
    go_wp2
    go_loopw [6, 8, 19] (fun v _ x wr => ∃ (j : Nat) (B : Option Addr) (cp : Nat), j ≤ q ∧ x = .int .i64 j ∧ v = .slice B j cp ∧ SSb w3.heap.size (rowsT f q j) (.slice B j cp) wr ∧ Below w3.heap.size w3 wr) (fun _ _ x _ => q - (intOf x).toNat)
    case atStart => exact ⟨0, none, 0, Nat.zero_le _, rfl, rfl, SSb.nil _ _, Below.refl _ _⟩
    case round =>
      obtain ⟨j, B', cp', hj, rfl, rfl, hssb, hbr⟩ := hrel
      have HSS := Lib.hid hssb
      have hszr := hbr.size
      by_cases hlt : j < q
      · have hlen := rowsT_len f q j
        obtain ⟨xs, G, ho, _⟩ := hssb
        rw [hlen] at ho
        have HXS := Lib.hid ho
        have hcell := (HO.out.below hbr hol).cell hlt
        have h5 := selK_512 (f j) hq9
        have HLEN2 := Lib.hid hlen
        have bA := below1 wr (.cells #[.int .u64 (selK (f j) q : Nat)] 80)
        have hbx := Box1.new 80 wr (.int .u64 (selK (f j) q : Nat))
        obtain ⟨e0, e1⟩ := ((HY.out.now hbr).now bA).cells
        have HFE := Lib.hid (show Nums (bitF f j) 60 #[] #[.pointer (some ⟨wr.heap.size, 0, none⟩)] q (wr.alloc (.cells #[.int .u64 (selK (f j) q : Nat)] 80)) from
          ⟨enters_of Try.func60 (by kernel_rfl) rfl, fun W k hk hb => (wt1_any (selK (f j) q) k wr.heap.size W h5 (by omega) (hbx.now hb)).mono fun e w' h => ⟨by rw [h.1, selK_bit, decide_eq_true hk]; rfl, h.2⟩⟩)
        have HFO := Lib.hid (forEachOf_any (bitF f j) _ _ _ q _ (by omega) HFE.out)
        have HST := Lib.hid (show rowsT f q (j+1) = rowsT f q j ++ [perL (bitF f j) q] from rfl)
        have HPL := Lib.hid (perL_len (bitF f j) q)
        clear hlen ho hbx HFE
        generalize selK (f j) q = s at *
        generalize perL (bitF f j) q = row at *
        simp only [IntsAt] at HFO
        rw [HPL.out] at HFO
        go_wp2_with (first
          | (go_at_call 59; refine HFO.out.mono ?_; rintro e w5 ⟨A5, cap5, rfl, hown5, hb5⟩; have b15 := bfrom bA hb5; have HL5 := Lib.hid (owns_less hown5 (show wr.heap.size ≤ _ by simp)); have HO5 := Lib.hid (owns_now HXS.out b15); have b5 := hbr.trans (b15.mono hszr); have hsz5 := b5.size; clear hown5)
          | (at_builtin; refine wpList_append_lies _ rfl _ _ _ rfl w3.heap.size 36 i0 _ 1 24 Try.underlying22 hi0 hz0 hz1 hz2 rfl (by decide) (.slice B' j cp') j xs rfl (HO5.out.alloc _) ⟨w5.heap.size, 0, none⟩ 1 1 [.slice A5 q cap5] rfl rfl (World.news_of_block (cs := #[.slice A5 q cap5]) (t := 36) (fr := (0, 0)) (heap_alloc_new w5 _)) (by simp [Value.oneCell']) (by omega) (by unfold maxLen; omega) (by omega) (by simp; omega) (w5.heap.size + 1) (by simp) ?_; intro gg cap4 w6 hown6 hgrow6 hat hlt6))
        have b6 : Below w3.heap.size w3 w6 := (b5.alloc (by omega) (.cells #[.slice A5 q cap5] 36)).grown hgrow6 (by simp; omega) fun i hi => owns_le HO5.out hi
        have HP := Lib.hid (SSb.push (l := row) HSS.out HLEN2.out.symm hszr b15 ⟨A5, cap5, by rw [HPL.out], by rw [HPL.out]; exact HL5.out⟩ (Nat.le_succ _) _ (below1 w5 (.cells #[.slice A5 q cap5] 36)) (by simp) xs HXS.out hown6 hgrow6 hat)
        go_roundw
        case rel => exact ⟨j + 1, some ⟨gg, 0, none⟩, cap4, by omega, by go_num, by simp, by rw [HST.out]; exact HP.out, b6⟩
        case measure => simp [intOf]; omega
      · obtain rfl : j = q := by omega
        go_wp2
        go_ret2
        rw [HCN.out, HGB.out]
        exact ⟨_, rfl, RSS.lies (SSb.rss (SSb.less HSS.out g3.size) ⟨B', cp', by rw [rowsT_len]; rfl⟩) (Nat.le_refl _), bfrom g3 hbr⟩
  · have HGB := Lib.hid hg
    have HCN := Lib.hid (wtabL_no hg)
    clear hg
    go_wp2
    go_ret2
    rw [HCN.out, HGB.out]
    exact ⟨_, rfl, RSS.lies (SSb.rss (SSb.nil _ _) ⟨none, 0, rfl⟩) (Nat.le_refl _), g1.alloc g1.size _⟩
end Go.Proofs.Ytgilbenbaefgfaa
