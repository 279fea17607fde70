/- The program's GameWithout and GameWith. -/
import Derived.Test.YtipplbcjdcdapaaJa
import Derived.Test.YtipplbcjdcdapaaDz
import Derived.Outline
import Derived.Test.YtipplbcjdcdapaaJd
import Derived.BigQuiet
import Derived.Deep.RegionWith
namespace Go.Proofs.Ytipplbcjdcdapaa
open Go.RowKit Vo

theorem narrow_bits (s k : Nat) (hk : k < 9) (hs : s < 512) : bits BinOp.or IntKind.u64 (bits BinOp.and IntKind.u64 (s : Int) ((2^k - 1 : Nat) : Int)) (IntKind.u64.wrap ((s : Int) / 2^(k+1) * 2^k)) = ((narrow s k : Nat) : Int) := by
  have h1 : (2:Nat)^k ≤ 2^9 := Nat.pow_le_pow_right (by omega) (by omega)
  have hq : s / 2^(k+1) * 2^k ≤ s := Nat.le_trans (Nat.mul_le_mul_left _ (Nat.pow_le_pow_right (by omega) (by omega))) (Nat.div_mul_le_self s (2^(k+1)))
  have e : (s : Int) / 2^(k+1) * 2^k = ((s / 2^(k+1) * 2^k : Nat) : Int) := by simp
  have ha : s &&& (2^k - 1) < 512 := Nat.lt_of_le_of_lt Nat.and_le_left hs
  unfold narrow
  rw [e]
  generalize s / 2^(k+1) * 2^k = x at *
  rw [IntWalk.u64_in _ (by omega), u64_and_nat _ _ (by omega) (by omega), u64_or_nat _ _ (by omega) (by omega)]

set_option maxHeartbeats 1000000 in
theorem toldWithout_any (s k : Nat) (w : World) (hk : k < 9) (hs : s < 512) :
    Calls Try.prog 89 #[.int .u64 s, .int .i64 k] w fun e w' => e = .returned (.int .u64 (narrow s k : Nat)) ∧ Below w.heap.size w w' := by
  go_enter Try.func89, Try.ntmps89
  go_wp2_with fail
  go_quiet ((go_at_call 115; exact Calls.quiet_of_same ((allMembers_any k _ (by omega)).mono fun _ _ h => ⟨h.1, h.2.symm⟩)))
  go_wp2
  go_ret
  exact ⟨ret_int (narrow_bits s k hk hs), below_drewN (Below.refl _ _) _⟩

theorem lessL_len (wt : Bool) (S : List Nat) (k : Nat) : (lessL wt S k).length ≤ S.length := by
  unfold lessL
  cases wt with
  | true => simp
  | false => simpa using List.length_filter_le (fun t => !t.testBit k) S
theorem lessL_take (wt : Bool) (S : List Nat) (k j : Nat) (h : j < S.length) : lessL wt (S.take (j+1)) k = lessL wt (S.take j) k ++ if (wt || !(S.getD j 0).testBit k) then [narrow (S.getD j 0) k] else [] := by
  unfold lessL
  rw [List.take_add_one, List.getElem?_eq_getElem h, List.getD_eq_getElem?_getD, List.getElem?_eq_getElem h]
  cases wt with
  | true => simp only [if_true, Bool.true_or, List.map_append, Option.toList, List.map_cons, List.map_nil, Option.getD_some]
  | false =>
    simp only [Bool.false_eq_true, if_false, Bool.false_or, Option.getD_some, Option.toList]
    rw [List.filter_append, List.map_append]
    congr 1
    by_cases hb : (S[j]).testBit k = true
    · simp [hb]
    · simp [hb]
/-- Is there a game without a member (with it)? Its sets. -/
def lessOk (wt : Bool) (m : Int) (L : List (List Int)) (x : Int) : Bool := memG m L x && lessB wt (setsN L) (m - 1).toNat x.toNat
def lessS (wt : Bool) (m : Int) (L : List (List Int)) (x : Int) : List Nat := (inOrder (m - 1).toNat).filter (leastP (lessP wt (setsN L) x.toNat) (m - 1).toNat)
theorem lessOk_bad {wt : Bool} {m : Int} {L : List (List Int)} {x : Int} (h : memG m L x = false) : lessOk wt m L x = false := by unfold lessOk; rw [h]; rfl
theorem lessOk_good {wt : Bool} {q k : Nat} {L : List (List Int)} (h : memG ((q + 1 : Nat) : Int) L (k : Int) = true) : lessOk wt ((q + 1 : Nat) : Int) L (k : Int) = lessB wt (setsN L) q k := by
  unfold lessOk
  rw [h, show (((q + 1 : Nat) : Int) - 1).toNat = q from by omega, Int.toNat_natCast]; rfl
theorem lessS_good {wt : Bool} {q k : Nat} {L : List (List Int)} (h : memG ((q + 1 : Nat) : Int) L (k : Int) = true) : lessS wt ((q + 1 : Nat) : Int) L (k : Int) = leastL (inS (lessL wt (setsN L) k)) := by
  obtain ⟨hg, q', k', e1, e2, h1, h2⟩ := memG_parts h
  obtain rfl : q = q' := by omega
  obtain rfl : k = k' := by omega
  obtain ⟨_, _, _, hr, _⟩ := goodG_parts hg
  rw [Int.toNat_natCast] at hr
  unfold lessS
  rw [show (((q + 1 : Nat) : Int) - 1).toNat = q from by omega, Int.toNat_natCast]
  exact less_sets (by omega) (setsN_lt (by omega) hr) h1
theorem lessS_len {wt : Bool} {m : Int} {L : List (List Int)} {x : Int} (h : lessOk wt m L x = true) : (lessS wt m L x).length ≤ 512 := by
  unfold lessOk at h
  simp only [Bool.and_eq_true] at h
  obtain ⟨_, q, k, rfl, rfl, h1, h2⟩ := memG_parts h.1
  unfold lessS
  exact (filt512 (by omega) _).1

set_option maxRecDepth 20000 in
set_option maxHeartbeats 8000000 in
theorem iGameWithout_any (m : Int) (A : Option Addr) (n cap : Nat) (L : List (List Int)) (x : Int) (w : World) (hl : n ≤ 1048576) (hk : Lists w A n L) (_hxw : (Lit.int .i64 x).wf = true) :
    Calls Try.prog 45 #[.agg #[.int .i64 m, .slice A n cap], .int .i64 x] w fun e w' => AnsG RSS (okM (lessOk false m L x) (m - 1)) (okG (lessOk false m L x) (lessS false m L x)) (lessOk false m L x) w w' e := by
  have HLEN := Lib.hid hk.1
  have hb0 : Below w.heap.size w ((w.alloc (.cells #[.int .i64 m, .slice A n cap] 28)).alloc (.cells #[.int .i64 0, .slice none 0 0] 28)) := (below1 w _).alloc (by simp) _
  have HK := Lib.hid (hk.now hb0)
  have hx := (BoxT.new 28 w (.int .i64 m) (.slice A n cap)).alloc (.cells #[.int .i64 0, .slice none 0 0] 28)
  have hr := BoxT.new 28 (w.alloc (.cells #[.int .i64 m, .slice A n cap] 28)) (.int .i64 0) (.slice none 0 0)
  simp only [World.size_alloc] at hr
  clear hk
  have KF := Lib.hid (show ∀ W, BoxT 28 W (w.heap.size + 1) (.int .i64 0) (.slice none 0 0) → (W.frozen? ⟨w.heap.size + 1, 0, none⟩ = false ∧ W.frozen? ⟨w.heap.size + 1, 1, none⟩ = false) from fun W h => by unfold BoxT at h; exact ⟨by simp [World.frozen?, h], by simp [World.frozen?, h]⟩)
  have NO := Lib.hid (show lessOk false m L x = false → okM (lessOk false m L x) (m - 1) = 0 ∧ okG (lessOk false m L x) (lessS false m L x) = [] from fun h => ⟨okM_no h, okG_no h⟩)
  obtain ⟨i0, hi0, hz0, hz1, hz2i⟩ := info_parts infoSet
  obtain ⟨c0, c1⟩ := hx.cells
  go_enter Try.func45, Try.ntmps45
  go_wp2_with fail
  refine (readGameAndMember_any m A n cap L x _ hl HK.out).mono ?_
  rintro e w1 ⟨hb1, h⟩
  have g1 := bfrom hb0 hb1
  have hr1 := hr.now hb1
  have hzr : w.heap.size + 1 < w1.heap.size := hr1.lt
  clear hx hr hb1 c0 c1 HK
  rcases h with ⟨hg, B, cp, rfl, hown⟩ | ⟨hg, rfl⟩
  · obtain ⟨hgg, q, k, hmq, rfl, hkq, hq9⟩ := memG_parts hg
    obtain ⟨hm1, hm9, hne, hr', _⟩ := goodG_parts hgg
    rw [hmq, Int.toNat_natCast] at hr'
    rw [HLEN.out] at hown ⊢
    have HOK := Lib.hid (show lessOk false m L (k : Int) = lessB false (setsN L) q k from by rw [hmq] at hg ⊢; exact lessOk_good hg)
    have HSG := Lib.hid (show lessS false m L (k : Int) = leastL (inS (lessL false (setsN L) k)) from by rw [hmq] at hg ⊢; exact lessS_good hg)
    have HQ := Lib.hid (show m - 1 = (q : Int) from by omega)
    have hSN : n = (setsN L).length := by rw [← HLEN.out]; simp [setsN]
    have hS9 : ∀ s ∈ setsN L, s < 2^(q+1) := setsN_lt (by omega) hr'
    have hSne : setsN L ≠ [] := fun e => hne (List.map_eq_nil_iff.1 e)
    have HLB := Lib.hid (lessB_without hS9 (setsN_nonzero (by omega) hr') hkq)
    have h512 := pow_lt hq9
    have HTK := Lib.hid (fun j (h : j < n) => lessL_take false (setsN L) k j (by rw [← hSN]; exact h))
    have HLL := Lib.hid (fun j => Nat.le_trans (lessL_len false ((setsN L).take j) k) (by rw [List.length_take]; omega : ((setsN L).take j).length ≤ n))
    have HALL := Lib.hid (show lessL false ((setsN L).take n) k = lessL false (setsN L) k from by rw [hSN, List.take_length])
    have HLT := Lib.hid (show ∀ s ∈ lessL false (setsN L) k, s < 512 from fun s hs => by have := lessL_lt hS9 hkq s hs; have h2 : 2^q ≤ 2^(q+1) := Nat.pow_le_pow_right (by omega) (by omega); omega)
    have HGW := Lib.hid (fun W s h5 h => gWins_any (setsN L) m s w.heap.size n cp B W hSN hl (setsN_512 hq9 hr') h5 h)
    have b2 := below1 w1 (.cells #[.int .i64 m, .slice B n cp] 71)
    have hy := BoxT.new 71 w1 (.int .i64 m) (.slice B n cp)
    have hr2 := hr1.now b2
    have hO2 := owns_now hown b2
    have HGA := Lib.hid (fun S' n' base k' cap' A' W h1 h2 h3 h4 => gameOfAny_any S' n' base k' cap' A' W h1 h2 h3 h4)
    obtain ⟨w2, hw2⟩ : ∃ w2, w2 = w1.alloc (.cells #[.int .i64 m, .slice B n cp] 71) := ⟨_, rfl⟩
    have hz2 : w2.heap.size = w1.heap.size + 1 := by rw [hw2]; simp
    have hgw : Below w.heap.size w w2 := by rw [hw2]; exact bfrom g1 b2
    rw [← hw2] at hy hr2 hO2
    have HGW2 := Lib.hid hgw
    have K := Lib.hid (show ∀ W, Below w2.heap.size w2 W → (W.cell? ⟨w1.heap.size, 0, none⟩ = some (.int .i64 m) ∧ W.cell? ⟨w1.heap.size, 1, none⟩ = some (.slice B n cp) ∧ W.cell? ⟨w.heap.size + 1, 0, none⟩ = some (.int .i64 0) ∧ W.cell? ⟨w.heap.size + 1, 1, none⟩ = some (.slice none 0 0) ∧ W.frozen? ⟨w.heap.size + 1, 0, none⟩ = false ∧ W.frozen? ⟨w.heap.size + 1, 1, none⟩ = false) from fun W hb => ⟨(hy.now hb).cells.1, (hy.now hb).cells.2, (hr2.now hb).cells.1, (hr2.now hb).cells.2, (KF.out _ (hr2.now hb)).1, (KF.out _ (hr2.now hb)).2⟩)
    have HO2 := Lib.hid hO2
    have HCELL := Lib.hid (show ∀ W, Below w2.heap.size w2 W → ∀ j, j < n → ∃ g, B = some ⟨g, 0, none⟩ ∧ g < w2.heap.size ∧ W.cell? ⟨g, j, none⟩ = some (.int .u64 ((setsN L).getD j 0 : Nat)) ∧ (setsN L).getD j 0 < 512 from fun W hW j h => by
      obtain ⟨g, cap', hv, hg, _, _⟩ := owns_head hO2 (by omega)
      obtain ⟨rfl, rfl⟩ : B = some ⟨g, 0, none⟩ ∧ cp = cap' := by simpa using hv
      have hlt : g < w2.heap.size := owns_lt hO2 rfl
      have ho : Own w2 g 96 n (fun i => .int .u64 ((setsN L).getD i 0 : Nat)) := Own.of_own hO2 (fun i hi => by
        have : i < (setsN L).length := by omega
        simp [setsV, List.getD_eq_getElem?_getD, this])
      exact ⟨g, rfl, hlt, (Own.below ho hW hlt).cell h, by have := hS9 _ (getD_mem (S := setsN L) (i := j) (by omega)); omega⟩)
    obtain ⟨c0, c1, c2, c3, c4, c5⟩ := K.out _ (Below.refl _ _)
    clear hown hgg hne hr' hy hr1 hr2 g1 b2 hgw hO2 hg hSN hS9 hSne hmq
    obtain ⟨S, hS⟩ : ∃ S, S = setsN L := ⟨_, rfl⟩
    rw [← hS] at HOK HSG HLB HTK HLL HALL HLT HGW HO2 HCELL
    clear hS
    go_wp2_with fail
    rw [← hw2]
    clear hw2
    clear c0 c1 c2 c3 c4 c5
    go_loopw [8, 10, 23] (fun v _ i wr => ∃ (j l : Nat) (C : Option Addr) (cC : Nat), j ≤ n ∧ l = (lessL false (S.take j) k).length ∧ i = .int .i64 j ∧ v = .slice C l cC ∧ wr.ownsRow w2.heap.size 96 1 (.slice C l cC) l (setsV (lessL false (S.take j) k)) ∧ Below w2.heap.size w2 wr) (fun _ _ i _ => n - (intOf i).toNat)
    case atStart => exact ⟨0, 0, none, 0, Nat.zero_le _, by simp [lessL], rfl, rfl, World.ownsRow_nil _ _ _ _, Below.refl _ _⟩
    case round =>
      obtain ⟨j, l, C, cC, hj, hll, rfl, rfl, hown, hb⟩ := hrel
      have HO := Lib.hid hown
      have HL2 := Lib.hid hll
      have hln : l ≤ n := by rw [hll]; exact HLL.out j
      have hsz := hb.size
      obtain ⟨c0, c1, c2, c3, c4, c5⟩ := K.out _ hb
      clear hown hll
      by_cases hlt : j < n
      · obtain ⟨g, rfl, hgl, hcell, hs5⟩ := HCELL.out _ hb j hlt
        have HT := Lib.hid (HTK.out j hlt)
        generalize S.getD j 0 = s at *
        cases hbit : s.testBit k with
        | true =>
          have HB := Lib.hid hbit
          have HT1 := Lib.hid (show lessL false (S.take (j+1)) k = lessL false (S.take j) k from by rw [HT.out, HB.out]; simp)
          clear hbit
          go_wp2_with (go_at_call 88; refine (has_any s k _ (by omega) hs5).mono ?_; rintro e w' ⟨rfl, rfl⟩; rw [HB.out])
          go_roundw
          case rel => exact ⟨j + 1, l, C, cC, by omega, by rw [HT1.out]; exact HL2.out, by go_num, rfl, by rw [HT1.out]; exact HO.out, hb⟩
          case measure => simp [intOf]; omega
        | false =>
          have HB := Lib.hid hbit
          clear hbit
          have HT1 := Lib.hid (show lessL false (S.take (j+1)) k = lessL false (S.take j) k ++ [narrow s k] from by rw [HT.out]; rw [HB.out]; rfl)
          have HTW := Lib.hid (fun W => toldWithout_any s k W (by omega) hs5)
          obtain ⟨u, hu⟩ : ∃ u, u = narrow s k := ⟨_, rfl⟩
          rw [← hu] at HT1 HTW
          clear hu
          go_wp2_with (first
            | (go_at_call 88; refine (has_any s k _ (by omega) hs5).mono ?_; rintro e w' ⟨rfl, rfl⟩; rw [HB.out])
            | (go_at_call 89; refine (HTW.out _).mono ?_; rintro e w5 ⟨rfl, hb5⟩; have hz5 := hb5.size)
            | (at_builtin; refine wpList_append_lies _ rfl _ _ _ rfl w2.heap.size 96 i0 _ 1 8 Try.underlying68 hi0 hz0 hz1 hz2i rfl (by decide) (.slice C l cC) l (setsV (lessL false (S.take j) k)) rfl ((owns_now HO.out hb5).alloc _) ⟨w5.heap.size, 0, none⟩ 1 1 [.int .u64 u] rfl rfl (World.news_of_block (cs := #[.int .u64 u]) (t := 96) (fr := (0, 0)) (heap_alloc_new w5 _)) (by simp [Value.oneCell']) (by omega) (by unfold maxLen; omega) (by omega) (by simp; omega) (w5.heap.size + 1) (by simp) ?_; intro gg cap3 w6 hown6 hgrow hat hlt6))
          have hb6 : Below w2.heap.size w2 w6 := ((bfrom hb hb5).alloc (bfrom hb hb5).size (.cells #[.int .u64 u] 96)).grown hgrow (by simp; omega) fun i hi => owns_le HO.out hi
          go_roundw
          case rel => exact ⟨j + 1, l + 1, some ⟨gg, 0, none⟩, cap3, by omega, by rw [HT1.out, List.length_append, ← HL2.out]; rfl, by go_num, rfl, by rw [HT1.out]; simpa [setsV] using hown6, hb6⟩
          case measure => simp [intOf]; omega

      · obtain rfl : j = n := by omega
        by_cases hl0 : l = 0
        · have HNOK := Lib.hid (show lessOk false m L (k : Int) = false from by
            rw [HOK.out, HLB.out, decide_eq_false_iff_not, Classical.not_not, ← HALL.out]
            exact List.length_eq_zero_iff.1 (by rw [← HL2.out]; exact hl0))
          obtain ⟨n1, n2⟩ := NO.out HNOK.out
          have N1 := Lib.hid n1
          have N2 := Lib.hid n2
          subst hl0
          clear n1 n2
          go_wp2
          refine bodyPost_ret (v := .tuple #[.agg #[.int .i64 0, .slice none 0 0], .bool false]) (by simp [results, Try.results45, go_sem, c2, c3]) rfl ?_
          rw [N1.out, N2.out, HNOK.out]
          exact AnsG.none_ RSS.none_ (((bfrom HGW2.out hb).setCell (by simp) _).setCell (by simp) _)
        have HYOK := Lib.hid (show lessOk false m L (k : Int) = true from by
          rw [HOK.out, HLB.out, decide_eq_true_iff, ← HALL.out]
          exact fun e => hl0 (by rw [HL2.out, e]; rfl))
        have hl1 : ((l : Int) == 0) = false := beq_false_of_ne (by omega)
        have HG := Lib.hid (HGA.out (lessL false S k) (q : Int) _ l cC C wr (by rw [HL2.out, HALL.out]) (by omega) HLT.out (by rw [← HALL.out]; exact HO.out))
        rw [← HSG.out] at HG
        have HM1 := Lib.hid (okM_yes (m := m - 1) HYOK.out)
        have HM2 := Lib.hid (okG_yes (S := lessS false m L k) HYOK.out)
        obtain ⟨T, hT⟩ : ∃ T, T = lessS false m L k := ⟨_, rfl⟩
        rw [← hT] at HG HM2
        have HTT := Lib.hid hT
        clear hT
        obtain ⟨p, hp⟩ : ∃ p, p = T.length := ⟨_, rfl⟩
        rw [← hp] at HG
        have HJ := Lib.hid (show (setsL T).length = p from by rw [setsL_len, hp])
        clear hp
        go_wp2_with fail
        try rw [HQ.out]
        refine HG.out.mono ?_
        rintro e w7 ⟨D, cD, rfl, hl7, hb7⟩
        have HL7 := Lib.hid hl7
        have g7 := bfrom hb hb7
        have hz7 := hb7.size
        clear hl7 c0 c1 c2 c3 c4 c5
        obtain ⟨c0, c1, c2, c3, c4, c5⟩ := K.out _ g7
        go_wp2
        refine bodyPost_ret (v := .tuple #[.agg #[.int .i64 q, .slice D p cD], .bool true]) (by simp [results, Try.results45, go_sem, c2, c3]) rfl ?_
        rw [HM1.out, ← HTT.out, HM2.out, HYOK.out, HQ.out]
        refine ⟨D, cD, by rw [HJ.out], ?_, ?_⟩
        · rw [HJ.out]
          exact Lies.rss_wide (Lies.far (Lies.far HL7.out (by first | omega | (simp; omega)) _) (by first | omega | (simp; omega)) _) (by omega) (by first | exact Nat.le_refl _ | simp) (by first | exact Nat.le_refl _ | simp)
        · exact ((bfrom HGW2.out g7).setCell (by simp) _).setCell (by simp) _
  · have HNOK := Lib.hid (lessOk_bad (wt := false) hg)
    obtain ⟨n1, n2⟩ := NO.out HNOK.out
    have N1 := Lib.hid n1
    have N2 := Lib.hid n2
    obtain ⟨f2, f3⟩ := KF.out _ hr1
    obtain ⟨e2, e3⟩ := hr1.cells
    have q0 : ((w1.setCell ⟨w.heap.size + 1, 0, none⟩ (.int .i64 0)).setCell ⟨w.heap.size + 1, 1, none⟩ (.slice none 0 0)).cell? ⟨w.heap.size + 1, 0, none⟩ = some (.int .i64 0) := by simp [go_sem, e2]
    have q1 : ((w1.setCell ⟨w.heap.size + 1, 0, none⟩ (.int .i64 0)).setCell ⟨w.heap.size + 1, 1, none⟩ (.slice none 0 0)).cell? ⟨w.heap.size + 1, 1, none⟩ = some (.slice none 0 0) := by simp [go_sem, e3]
    have hgs : Below w.heap.size w ((w1.setCell ⟨w.heap.size + 1, 0, none⟩ (.int .i64 0)).setCell ⟨w.heap.size + 1, 1, none⟩ (.slice none 0 0)) := (g1.setCell (by simp) _).setCell (by simp) _
    have k0 := ((below1 ((w1.setCell ⟨w.heap.size + 1, 0, none⟩ (.int .i64 0)).setCell ⟨w.heap.size + 1, 1, none⟩ (.slice none 0 0)) (.cells #[.int .i64 0, .slice none 0 0] 71)).cell (p := ⟨w.heap.size + 1, 0, none⟩) (by simp; omega)).trans q0
    have k1 := ((below1 ((w1.setCell ⟨w.heap.size + 1, 0, none⟩ (.int .i64 0)).setCell ⟨w.heap.size + 1, 1, none⟩ (.slice none 0 0)) (.cells #[.int .i64 0, .slice none 0 0] 71)).cell (p := ⟨w.heap.size + 1, 1, none⟩) (by simp; omega)).trans q1
    clear hg q0 q1 n1 n2
    have K0 := Lib.hid k0
    have K1 := Lib.hid k1
    clear k0 k1
    go_wp2
    refine bodyPost_ret (v := .tuple #[.agg #[.int .i64 0, .slice none 0 0], .bool false]) (by simp [results, Try.results45, go_sem, K0.out, K1.out]) rfl ?_
    rw [N1.out, N2.out, HNOK.out]
    exact AnsG.none_ RSS.none_ (hgs.alloc hgs.size _)

set_option maxRecDepth 20000 in
set_option maxHeartbeats 8000000 in
theorem iGameWith_any (m : Int) (A : Option Addr) (n cap : Nat) (L : List (List Int)) (x : Int) (w : World) (hl : n ≤ 1048576) (hk : Lists w A n L) (_hxw : (Lit.int .i64 x).wf = true) :
    Calls Try.prog 47 #[.agg #[.int .i64 m, .slice A n cap], .int .i64 x] w fun e w' => AnsG RSS (okM (lessOk true m L x) (m - 1)) (okG (lessOk true m L x) (lessS true m L x)) (lessOk true m L x) w w' e := by
  have HLEN := Lib.hid hk.1
  have hb0 : Below w.heap.size w ((w.alloc (.cells #[.int .i64 m, .slice A n cap] 28)).alloc (.cells #[.int .i64 0, .slice none 0 0] 28)) := (below1 w _).alloc (by simp) _
  have HK := Lib.hid (hk.now hb0)
  have hx := (BoxT.new 28 w (.int .i64 m) (.slice A n cap)).alloc (.cells #[.int .i64 0, .slice none 0 0] 28)
  have hr := BoxT.new 28 (w.alloc (.cells #[.int .i64 m, .slice A n cap] 28)) (.int .i64 0) (.slice none 0 0)
  simp only [World.size_alloc] at hr
  clear hk
  have KF := Lib.hid (show ∀ W, BoxT 28 W (w.heap.size + 1) (.int .i64 0) (.slice none 0 0) → (W.frozen? ⟨w.heap.size + 1, 0, none⟩ = false ∧ W.frozen? ⟨w.heap.size + 1, 1, none⟩ = false) from fun W h => by unfold BoxT at h; exact ⟨by simp [World.frozen?, h], by simp [World.frozen?, h]⟩)
  have NO := Lib.hid (show lessOk true m L x = false → okM (lessOk true m L x) (m - 1) = 0 ∧ okG (lessOk true m L x) (lessS true m L x) = [] from fun h => ⟨okM_no h, okG_no h⟩)
  obtain ⟨i0, hi0, hz0, hz1, hz2i⟩ := info_parts infoSet
  obtain ⟨c0, c1⟩ := hx.cells
  go_enter Try.func47, Try.ntmps47
  go_wp2_with fail
  refine (readGameAndMember_any m A n cap L x _ hl HK.out).mono ?_
  rintro e w1 ⟨hb1, h⟩
  have g1 := bfrom hb0 hb1
  have hr1 := hr.now hb1
  have hzr : w.heap.size + 1 < w1.heap.size := hr1.lt
  clear hx hr hb1 c0 c1 HK
  rcases h with ⟨hg, B, cp, rfl, hown⟩ | ⟨hg, rfl⟩
  · obtain ⟨hgg, q, k, hmq, rfl, hkq, hq9⟩ := memG_parts hg
    obtain ⟨hm1, hm9, hne, hr', _⟩ := goodG_parts hgg
    rw [hmq, Int.toNat_natCast] at hr'
    rw [HLEN.out] at hown ⊢
    have HOK := Lib.hid (show lessOk true m L (k : Int) = lessB true (setsN L) q k from by rw [hmq] at hg ⊢; exact lessOk_good hg)
    have HSG := Lib.hid (show lessS true m L (k : Int) = leastL (inS (lessL true (setsN L) k)) from by rw [hmq] at hg ⊢; exact lessS_good hg)
    have HQ := Lib.hid (show m - 1 = (q : Int) from by omega)
    have hSN : n = (setsN L).length := by rw [← HLEN.out]; simp [setsN]
    have hS9 : ∀ s ∈ setsN L, s < 2^(q+1) := setsN_lt (by omega) hr'
    have hSne : setsN L ≠ [] := fun e => hne (List.map_eq_nil_iff.1 e)
    have HLB := Lib.hid (lessB_with hS9 (setsN_nonzero (by omega) hr') hSne hkq)
    have h512 := pow_lt hq9
    have HTK := Lib.hid (fun j (h : j < n) => lessL_take true (setsN L) k j (by rw [← hSN]; exact h))
    have HLL := Lib.hid (fun j => Nat.le_trans (lessL_len true ((setsN L).take j) k) (by rw [List.length_take]; omega : ((setsN L).take j).length ≤ n))
    have HALL := Lib.hid (show lessL true ((setsN L).take n) k = lessL true (setsN L) k from by rw [hSN, List.take_length])
    have HLT := Lib.hid (show ∀ s ∈ lessL true (setsN L) k, s < 512 from fun s hs => by have := lessL_lt hS9 hkq s hs; have h2 : 2^q ≤ 2^(q+1) := Nat.pow_le_pow_right (by omega) (by omega); omega)
    have HGW := Lib.hid (fun W s h5 h => gWins_any (setsN L) m s w.heap.size n cp B W hSN hl (setsN_512 hq9 hr') h5 h)
    have b2 := below1 w1 (.cells #[.int .i64 m, .slice B n cp] 71)
    have hy := BoxT.new 71 w1 (.int .i64 m) (.slice B n cp)
    have hr2 := hr1.now b2
    have hO2 := owns_now hown b2
    have HGA := Lib.hid (fun S' n' base k' cap' A' W h1 h2 h3 h4 => gameOfAny_any S' n' base k' cap' A' W h1 h2 h3 h4)
    obtain ⟨w2, hw2⟩ : ∃ w2, w2 = w1.alloc (.cells #[.int .i64 m, .slice B n cp] 71) := ⟨_, rfl⟩
    have hz2 : w2.heap.size = w1.heap.size + 1 := by rw [hw2]; simp
    have hgw : Below w.heap.size w w2 := by rw [hw2]; exact bfrom g1 b2
    rw [← hw2] at hy hr2 hO2
    have HGW2 := Lib.hid hgw
    have K := Lib.hid (show ∀ W, Below w2.heap.size w2 W → (W.cell? ⟨w1.heap.size, 0, none⟩ = some (.int .i64 m) ∧ W.cell? ⟨w1.heap.size, 1, none⟩ = some (.slice B n cp) ∧ W.cell? ⟨w.heap.size + 1, 0, none⟩ = some (.int .i64 0) ∧ W.cell? ⟨w.heap.size + 1, 1, none⟩ = some (.slice none 0 0) ∧ W.frozen? ⟨w.heap.size + 1, 0, none⟩ = false ∧ W.frozen? ⟨w.heap.size + 1, 1, none⟩ = false) from fun W hb => ⟨(hy.now hb).cells.1, (hy.now hb).cells.2, (hr2.now hb).cells.1, (hr2.now hb).cells.2, (KF.out _ (hr2.now hb)).1, (KF.out _ (hr2.now hb)).2⟩)
    have HO2 := Lib.hid hO2
    have HCELL := Lib.hid (show ∀ W, Below w2.heap.size w2 W → ∀ j, j < n → ∃ g, B = some ⟨g, 0, none⟩ ∧ g < w2.heap.size ∧ W.cell? ⟨g, j, none⟩ = some (.int .u64 ((setsN L).getD j 0 : Nat)) ∧ (setsN L).getD j 0 < 512 from fun W hW j h => by
      obtain ⟨g, cap', hv, hg, _, _⟩ := owns_head hO2 (by omega)
      obtain ⟨rfl, rfl⟩ : B = some ⟨g, 0, none⟩ ∧ cp = cap' := by simpa using hv
      have hlt : g < w2.heap.size := owns_lt hO2 rfl
      have ho : Own w2 g 96 n (fun i => .int .u64 ((setsN L).getD i 0 : Nat)) := Own.of_own hO2 (fun i hi => by
        have : i < (setsN L).length := by omega
        simp [setsV, List.getD_eq_getElem?_getD, this])
      exact ⟨g, rfl, hlt, (Own.below ho hW hlt).cell h, by have := hS9 _ (getD_mem (S := setsN L) (i := j) (by omega)); omega⟩)
    obtain ⟨c0, c1, c2, c3, c4, c5⟩ := K.out _ (Below.refl _ _)
    clear hown hgg hne hr' hy hr1 hr2 g1 b2 hgw hO2 hg hSN hS9 hSne hmq
    obtain ⟨S, hS⟩ : ∃ S, S = setsN L := ⟨_, rfl⟩
    rw [← hS] at HOK HSG HLB HTK HLL HALL HLT HGW HO2 HCELL
    clear hS
    have HOW := Lib.hid (owns_less HO2.out (show w.heap.size ≤ _ from by simp; omega))
    have hk5 : 2^k < 512 := by have : 2^k < 2^(q+1) := Nat.pow_lt_pow_right (by omega) hkq; omega
    obtain ⟨pk, hpk⟩ : ∃ pk, pk = 2^k := ⟨_, rfl⟩
    rw [← hpk] at HLB hk5
    have HPK := Lib.hid hpk
    clear hpk
    have HGK := Lib.hid (fun W h => HGW.out W pk hk5 h)
    cases hwin : winS S pk with
    | true =>
      have HWIN := Lib.hid hwin
      have HNOK := Lib.hid (show lessOk true m L (k : Int) = false from by rw [HOK.out, HLB.out, hwin]; rfl)
      obtain ⟨n1, n2⟩ := NO.out HNOK.out
      have N1 := Lib.hid n1
      have N2 := Lib.hid n2
      clear n1 n2 hwin
      go_wp2_with fail
      rw [← hw2]
      clear hw2
      go_region_held3 (fun w' => w'.cell? ⟨w1.heap.size, 0, none⟩ = some (.int .i64 m) ∧ w'.cell? ⟨w1.heap.size, 1, none⟩ = some (.slice B n cp))
        (first | exact ⟨c0, c1⟩ | exact ⟨a0, a1⟩ | go_keep)
        (first
          | (go_at_call 90; refine (with_any 0 k _ (by omega) (by omega)).mono ?_; rintro e w' ⟨rfl, rfl⟩; rw [Nat.zero_or, ← HPK.out])
          | (go_at_call 75; refine (HGK.out _ (owns_now HOW.out (Below.refl _ _).drew)).mono ?_; rintro e wA ⟨rfl, hbA⟩; rw [HWIN.out]; have gA := bfrom (Below.refl _ w2).drew hbA; obtain ⟨a0, a1⟩ : _ ∧ _ := ⟨(K.out _ gA).1, (K.out _ gA).2.1⟩))
      clear c0 c1 c2 c3 c4 c5
      obtain ⟨c0, c1, c2, c3, c4, c5⟩ := K.out _ gA
      go_wp2
      refine bodyPost_ret (v := .tuple #[.agg #[.int .i64 0, .slice none 0 0], .bool false]) (by simp [results, Try.results47, go_sem, c2, c3]) rfl ?_
      rw [N1.out, N2.out, HNOK.out]
      exact AnsG.none_ RSS.none_ (((bfrom HGW2.out gA).setCell (by simp) _).setCell (by simp) _)
    | false =>
      have HWIN := Lib.hid hwin
      have HYOK := Lib.hid (show lessOk true m L (k : Int) = true from by rw [HOK.out, HLB.out, hwin]; rfl)
      clear hwin
      go_wp2_with fail
      rw [← hw2]
      clear hw2
      go_region_held3 (fun w' => w'.cell? ⟨w1.heap.size, 0, none⟩ = some (.int .i64 m) ∧ w'.cell? ⟨w1.heap.size, 1, none⟩ = some (.slice B n cp))
        (first | exact ⟨c0, c1⟩ | exact ⟨a0, a1⟩ | go_keep)
        (first
          | (go_at_call 90; refine (with_any 0 k _ (by omega) (by omega)).mono ?_; rintro e w' ⟨rfl, rfl⟩; rw [Nat.zero_or, ← HPK.out])
          | (go_at_call 75; refine (HGK.out _ (owns_now HOW.out (Below.refl _ _).drew)).mono ?_; rintro e wA ⟨rfl, hbA⟩; rw [HWIN.out]; have gA := bfrom (Below.refl _ w2).drew hbA; obtain ⟨a0, a1⟩ : _ ∧ _ := ⟨(K.out _ gA).1, (K.out _ gA).2.1⟩))
      clear c0 c1 c2 c3 c4 c5 a0 a1
      obtain ⟨c0, c1, c2, c3, c4, c5⟩ := K.out _ gA
      go_wp2_with fail
      clear c0 c1 c2 c3 c4 c5
      go_loopw [8, 10, 29] (fun v _ i wr => ∃ (j l : Nat) (C : Option Addr) (cC : Nat), j ≤ n ∧ l = (lessL true (S.take j) k).length ∧ i = .int .i64 j ∧ v = .slice C l cC ∧ wr.ownsRow w2.heap.size 96 1 (.slice C l cC) l (setsV (lessL true (S.take j) k)) ∧ Below w2.heap.size w2 wr) (fun _ _ i _ => n - (intOf i).toNat)
      case atStart => exact ⟨0, 0, none, 0, Nat.zero_le _, by simp [lessL], rfl, rfl, World.ownsRow_nil _ _ _ _, gA⟩
      case round =>
        obtain ⟨j, l, C, cC, hj, hll, rfl, rfl, hown, hb⟩ := hrel
        have HO := Lib.hid hown
        have HL2 := Lib.hid hll
        have hln : l ≤ n := by rw [hll]; exact HLL.out j
        have hsz := hb.size
        obtain ⟨c0, c1, c2, c3, c4, c5⟩ := K.out _ hb
        clear hown hll
        by_cases hlt : j < n
        · obtain ⟨g, rfl, hgl, hcell, hs5⟩ := HCELL.out _ hb j hlt
          have HT := Lib.hid (HTK.out j hlt)
          generalize S.getD j 0 = s at *
          have HT1 := Lib.hid (show lessL true (S.take (j+1)) k = lessL true (S.take j) k ++ [narrow s k] from by rw [HT.out]; rfl)
          have HTW := Lib.hid (fun W => toldWithout_any s k W (by omega) hs5)
          obtain ⟨u, hu⟩ : ∃ u, u = narrow s k := ⟨_, rfl⟩
          rw [← hu] at HT1 HTW
          clear hu
          go_wp2_with (first
            | (go_at_call 88; refine (has_any s k _ (by omega) hs5).mono ?_; rintro e w' ⟨rfl, rfl⟩; rw [HB.out])
            | (go_at_call 89; refine (HTW.out _).mono ?_; rintro e w5 ⟨rfl, hb5⟩; have hz5 := hb5.size)
            | (at_builtin; refine wpList_append_lies _ rfl _ _ _ rfl w2.heap.size 96 i0 _ 1 8 Try.underlying68 hi0 hz0 hz1 hz2i rfl (by decide) (.slice C l cC) l (setsV (lessL true (S.take j) k)) rfl ((owns_now HO.out hb5).alloc _) ⟨w5.heap.size, 0, none⟩ 1 1 [.int .u64 u] rfl rfl (World.news_of_block (cs := #[.int .u64 u]) (t := 96) (fr := (0, 0)) (heap_alloc_new w5 _)) (by simp [Value.oneCell']) (by omega) (by unfold maxLen; omega) (by omega) (by simp; omega) (w5.heap.size + 1) (by simp) ?_; intro gg cap3 w6 hown6 hgrow hat hlt6))
          have hb6 : Below w2.heap.size w2 w6 := ((bfrom hb hb5).alloc (bfrom hb hb5).size (.cells #[.int .u64 u] 96)).grown hgrow (by simp; omega) fun i hi => owns_le HO.out hi
          go_roundw
          case rel => exact ⟨j + 1, l + 1, some ⟨gg, 0, none⟩, cap3, by omega, by rw [HT1.out, List.length_append, ← HL2.out]; rfl, by go_num, rfl, by rw [HT1.out]; simpa [setsV] using hown6, hb6⟩
          case measure => simp [intOf]; omega
        · obtain rfl : j = n := by omega
          have HG := Lib.hid (HGA.out (lessL true S k) (q : Int) _ l cC C wr (by rw [HL2.out, HALL.out]) (by omega) HLT.out (by rw [← HALL.out]; exact HO.out))
          rw [← HSG.out] at HG
          have HM1 := Lib.hid (okM_yes (m := m - 1) HYOK.out)
          have HM2 := Lib.hid (okG_yes (S := lessS true m L k) HYOK.out)
          obtain ⟨T, hT⟩ : ∃ T, T = lessS true m L k := ⟨_, rfl⟩
          rw [← hT] at HG HM2
          have HTT := Lib.hid hT
          clear hT
          obtain ⟨p, hp⟩ : ∃ p, p = T.length := ⟨_, rfl⟩
          rw [← hp] at HG
          have HJ := Lib.hid (show (setsL T).length = p from by rw [setsL_len, hp])
          clear hp
          go_wp2_with fail
          try rw [HQ.out]
          refine HG.out.mono ?_
          rintro e w7 ⟨D, cD, rfl, hl7, hb7⟩
          have HL7 := Lib.hid hl7
          have g7 := bfrom hb hb7
          have hz7 := hb7.size
          clear hl7 c0 c1 c2 c3 c4 c5
          obtain ⟨c0, c1, c2, c3, c4, c5⟩ := K.out _ g7
          go_wp2
          refine bodyPost_ret (v := .tuple #[.agg #[.int .i64 q, .slice D p cD], .bool true]) (by simp [results, Try.results47, go_sem, c2, c3]) rfl ?_
          rw [HM1.out, ← HTT.out, HM2.out, HYOK.out, HQ.out]
          refine ⟨D, cD, by rw [HJ.out], ?_, ?_⟩
          · rw [HJ.out]
            exact Lies.rss_wide (Lies.far (Lies.far HL7.out (by first | omega | (simp; omega)) _) (by first | omega | (simp; omega)) _) (by omega) (by first | exact Nat.le_refl _ | simp) (by first | exact Nat.le_refl _ | simp)
          · exact ((bfrom HGW2.out g7).setCell (by simp) _).setCell (by simp) _
  · have HNOK := Lib.hid (lessOk_bad (wt := true) hg)
    obtain ⟨n1, n2⟩ := NO.out HNOK.out
    have N1 := Lib.hid n1
    have N2 := Lib.hid n2
    have b2 := below1 w1 (.cells #[.int .i64 0, .slice none 0 0] 71)
    have hr2 := hr1.now b2
    obtain ⟨w2, hw2⟩ : ∃ w2, w2 = w1.alloc (.cells #[.int .i64 0, .slice none 0 0] 71) := ⟨_, rfl⟩
    have hgw : Below w.heap.size w w2 := by rw [hw2]; exact bfrom g1 b2
    rw [← hw2] at hr2
    obtain ⟨f0, f1⟩ := KF.out _ hr2
    obtain ⟨c2, c3⟩ := hr2.cells
    clear hg n1 n2 b2 hr1 g1
    go_wp2_with fail
    rw [← hw2]
    clear hw2
    go_quiet (fail)
    go_wp2
    refine bodyPost_ret (v := .tuple #[.agg #[.int .i64 0, .slice none 0 0], .bool false]) (by simp [results, Try.results47, go_sem, c2, c3]) rfl ?_
    rw [N1.out, N2.out, HNOK.out]
    exact AnsG.none_ RSS.none_ (((below_drewN hgw _).setCell (by simp) _).setCell (by simp) _)
end Go.Proofs.Ytipplbcjdcdapaa
