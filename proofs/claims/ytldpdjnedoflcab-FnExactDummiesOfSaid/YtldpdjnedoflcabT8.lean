/- Contract of the model's DummiesOf. -/
import Derived.Test.YtldpdjnedoflcabT6
import Derived.Outline
namespace Go.Proofs.Ytldpdjnedoflcab
open Go.RowKit Vo

theorem testBit_strip (d : Nat) (S : List Nat) (hS : ∀ s ∈ S, s < 512) (i : Nat) (hi : i < 64) : (strip d S).testBit i = (d.testBit i && !(S.any fun s => s.testBit i)) := by
  induction S generalizing d with
  | nil => simp [strip]
  | cons a S ih =>
    have ha := hS a (by simp)
    show (strip (d &&& (18446744073709551615 - a)) S).testBit i = _
    rw [ih _ (fun s h => hS s (by simp [h])), Nat.testBit_and]
    have := @Nat.testBit_two_pow_sub_succ a 64 (by omega) i
    rw [show 18446744073709551615 - a = 2^64 - (a + 1) by omega, this]
    simp [hi, Bool.and_assoc]
/-- Is i a member of one of these sets? -/
def usedB (S : List Nat) (i : Nat) : Bool := S.any fun s => s.testBit i
theorem usedB_more (S : List Nat) (j : Nat) (h : j < S.length) (i : Nat) : usedB (S.take (j+1)) i = (usedB (S.take j) i || (S.getD j 0).testBit i) := by
  unfold usedB
  rw [List.take_add_one, List.any_append, List.getElem?_eq_getElem h, List.getD_eq_getElem?_getD, List.getElem?_eq_getElem h]
  simp
/-- Is i among these? -/
def amongB (l : List Int) (i : Nat) : Bool := l.any fun z => z == (i : Int)
theorem amongB_more (l : List Int) (t z : Nat) (h : l[t]? = some (z : Int)) (i : Nat) : amongB (l.take (t+1)) i = (amongB (l.take t) i || decide (i = z)) := by
  unfold amongB
  rw [List.take_add_one, h, List.any_append]
  congr 1
  simp
  by_cases e : i = z
  · subst e; simp
  · simp [e]; omega
theorem amongB_mem {s i : Nat} (hi : i < 9) : amongB (mem s 9) i = s.testBit i := by
  unfold amongB
  rw [Bool.eq_iff_iff, List.any_eq_true]
  constructor
  · rintro ⟨x, hx, e⟩
    obtain ⟨j, _, h2, h3⟩ := mem_iff.1 hx
    have e2 : x = (i : Int) := by simpa using e
    have : j = i := by omega
    subst this; exact h3
  · intro h
    exact ⟨i, mem_iff.2 ⟨i, hi, rfl, h⟩, by simp⟩

set_option maxRecDepth 20000 in
set_option maxHeartbeats 4000000 in
theorem sDummiesOf_any (q : Int) (A : Option Addr) (n cap : Nat) (ws : List Int) (w : World) (hm : n ≤ 9223372036854775807) (hk : Known w A n ws) :
    Calls Try.prog 28 #[.agg #[.int .i64 q, .slice A n cap]] w fun e w' => PairAt (dummyL q ws n) (goodB q ws n) w w' e := by
  have HK := Lib.hid hk
  clear hk
  have hx := Box.new w (.int .i64 q) (.slice A n cap)
  have hb0 := below1 w (.cells #[.int .i64 q, .slice A n cap] 29)
  by_cases hg : Vo.Good q ws n
  · obtain ⟨b, off, rfl, hsl⟩ := HK.out.get hg.lo
    have HSL := Lib.hid hsl
    have HOK := Lib.hid hg.ok
    have HGB := Lib.hid (goodB_true hg)
    have hn9 := hg.hi
    have hn1 := hg.lo
    have hn10 : n < 10 := by omega
    have h512 := pow_lt hn9
    obtain ⟨S, hS⟩ : ∃ S, S = (inOrder n).filter (leastP (winB q ws n) n) := ⟨_, rfl⟩
    have HIN := Lib.hid (show ∀ s ∈ S, s < 2^n from fun s h => mem_inOrder.1 (List.mem_filter.1 (by rw [← hS]; exact h)).1)
    have HV := Lib.hid (show dummyL q ws n = mem (strip (2^n - 1) S) n from by
      rw [dummyL_yes HGB.out, ← hS]
      exact mem_stop (Nat.lt_of_le_of_lt (strip_le _ _) (by have := Nat.two_pow_pos n; omega)) hn9)
    have HBIT := Lib.hid (show ∀ i, i < n → (strip (2^n - 1) S).testBit i = !usedB S i from fun i hi => by
      rw [testBit_strip _ _ (fun s h => by have := HIN.out s h; omega) i (by omega), Nat.testBit_two_pow_sub_one]
      simp [hi, usedB])
    have HBN := Lib.hid (show ∀ j, j < S.length → ∀ z, (S.getD j 0).testBit z = true → z < n from fun j hj z hz => by
      rcases Nat.lt_or_ge z n with h | h
      · exact h
      · have hs : S.getD j 0 < 2^n := HIN.out _ (by rw [List.getD_eq_getElem?_getD, List.getElem?_eq_getElem hj]; exact List.getElem_mem hj)
        rw [Nat.testBit_lt_two_pow (Nat.lt_of_lt_of_le hs (Nat.pow_le_pow_right (by omega) h))] at hz; cases hz)
    have hSL : S.length ≤ 512 := by
      have h1 := List.length_filter_le (leastP (winB q ws n) n) (inOrder n)
      rw [← hS] at h1
      have h2 := inOrder_len n
      omega
    have HS := Lib.hid hS
    clear hg hsl hS
    have hmk := run_make_row' (P := Try.prog) 55 4 (.bool false) 1 Try.underlying55 infoBool rfl .i64 .i64 n (by omega) (by omega)
    obtain ⟨i0, hi0, hz0, hz1, hz2⟩ := infoIntParts
    go_enter Try.func28, Try.ntmps28
    go_wp2_with fail
    refine (voGood_any q _ n cap ws _ hm (HK.out.now hb0)).mono ?_
    rintro e w1 ⟨rfl, hb⟩
    rw [HGB.out]
    have g1 := bfrom hb0 hb
    have hz1' := g1.size
    have hs1 := Lib.hid (HSL.out.now g1)
    have hx1 := hx.now hb
    obtain ⟨hc0, hc1⟩ := hx1.cells
    have hz1u : w.heap.size < w1.heap.size := hx1.lt
    have b2 := below1 w1 (.cells (madeCells #[.bool false] n) 4)
    have HU := Lib.hid (show Own (w1.alloc (.cells (madeCells #[.bool false] n) 4)) w1.heap.size 4 n (fun _ => .bool false) from (Own.of_row (World.rowIs_made w1 (.bool false) n 4)))
    have hs2 := Lib.hid (hs1.out.now b2)
    go_wp2_with (first
      | (go_at_call 54; refine (voWins_any q b off n cap ws _ hn10 HOK.out hs2.out).mono ?_; rintro e w3 ⟨g3, cap3, rfl, hg3, hown3, hb3⟩; have HO3 := Lib.hid hown3; clear hown3; have b3 := bfrom b2 hb3; have hsz3 := hb3.size)
      | (go_at_call 53; refine (voLeast_any (winB q ws n) n g3 cap3 _ hn10 HO3.out).mono ?_; rintro e w4 ⟨v, rfl, hr, hb4⟩; rw [← HS.out] at hr; obtain ⟨A4, cap4, rfl, hr⟩ := hr; rw [setsL_len] at hr ⊢; have HR := Lib.hid hr; clear hr; have b4 := bfrom b3 hb4; have hsz4 := hb4.size))
    have HU4 := Lib.hid (Own.below (Own.below HU.out hb3 HU.out.lt) hb4 (Nat.lt_of_lt_of_le HU.out.lt hsz3))
    have hu3 : w1.heap.size < w3.heap.size := by have := hsz3; simp at this; omega
    clear hc0 hc1 HU HO3 hb hx1 hx hb3 hb4
    obtain ⟨m, hmS⟩ : ∃ m, m = S.length := ⟨_, rfl⟩
    have HMS := Lib.hid hmS
    rw [← hmS] at HR HBN hSL ⊢
    clear hmS
    go_loopw [6, 8, 23] (fun _ _ i wr => ∃ j : Nat, j ≤ m ∧ i = .int .i64 j ∧ Own wr w1.heap.size 4 n (fun i => .bool (usedB (S.take j) i)) ∧ (∀ k, w3.heap.size ≤ k → k < w4.heap.size → wr.heap[k]? = w4.heap[k]?) ∧ Below w1.heap.size w1 wr) (fun _ _ i _ => m - (intOf i).toNat)
    case atStart => exact ⟨0, Nat.zero_le _, rfl, HU4.out.congr fun i _ => by simp [usedB], fun _ _ _ => rfl, b4⟩
    case round =>
      obtain ⟨j, hj, rfl, hou, hsm, hbr⟩ := hrel
      have HOU := Lib.hid hou
      have HSM := Lib.hid hsm
      clear hou hsm
      by_cases hlt : j < m
      · obtain ⟨g, f, rfl, hg1, hg2, hof, hri⟩ : ∃ g f, A4 = some ⟨g, 0, none⟩ ∧ w3.heap.size ≤ g ∧ g < w4.heap.size ∧ Own w4 g 22 m f ∧ ∀ i, i < m → RI ((setsL S).getD i []) w3.heap.size w4.heap.size (f i) w4 := by
          rcases HR.out with h | h
          · omega
          · exact h
        have hcell : wr.cell? ⟨g, j, none⟩ = some (f j) := (hof.of_block (HSM.out g hg1 hg2)).cell hlt
        have hrj := hri j hlt
        have hsj : (setsL S).getD j [] = mem (S.getD j 0) 9 := by
          rw [List.getD_eq_getElem?_getD, List.getD_eq_getElem?_getD, setsL, List.getElem?_map, List.getElem?_eq_getElem (by have := HMS.out; omega)]; rfl
        rw [hsj] at hrj
        have HBJ := Lib.hid (HBN.out j hlt)
        have HUM := Lib.hid (show ∀ i, usedB (S.take (j+1)) i = (usedB (S.take j) i || (S.getD j 0).testBit i) from usedB_more S j (by have := HMS.out; omega))
        obtain ⟨s, hs⟩ : ∃ s, S.getD j 0 = s := ⟨_, rfl⟩
        rw [hs] at hrj HBJ HUM
        clear hs hsj hri hof
        obtain ⟨xa, xc, hfj, hxa⟩ := hrj
        rw [hfj] at hcell
        clear hfj
        obtain ⟨l, hl⟩ : ∃ l, l = (mem s 9).length := ⟨_, rfl⟩
        have hl9 : l ≤ 9 := by have := mem_len s 9; omega
        have HXA := Lib.hid hxa
        have HAT := Lib.hid (show ∀ t, t < l → ∃ z : Nat, (mem s 9)[t]? = some (z : Int) ∧ z < n from fun t ht => by
          obtain ⟨z, h1, _, h3⟩ := mem_at (s := s) (t := t) (by omega)
          exact ⟨z, h1, HBJ.out z h3⟩)
        have HTK := Lib.hid (show (mem s 9).take l = mem s 9 from by rw [hl, List.take_length])
        rw [← hl] at HXA hcell
        clear hl hxa
        go_wp2_with fail
        go_loopw [8, 29] (fun _ i wr => ∃ t : Nat, t ≤ l ∧ i = .int .i64 t ∧ Own wr w1.heap.size 4 n (fun i => .bool (usedB (S.take j) i || amongB ((mem s 9).take t) i)) ∧ (∀ k, w3.heap.size ≤ k → k < w4.heap.size → wr.heap[k]? = w4.heap[k]?) ∧ Below w1.heap.size w1 wr) (fun _ i _ => l - (intOf i).toNat)
        case atStart => exact ⟨0, Nat.zero_le _, rfl, HOU.out.congr fun i _ => by simp [amongB], HSM.out, hbr⟩
        case round =>
          obtain ⟨t, ht, rfl, hou2, hsm2, hbr2⟩ := hrel
          have HO2 := Lib.hid hou2
          have HSM2 := Lib.hid hsm2
          clear hou2 hsm2
          by_cases htl : t < l
          · obtain ⟨z, hz, hzn⟩ := HAT.out t htl
            obtain ⟨g5, rfl, hg51, hg52, hi5⟩ : ∃ g, xa = some ⟨g, 0, none⟩ ∧ w3.heap.size ≤ g ∧ g < w4.heap.size ∧ Ints w4 g l (mem s 9) := by
              rcases HXA.out with h | h
              · omega
              · exact h
            have hcell5 : wr.cell? ⟨g5, t, none⟩ = some (.int .i64 z) := by
              have h1 := (Own.of_block hi5 (HSM2.out g5 hg51 hg52)).cell htl
              rw [h1, List.getD_eq_getElem?_getD, hz]; rfl
            have hold := HO2.out.cell hzn
            have hfr := HO2.out.frozen z
            have hgu := HO2.out.lt
            have HAM := Lib.hid (amongB_more (mem s 9) t z hz)
            have HSET := Lib.hid (HO2.out.set z (.bool true))
            have b7 := hbr2.setCell (p := ⟨w1.heap.size, z, none⟩) (Nat.le_refl _) (.bool true)
            clear hi5 hz hcell
            go_wp2_with fail
            go_roundw
            case rel =>
              refine ⟨t + 1, by omega, by go_num, HSET.out.congr fun i hi => ?_, fun k k1 k2 => (Below.heap_setCell _ _ _ k (by show k ≠ w1.heap.size; omega)).trans (HSM2.out k k1 k2), b7⟩
              rw [HAM.out i]
              by_cases e : i = z
              · rw [if_pos e, e]; simp
              · rw [if_neg e]; simp [e]
            case measure => simp [intOf]; omega
          · obtain rfl : l = t := by omega
            go_wp2_with fail
            go_roundw
            case rel =>
              refine ⟨j + 1, by omega, by go_num, HO2.out.congr fun i hi => ?_, HSM2.out, hbr2⟩
              rw [HTK.out, amongB_mem (by omega), HUM.out i]
            case measure => simp [intOf]; omega
      · obtain rfl : m = j := by omega
        obtain ⟨d, hd⟩ : ∃ d, d = strip (2^n - 1) S := ⟨_, rfl⟩
        rw [← hd] at HV HBIT
        clear hd
        have HOU2 := Lib.hid (HOU.out.congr (f' := fun i => .bool (!d.testBit i)) fun i hi => by
          show Value.bool (usedB (S.take m) i) = _
          rw [show S.take m = S from by rw [HMS.out, List.take_length], HBIT.out i hi, Bool.not_not])
        have hszr : w1.heap.size + 1 ≤ wr.heap.size := HOU2.out.lt
        clear HOU HSM HR HBIT HBN HIN
        go_wp2_with fail
        go_loopw [9, 10, 11, 40] (fun v _ _ i wr => ∃ (k : Nat) (A : Option Addr) (cap : Nat), k ≤ n ∧ i = .int .i64 k ∧ v = .slice A (mem d k).length cap ∧ wr.ownsRow (w1.heap.size + 1) 3 1 (.slice A (mem d k).length cap) (mem d k).length ((mem d k).map (Value.int .i64)) ∧ Own wr w1.heap.size 4 n (fun i => .bool (!d.testBit i)) ∧ Below w1.heap.size w1 wr) (fun _ _ _ i _ => n - (intOf i).toNat)
        case atStart => exact ⟨0, none, 0, by omega, rfl, rfl, World.ownsRow_nil _ _ _ _, HOU2.out, hbr⟩
        case round =>
          obtain ⟨k, A, cap4, hk, rfl, rfl, hown, hou, hbr3⟩ := hrel
          have HO := Lib.hid hown
          have HU3 := Lib.hid hou
          have hszq : w1.heap.size + 1 ≤ wr.heap.size := hou.lt
          have hlen := mem_len d k
          clear hown hou
          by_cases hlt : k < n
          · have hcell := HU3.out.cell hlt
            have HST := Lib.hid (show mem d (k+1) = mem d k ++ if d.testBit k then [(k : Int)] else [] from rfl)
            obtain ⟨L, hL⟩ : ∃ L, mem d k = L := ⟨_, rfl⟩
            rw [hL] at HO HST hlen ⊢
            clear hL
            obtain ⟨c, hc1⟩ : ∃ c, c = L.length := ⟨_, rfl⟩
            have HM := Lib.hid hc1
            rw [← hc1] at HO hlen ⊢
            clear hc1
            cases hbit : d.testBit k
            · rw [hbit] at hcell HST
              clear hbit
              go_wp2
              go_roundw
              case rel => exact ⟨k + 1, A, cap4, by omega, by go_num, by rw [HST.out, HM.out]; simp, by rw [HST.out]; simpa [HM.out] using HO.out, HU3.out, hbr3⟩
              case measure => simp [intOf]; omega
            · rw [hbit] at hcell HST
              clear hbit
              go_wp2_with (at_builtin; refine wpList_append_lies _ rfl _ _ _ rfl (w1.heap.size + 1) 3 i0 _ 1 8 Try.underlying22 hi0 hz0 hz1 hz2 rfl (by decide) (.slice A c cap4) c (L.map (Value.int .i64)) rfl (HO.out.alloc _) ⟨wr.heap.size, 0, none⟩ 1 1 [.int .i64 k] rfl rfl (World.news_of_block (cs := #[.int .i64 k]) (t := 3) (fr := (0, 0)) (heap_alloc_new wr _)) (by simp [Value.oneCell']) (by omega) (by unfold maxLen; omega) (by omega) (by simp; omega) (wr.heap.size + 1) (by simp) ?_; intro gg cap2 w5 hown5 hgrow hat hlt5)
              have b5 : Below w1.heap.size w1 w5 := (hbr3.alloc hbr3.size (.cells #[.int .i64 k] 3)).grown hgrow (by simp; omega) fun i hi => by have := owns_le HO.out hi; omega
              have HU5 := Lib.hid (Own.grown (HU3.out.alloc (.cells #[.int .i64 k] 3)) hgrow (owns_ne HO.out (by omega)))
              go_roundw
              case rel => exact ⟨k + 1, some ⟨gg, 0, none⟩, cap2, by omega, by go_num, by rw [HST.out, HM.out]; simp, by rw [HST.out]; simpa [HM.out] using hown5, HU5.out, b5⟩
              case measure => simp [intOf]; omega
          · obtain rfl : n = k := by omega
            go_wp2
            go_ret2
            exact ⟨A, cap4, by rw [HV.out, HGB.out]; rfl, by rw [HV.out]; exact owns_less HO.out (by omega), bfrom g1 hbr3⟩
  · have HGB := Lib.hid (goodB_false hg)
    clear hg
    go_enter Try.func28, Try.ntmps28
    go_wp2_with fail
    refine (voGood_any q A n cap ws _ hm (HK.out.now hb0)).mono ?_
    rintro e w1 ⟨rfl, hb⟩
    rw [HGB.out]
    go_wp2
    go_ret2
    rw [dummyL_no HGB.out, HGB.out]
    exact PairAt.none_ (bfrom hb0 hb)
theorem sDummiesOf_ans (q : Int) (A : Option Addr) (n cap : Nat) (ws : List Int) (w : World) (hm : n ≤ 9223372036854775807) (hk : Known w A n ws) :
    Calls Try.prog 28 #[.agg #[.int .i64 q, .slice A n cap]] w fun e w' => Ans (RS (dummyL q ws n)) (goodB q ws n) w w' e := (sDummiesOf_any q A n cap ws w hm hk).mono fun _ _ h => h.ans
theorem dummyL_len (q : Int) (ws : List Int) (n : Nat) : (dummyL q ws n).length ≤ 1048576 := by
  unfold dummyL
  split
  · exact Nat.le_trans (mem_len _ _) (by omega)
  · simp
end Go.Proofs.Ytldpdjnedoflcab
