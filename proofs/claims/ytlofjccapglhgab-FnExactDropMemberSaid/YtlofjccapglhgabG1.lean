/- Contract of the program's DropMember. -/
import Derived.Test.YtlofjccapglhgabM2
import Derived.Test.YtlofjccapglhgabN13
import Derived.Outline
namespace Go.Proofs.Ytlofjccapglhgab
open Go.RowKit Vo

theorem box_fr {w : World} {g : Nat} {u v : Value} (h : BoxT 28 w g u v) : w.frozen? ⟨g, 1, none⟩ = false := by
  unfold BoxT at h; simp [World.frozen?, h]
theorem owns_far {w : World} {base : Nat} {e : TypeId} {size : Nat} {v : Value} {n : Nat} {xs : List Value} (h : w.ownsRow base e size v n xs) {p : Addr} (hp : p.block < base) (u : Value) : (w.setCell p u).ownsRow base e size v n xs := by
  obtain ⟨h1, h2⟩ := h
  refine ⟨h1, ?_⟩
  rcases h2 with h2 | ⟨g, cap, cur, hv, hg, hh, r⟩
  · exact Or.inl h2
  · exact Or.inr ⟨g, cap, cur, hv, hg, (Below.heap_setCell w p u g (by omega)).trans hh, r⟩
theorem BoxT.set1 {t : TypeId} {w : World} {g : Nat} {u v : Value} (h : BoxT t w g u v) (b : Value) : BoxT t (w.setCell ⟨g, 1, none⟩ b) g u b := by
  unfold BoxT at *
  simp [World.setCell, Array.getElem?_modify, h]

theorem bfromB {B : Nat} {w w1 w2 : World} (h : Below B w w1) (k : Below w1.heap.size w1 w2) (hB : B ≤ w1.heap.size) : Below B w w2 := h.trans (k.mono hB)
/-- The first j weights but that of k. -/
def dropL (ws : List Int) (k j : Nat) : List Int := ((List.range j).filter fun i => decide (i ≠ k)).map fun i => ws.getD i 0
theorem dropL_yes {ws : List Int} {k j : Nat} (h : j ≠ k) : dropL ws k (j+1) = dropL ws k j ++ [ws.getD j 0] := by simp [dropL, List.range_succ, List.filter_append, h]
theorem dropL_no {ws : List Int} {k j : Nat} (h : j = k) : dropL ws k (j+1) = dropL ws k j := by simp [dropL, List.range_succ, List.filter_append, h]
theorem dropL_len (ws : List Int) (k j : Nat) : (dropL ws k j).length = if k < j then j - 1 else j := by
  induction j with
  | zero => simp [dropL]
  | succ j ih =>
    by_cases e : j = k
    · rw [dropL_no e, ih, if_neg (by omega), if_pos (by omega)]; omega
    · rw [dropL_yes e, List.length_append, ih]
      by_cases h : k < j
      · rw [if_pos h, if_pos (by omega)]; simp; omega
      · rw [if_neg h, if_neg (by omega)]; simp
def dropOk (q : Int) (ws : List Int) (n : Nat) (x : Int) : Bool := memOk q ws n x && goodB q (dropL ws x.toNat n) (n - 1)
def dropQ (q : Int) (ws : List Int) (n : Nat) (x : Int) : Int := if dropOk q ws n x then q else 0
def dropN (q : Int) (ws : List Int) (n : Nat) (x : Int) : Nat := if dropOk q ws n x then n - 1 else 0
theorem dropQ_yes {q ws n x} (h : dropOk q ws n x = true) : dropQ q ws n x = q := if_pos h
theorem dropQ_no {q ws n x} (h : dropOk q ws n x = false) : dropQ q ws n x = 0 := if_neg (by rw [h]; simp)
theorem dropN_yes {q ws n x} (h : dropOk q ws n x = true) : dropN q ws n x = n - 1 := if_pos h
theorem dropN_no {q ws n x} (h : dropOk q ws n x = false) : dropN q ws n x = 0 := if_neg (by rw [h]; simp)
theorem dropN_le (q : Int) (ws : List Int) (n : Nat) (x : Int) : dropN q ws n x ≤ 9 := by
  cases h : dropOk q ws n x with
  | true =>
    rw [dropN_yes h]
    unfold dropOk at h
    simp at h
    have := (memOk_parts h.1).1.hi
    omega
  | false => rw [dropN_no h]; omega

set_option maxRecDepth 20000 in
set_option maxHeartbeats 4000000 in
theorem dropMember_any (q : Int) (A : Option Addr) (n cap : Nat) (ws : List Int) (x : Int) (w : World) (hm : n ≤ 9223372036854775807) (hk : Known w A n ws) (_hx : (Lit.int .i64 x).wf = true) :
    Calls Try.prog 31 #[.agg #[.int .i64 q, .slice A n cap], .int .i64 x] w fun e w' => ComAt (dropQ q ws n x) (dropN q ws n x) (dropL ws x.toNat n) (dropOk q ws n x) w w' e := by
  have HK := Lib.hid hk
  clear hk
  have hb0 : Below w.heap.size w ((w.alloc (.cells #[.int .i64 q, .slice A n cap] 28)).alloc (.cells #[.int .i64 0, .slice none 0 0] 28)) := (below1 w _).alloc (by simp) _
  have hx := (Box.new w (.int .i64 q) (.slice A n cap)).alloc (.cells #[.int .i64 0, .slice none 0 0] 28)
  have hr := Box.new (w.alloc (.cells #[.int .i64 q, .slice A n cap] 28)) (.int .i64 0) (.slice none 0 0)
  simp only [World.size_alloc] at hr
  have KF := Lib.hid (show ∀ W, BoxT 28 W (w.heap.size + 1) (.int .i64 0) (.slice none 0 0) → (W.frozen? ⟨w.heap.size + 1, 0, none⟩ = false ∧ W.frozen? ⟨w.heap.size + 1, 1, none⟩ = false) from fun W h => by unfold BoxT at h; exact ⟨by simp [World.frozen?, h], by simp [World.frozen?, h]⟩)
  cases hok : memOk q ws n x with
  | true =>
    obtain ⟨hg, hx0, hxn⟩ := memOk_parts hok
    have HGB := Lib.hid (goodB_true hg)
    obtain ⟨b, off, rfl, hsl⟩ := HK.out.get hg.lo
    have HW := Lib.hid hsl
    have hn9 := hg.hi
    have hn1 := hg.lo
    have hn10 : n < 10 := by omega
    have HIN := Lib.hid (inB_yes (x := x) (lo := 0) (hi := (n : Int) - 1) hx0 (by omega))
    obtain ⟨k, rfl⟩ : ∃ k : Nat, x = k := ⟨x.toNat, by omega⟩
    have hkn : k < n := by omega
    have HDO := Lib.hid (show dropOk q ws n k = goodB q (dropL ws k n) (n - 1) from by unfold dropOk; rw [hok, Int.toNat_natCast, Bool.true_and])
    have HLN := Lib.hid (dropL_len ws k n)
    rw [Int.toNat_natCast]
    obtain ⟨i0, hi0, hz0, hz1, hz2⟩ := infoIntParts
    clear hg hsl hok
    go_enter Try.func31, Try.ntmps31
    go_wp2_with fail
    refine (isCommittee_any q _ n cap ws _ hm (HK.out.now hb0)).mono ?_
    rintro e w1 ⟨rfl, hb⟩
    rw [HGB.out]
    have hx1 := hx.now hb
    have hr1 := hr.now hb
    have g1 := bfrom hb0 hb
    obtain ⟨hc0, hc1⟩ := hx1.cells
    go_wp2_with (first
      | (go_at_call 41; refine (members_any _ _ n cap _).mono ?_; rintro e w2 ⟨rfl, hb2⟩; have hx2 := hx1.now hb2; have hr2 := hr1.now hb2; have g2 := bfrom g1 hb2; clear hc0 hc1; obtain ⟨hc0, hc1⟩ := hx2.cells)
      | (go_at_call 40; refine (isMember_any n k _ (by omega)).mono ?_; rintro e w3 ⟨rfl, rfl⟩; rw [HIN.out]; obtain ⟨a0, a1⟩ := (hx2.alloc (.cells #[.int .i64 q, .slice none 0 0] 28)).cells))
    have hnb : w.heap.size + 1 < w2.heap.size := hr2.lt
    have b5 := below1 w2 (.cells #[.int .i64 q, .slice none 0 0] 28)
    have g5 := bfrom g2 b5
    have hx5 := hx2.now b5
    have hr5 := hr2.now b5
    have hn5 := Box.new w2 (.int .i64 q) (.slice none 0 0)
    have hsz5 : (w2.alloc (.cells #[.int .i64 q, .slice none 0 0] 28)).heap.size = w2.heap.size + 1 := by simp
    obtain ⟨w5, hw5⟩ : ∃ w5, w5 = w2.alloc (.cells #[.int .i64 q, .slice none 0 0] 28) := ⟨_, rfl⟩
    rw [← hw5] at g5 hx5 hr5 hn5 hsz5 ⊢
    obtain ⟨nb, hnbe⟩ : ∃ nb, nb = w2.heap.size := ⟨_, rfl⟩
    rw [← hnbe] at hn5 hsz5 hnb ⊢
    have hg5 := g5.size
    clear hc0 hc1 a0 a1 hw5 hb b5 hx1 hr1 g1 hnbe hb2 hx2 hr2 g2
    go_loopw [7, 8, 26] (fun _ _ i wr => ∃ (j : Nat) (B : Option Addr) (cp : Nat), j ≤ n ∧ i = .int .i64 j ∧ wr.ownsRow w5.heap.size 3 1 (.slice B (dropL ws k j).length cp) (dropL ws k j).length ((dropL ws k j).map (Value.int .i64)) ∧ Box wr nb (.int .i64 q) (.slice B (dropL ws k j).length cp) ∧ (∀ k, k < w5.heap.size → k ≠ nb → wr.heap[k]? = w5.heap[k]?) ∧ w5.heap.size ≤ wr.heap.size ∧ Below w.heap.size w wr) (fun _ _ i _ => n - (intOf i).toNat)
    case atStart => exact ⟨0, none, 0, Nat.zero_le _, rfl, World.ownsRow_nil _ _ _ _, hn5, fun _ _ _ => rfl, Nat.le_refl _, g5⟩
    case round =>
      obtain ⟨j, B, cp, hj, rfl, hown, hnr, hsm, hszr, hbr⟩ := hrel
      have HO := Lib.hid hown
      have HSM := Lib.hid hsm
      have hrr : BoxT 28 _ (w.heap.size + 1) (.int .i64 0) (.slice none 0 0) := (hsm _ hr5.lt (by omega)).trans hr5
      clear hown hsm
      by_cases hlt : j < n
      · have hcell := (HW.out.now hbr).cell j hlt
        have hlen : (dropL ws k j).length ≤ 9 := by rw [dropL_len]; split <;> omega
        by_cases hjk : j = k
        · have HST := Lib.hid (dropL_no (ws := ws) hjk)
          have hne : ((j : Int) != (k : Int)) = false := by simp [hjk]
          have hne2 : ((j : Int) == (k : Int)) = true := by simp [hjk]
          clear hjk
          generalize ws.getD j 0 = y at *
          go_wp2
          go_roundw
          case rel => exact ⟨j + 1, B, cp, by omega, by go_num, by rw [HST.out]; exact HO.out, by rw [HST.out]; exact hnr, HSM.out, hszr, hbr⟩
          case measure => simp [intOf]; omega
        · have HST := Lib.hid (dropL_yes (ws := ws) hjk)
          have hne : ((j : Int) != (k : Int)) = true := by simp; omega
          have hne2 : ((j : Int) == (k : Int)) = false := by simp; omega
          clear hjk
          obtain ⟨y, hy⟩ : ∃ y, ws.getD j 0 = y := ⟨_, rfl⟩
          rw [hy] at hcell HST
          clear hy
          obtain ⟨M, hM⟩ : ∃ M, dropL ws k j = M := ⟨_, rfl⟩
          rw [hM] at HO HST hlen hnr
          clear hM
          obtain ⟨c, hc⟩ : ∃ c, c = M.length := ⟨_, rfl⟩
          rw [← hc] at HO hlen hnr
          have HC := Lib.hid hc
          clear hc
          obtain ⟨e0, e1⟩ := hnr.cells
          go_wp2_with (at_builtin; refine wpList_append_lies _ rfl _ _ _ rfl w5.heap.size 3 i0 _ 1 8 Try.underlying22 hi0 hz0 hz1 hz2 rfl (by decide) (.slice B c cp) c (M.map (Value.int .i64)) rfl (HO.out.alloc _) ⟨wr.heap.size, 0, none⟩ 1 1 [.int .i64 y] rfl rfl (World.news_of_block (cs := #[.int .i64 y]) (t := 3) (fr := (0, 0)) (heap_alloc_new wr _)) (by simp [Value.oneCell']) (by omega) (by unfold maxLen; omega) (by omega) (by simp; omega) (wr.heap.size + 1) (by simp) ?_; intro gg cap4 w7 hown7 hgrow7 hat7 hlt7; have hn7 := ((hnr.alloc (.cells #[.int .i64 y] 3)).grown hgrow7 (owns_ne HO.out (by omega))); obtain ⟨k0, k1⟩ := hn7.cells; have k2 := box_fr hn7)
          have hz7 := hgrow7.size
          have hz7' : wr.heap.size + 1 ≤ w7.heap.size := by simpa using hz7
          have b7 : Below w.heap.size w w7 := (hbr.alloc hbr.size (.cells #[.int .i64 y] 3)).grown hgrow7 (by have := hbr.size; simp; omega) fun i hi => by have := owns_le HO.out hi; omega
          have hnbl : nb < w5.heap.size := by omega
          have HN7 := Lib.hid (hn7.set1 (.slice (some ⟨gg, 0, none⟩) (c + 1) cap4))
          have HO7 := Lib.hid (owns_far hown7 (p := ⟨nb, 1, none⟩) hnbl (.slice (some ⟨gg, 0, none⟩) (c + 1) cap4))
          have HS7 := Lib.hid (show ∀ k, k < w5.heap.size → k ≠ nb → (w7.setCell ⟨nb, 1, none⟩ (.slice (some ⟨gg, 0, none⟩) (c + 1) cap4)).heap[k]? = w5.heap[k]? from fun k k1 k2 =>
            (Below.heap_setCell _ _ _ k k2).trans ((hgrow7.block k (by simp; omega) (owns_ne HO.out k1)).trans ((Below.heap_alloc wr _ k (by omega)).trans (HSM.out k k1 k2))))
          have b8 := b7.setCell (p := ⟨nb, 1, none⟩) (by show w.heap.size ≤ nb; omega) (.slice (some ⟨gg, 0, none⟩) (c + 1) cap4)
          go_roundw
          case rel =>
            refine ⟨j + 1, some ⟨gg, 0, none⟩, cap4, by omega, by go_num, ?_, ?_, HS7.out, ?_, b8⟩
            · have h := HO7.out
              rw [HST.out, List.map_append, List.length_append, ← HC.out]
              exact h
            · have h := HN7.out
              rw [HST.out, List.length_append, ← HC.out]
              exact h
            · simp
              omega
          case measure => simp [intOf]; omega
      · obtain rfl : n = j := by omega
        rw [if_pos hkn] at HLN
        rw [HLN.out] at HO hnr
        obtain ⟨e0, e1⟩ := hnr.cells
        have hkn' : Known wr B (n - 1) (dropL ws k n) := by
          by_cases h0 : n - 1 = 0
          · exact ⟨0, 0, fun h => absurd h (by omega), fun h => absurd h (by omega)⟩
          · obtain ⟨g, cp', hv, _, _, _⟩ := owns_head HO.out (by omega)
            obtain ⟨rfl, rfl⟩ : B = some ⟨g, 0, none⟩ ∧ cp = cp' := by simpa using hv
            exact Known.of (Ints.sl (Own.of_own HO.out fun i hi => by
              have : i < (dropL ws k n).length := by rw [HLN.out]; exact hi
              simp [List.getD_eq_getElem?_getD, this]))
        have HKN := Lib.hid hkn'
        clear hkn'
        cases hgd : goodB q (dropL ws k n) (n - 1) with
        | true =>
          have HGD := Lib.hid hgd
          have hn2 : 1 ≤ n - 1 := by unfold goodB at hgd; exact (of_decide_eq_true hgd).lo
          clear hgd
          rw [HGD.out] at HDO
          go_wp2_with (go_at_call 66; refine (isCommittee_any q B (n - 1) cp (dropL ws k n) _ (by omega) HKN.out).mono ?_; rintro e w8 ⟨rfl, hb8⟩; rw [HGD.out]; obtain ⟨q0, q1⟩ := (hnr.now hb8).cells; obtain ⟨d0, d1⟩ := (hrr.now hb8).cells; obtain ⟨f0, f1⟩ := KF.out _ (hrr.now hb8))
          have b8 := bfromB hbr hb8 hbr.size
          refine bodyPost_ret (v := .tuple #[.agg #[.int .i64 q, .slice B (n - 1) cp], .bool true]) (by simp [results, Try.results31, go_sem, d0, d1]) rfl ?_
          rw [HDO.out, dropQ_yes HDO.out, dropN_yes HDO.out]
          refine ⟨_, _, rfl, ?_, (b8.setCell (by simp) _).setCell (by simp) _⟩
          obtain ⟨g, cp', hv, hg, _, _⟩ := owns_head HO.out (by omega)
          obtain ⟨rfl, rfl⟩ : B = some ⟨g, 0, none⟩ ∧ cp = cp' := by simpa using hv
          refine Or.inr ⟨g, rfl, by omega, ?_⟩
          have hI : Ints _ g (n - 1) (dropL ws k n) := Own.of_own (owns_now HO.out hb8) fun i hi => by
            have : i < (dropL ws k n).length := by rw [HLN.out]; exact hi
            simp [List.getD_eq_getElem?_getD, this]
          exact (hI.far (by simp; omega) _).far (by simp; omega) _
        | false =>
          have HGD := Lib.hid hgd
          clear hgd
          rw [HGD.out] at HDO
          go_wp2_with (go_at_call 66; refine (isCommittee_any q B (n - 1) cp (dropL ws k n) _ (by omega) HKN.out).mono ?_; rintro e w8 ⟨rfl, hb8⟩; rw [HGD.out]; obtain ⟨d0, d1⟩ := (hrr.now hb8).cells; obtain ⟨f0, f1⟩ := KF.out _ (hrr.now hb8))
          have b8 := bfromB hbr hb8 hbr.size
          refine bodyPost_ret (v := .tuple #[.agg #[.int .i64 0, .slice none 0 0], .bool false]) (by simp [results, Try.results31, go_sem, d0, d1]) rfl ?_
          rw [HDO.out, dropQ_no HDO.out, dropN_no HDO.out]
          exact ⟨_, _, rfl, Or.inl ⟨rfl, rfl⟩, (b8.setCell (by simp) _).setCell (by simp) _⟩
  | false =>
    have HE := Lib.hid (show dropOk q ws n x = false from by unfold dropOk; rw [hok]; rfl)
    by_cases hg : Vo.Good q ws n
    · have HGB := Lib.hid (goodB_true hg)
      have HIN := Lib.hid (show inB x 0 ((n : Int) - 1) = false from by unfold memOk at hok; rw [HGB.out] at hok; simpa using hok)
      have hn9 := hg.hi
      clear hg hok
      go_enter Try.func31, Try.ntmps31
      go_wp2_with fail
      refine (isCommittee_any q _ n cap ws _ hm (HK.out.now hb0)).mono ?_
      rintro e w1 ⟨rfl, hb⟩
      rw [HGB.out]
      have hr1 := hr.now hb
      have g1 := bfrom hb0 hb
      obtain ⟨hc0, hc1⟩ := (hx.now hb).cells
      go_wp2_with (first
        | (go_at_call 41; refine (members_any _ _ n cap _).mono ?_; rintro e w2 ⟨rfl, hb2⟩; have hr2 := hr1.now hb2; have g2 := bfrom g1 hb2; obtain ⟨d0, d1⟩ := hr2.cells; obtain ⟨f0, f1⟩ := KF.out _ hr2)
        | (go_at_call 40; refine (isMember_any n x _ (by omega)).mono ?_; rintro e w3 ⟨rfl, rfl⟩; rw [HIN.out]))
      refine bodyPost_ret (v := .tuple #[.agg #[.int .i64 0, .slice none 0 0], .bool false]) (by simp [results, Try.results31, go_sem, d0, d1]) rfl ?_
      rw [HE.out, dropQ_no HE.out, dropN_no HE.out]
      exact ⟨_, _, rfl, Or.inl ⟨rfl, rfl⟩, (g2.setCell (by simp) _).setCell (by simp) _⟩
    · have HGB := Lib.hid (goodB_false hg)
      clear hg hok
      go_enter Try.func31, Try.ntmps31
      go_wp2_with fail
      refine (isCommittee_any q A n cap ws _ hm (HK.out.now hb0)).mono ?_
      rintro e w1 ⟨rfl, hb⟩
      rw [HGB.out]
      have g1 := bfrom hb0 hb
      have hr1 := hr.now hb
      obtain ⟨d0, d1⟩ := hr1.cells
      obtain ⟨f0, f1⟩ := KF.out _ hr1
      go_wp2
      refine bodyPost_ret (v := .tuple #[.agg #[.int .i64 0, .slice none 0 0], .bool false]) (by simp [results, Try.results31, go_sem, d0, d1]) rfl ?_
      rw [HE.out, dropQ_no HE.out, dropN_no HE.out]
      exact ⟨_, _, rfl, Or.inl ⟨rfl, rfl⟩, (g1.setCell (by simp) _).setCell (by simp) _⟩
end Go.Proofs.Ytlofjccapglhgab
