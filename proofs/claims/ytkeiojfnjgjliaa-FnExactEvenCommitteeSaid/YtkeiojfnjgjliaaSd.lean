/- Contract of the model's EvenCommittee. -/
import Derived.Test.YtkeiojfnjgjliaaSc
import Derived.Test.YtkeiojfnjgjliaaWm
namespace Go.Proofs.Ytkeiojfnjgjliaa
open Go.RowKit Vo

theorem ones_at {n j : Nat} (h : j < n) : (List.replicate n (1 : Int)).getD j 0 = 1 := by simp [List.getD_eq_getElem?_getD, h]
theorem ones_sum {n : Nat} : ∀ k, k ≤ n → sumK (List.replicate n 1) k = k
  | 0, _ => rfl
  | k+1, h => by
    show sumK _ k + _ = _
    rw [ones_sum k (by omega), ones_at (by omega)]
    omega
theorem ones_good {n : Nat} {q : Int} (h1 : 1 ≤ n) (h9 : n ≤ 9) : goodB q (List.replicate n 1) n = inB q 1 n := by
  by_cases h : 1 ≤ q ∧ q ≤ n
  · rw [inB_yes h.1 h.2]
    exact goodB_true ⟨h1, h9, fun j hj => by rw [ones_at hj]; omega, h.1, by rw [ones_sum n (Nat.le_refl _)]; exact h.2⟩
  · rw [inB_no h]
    exact goodB_false fun g => h ⟨g.q1, by have := g.q2; rw [ones_sum n (Nat.le_refl _)] at this; exact this⟩
theorem ones_succ (j : Nat) : (List.replicate (j + 1) (1 : Int)).map (Value.int .i64) = (List.replicate j (1 : Int)).map (Value.int .i64) ++ [.int .i64 1] := by
  rw [List.replicate_succ', List.map_append]; rfl

set_option maxRecDepth 20000 in
set_option maxHeartbeats 4000000 in
theorem sEvenCommittee_any (x q : Int) (w : World) (_hx : (Lit.int .i64 x).wf = true) (_hq : (Lit.int .i64 q).wf = true) :
    Calls Try.prog 35 #[.int .i64 x, .int .i64 q] w fun e w' => ComAt (evenQ x q) (evenN x q) (onesL x) (evenOk x q) w w' e := by
  have b1 := below1 w (.cells #[.int .i64 0, .slice none 0 0] 32)
  have hr := Box.new w (.int .i64 0) (.slice none 0 0)
  have hsz : (w.alloc (.cells #[.int .i64 0, .slice none 0 0] 32)).heap.size = w.heap.size + 1 := by simp
  have KF := Lib.hid (show ∀ W, BoxT 32 W w.heap.size (.int .i64 0) (.slice none 0 0) → (W.frozen? ⟨w.heap.size, 0, none⟩ = false ∧ W.frozen? ⟨w.heap.size, 1, none⟩ = false) from fun W h => by unfold BoxT at h; exact ⟨by simp [World.frozen?, h], by simp [World.frozen?, h]⟩)
  by_cases hxx : 1 ≤ x ∧ x ≤ 9
  · obtain ⟨n, rfl⟩ : ∃ n : Nat, x = n := ⟨x.toNat, by omega⟩
    have hn1 : 1 ≤ n := by omega
    have hn9 : n ≤ 9 := by omega
    have HIN := Lib.hid (inB_yes (x := (n : Int)) (lo := 1) (hi := 9) hxx.1 hxx.2)
    have HDO := Lib.hid ((evenOk_in (q := q) HIN.out).trans (ones_good hn1 hn9))
    clear hxx
    by_cases hqq : 1 ≤ q ∧ q ≤ n
    · have HIQ := Lib.hid (inB_yes (x := q) (lo := 1) (hi := (n : Int)) hqq.1 hqq.2)
      rw [HIQ.out] at HDO
      clear hqq
      obtain ⟨i0, hi0, hz0, hz1, hz2⟩ := infoIntParts
      go_enter Try.func35, Try.ntmps35
      go_wp2_with (first
        | (go_at_call 67; with_reducible refine (l1In_any n 1 9 _).mono ?_; rintro e w3 ⟨rfl, rfl⟩; rw [HIN.out])
        | (go_at_call 67; with_reducible refine (l1In_any q 1 n _).mono ?_; rintro e w3 ⟨rfl, rfl⟩; rw [HIQ.out]))
      obtain ⟨w1, hw1⟩ : ∃ w1, w1 = w.alloc (.cells #[.int .i64 0, .slice none 0 0] 32) := ⟨_, rfl⟩
      rw [← hw1] at b1 hr hsz ⊢
      clear hw1
      have g5 := b1.alloc b1.size (.cells #[.int .i64 q, .slice none 0 0] 32)
      have hr5 := hr.alloc (.cells #[.int .i64 q, .slice none 0 0] 32)
      have hn5 := Box.new w1 (.int .i64 q) (.slice none 0 0)
      have hsz5 : (w1.alloc (.cells #[.int .i64 q, .slice none 0 0] 32)).heap.size = w1.heap.size + 1 := by simp
      obtain ⟨w5, hw5⟩ : ∃ w5, w5 = w1.alloc (.cells #[.int .i64 q, .slice none 0 0] 32) := ⟨_, rfl⟩
      rw [← hw5] at g5 hr5 hn5 hsz5 ⊢
      rw [hsz] at hn5 hsz5
      obtain ⟨nb, hnbe⟩ : ∃ nb, nb = w.heap.size + 1 := ⟨_, rfl⟩
      rw [← hnbe] at hn5 hsz5 hsz ⊢
      have hnbr : w.heap.size ≠ nb := by omega
      have hnbw : w.heap.size ≤ nb := by omega
      clear hw5 b1 hr hnbe hsz
      go_loopw [0] (fun i wr => ∃ (m j : Nat) (B : Option Addr) (cp : Nat), m + j = n ∧ i = .int .i64 m ∧ wr.ownsRow w5.heap.size 3 1 (.slice B j cp) j ((List.replicate j (1 : Int)).map (Value.int .i64)) ∧ Box wr nb (.int .i64 q) (.slice B j cp) ∧ BoxT 32 wr w.heap.size (.int .i64 0) (.slice none 0 0) ∧ w5.heap.size ≤ wr.heap.size ∧ Below w.heap.size w wr) (fun i _ => (intOf i).toNat)
      case atStart => exact ⟨n, 0, none, 0, by omega, rfl, World.ownsRow_nil _ _ _ _, hn5, hr5, Nat.le_refl _, g5⟩
      case round =>
        obtain ⟨m, j, B, cp, hj, rfl, hown, hnr, hrr, hszr, hbr⟩ := hrel
        have HO := Lib.hid hown
        clear hown
        by_cases hlt : 0 < m
        · obtain ⟨m, rfl⟩ : ∃ m', m = m' + 1 := ⟨m - 1, by omega⟩
          have HST := Lib.hid (ones_succ j)
          obtain ⟨M, hM⟩ : ∃ M, (List.replicate j (1 : Int)).map (Value.int .i64) = M := ⟨_, rfl⟩
          rw [hM] at HO HST
          clear hM
          obtain ⟨e0, e1⟩ := hnr.cells
          have hm9 : m < 9 := by omega
          go_wp2_with (at_builtin; refine wpList_append_lies _ rfl _ _ _ rfl w5.heap.size 3 i0 _ 1 8 Try.underlying22 hi0 hz0 hz1 hz2 rfl (by decide) (.slice B j cp) j M rfl (HO.out.alloc _) ⟨wr.heap.size, 0, none⟩ 1 1 [.int .i64 1] rfl rfl (World.news_of_block (cs := #[.int .i64 1]) (t := 3) (fr := (0, 0)) (heap_alloc_new wr _)) (by simp [Value.oneCell']) (by omega) (by unfold maxLen; omega) (by omega) (by simp; omega) (wr.heap.size + 1) (by simp) ?_; intro gg cap4 w7 hown7 hgrow7 hat7 hlt7; have hn7 := ((hnr.alloc (.cells #[.int .i64 1] 3)).grown hgrow7 (owns_ne HO.out (by omega))); obtain ⟨k0, k1⟩ := hn7.cells; have k2 := box_fr hn7)
          have hz7 := hgrow7.size
          have hz7' : wr.heap.size + 1 ≤ w7.heap.size := by simpa using hz7
          have b7 : Below w.heap.size w w7 := (hbr.alloc hbr.size (.cells #[.int .i64 1] 3)).grown hgrow7 (by have := hbr.size; simp; omega) fun i hi => by have := owns_le HO.out hi; omega
          have hr7 := (hrr.alloc (.cells #[.int .i64 1] 3)).grown hgrow7 (owns_ne HO.out (by omega))
          have hnbl : nb < w5.heap.size := by omega
          have HN7 := Lib.hid (hn7.set1 (.slice (some ⟨gg, 0, none⟩) (j + 1) cap4))
          have HO7 := Lib.hid (owns_far hown7 (p := ⟨nb, 1, none⟩) hnbl (.slice (some ⟨gg, 0, none⟩) (j + 1) cap4))
          have HR7 := Lib.hid (hr7.far (p := ⟨nb, 1, none⟩) hnbr (.slice (some ⟨gg, 0, none⟩) (j + 1) cap4))
          have b8 := b7.setCell (p := ⟨nb, 1, none⟩) hnbw (.slice (some ⟨gg, 0, none⟩) (j + 1) cap4)
          go_roundw
          case rel => exact ⟨m, j + 1, some ⟨gg, 0, none⟩, cap4, by omega, by go_num, by rw [HST.out]; exact HO7.out, HN7.out, HR7.out, by simp; omega, b8⟩
          case measure => first | (simp [intOf]; done) | (simp [intOf]; omega)
        · obtain rfl : m = 0 := by omega
          obtain rfl : j = n := by omega
          obtain ⟨hkn', hhe⟩ := row_known hn1 List.length_replicate HO.out
          have HHE := Lib.hid hhe
          obtain ⟨e0, e1⟩ := hnr.cells
          obtain ⟨d0, d1⟩ := hrr.cells
          obtain ⟨f0, f1⟩ := KF.out _ hrr
          clear hkn' hhe
          go_wp2
          refine bodyPost_ret (v := .tuple #[.agg #[.int .i64 q, .slice B j cp], .bool true]) (by simp [results, Try.results35, go_sem, d0, d1]) rfl ?_
          rw [HDO.out, evenQ_yes HDO.out, evenN_yes HDO.out]
          exact ⟨_, _, rfl, held_far HHE.out (by omega) (by simp; omega) (by simp; omega), (hbr.setCell (by simp) _).setCell (by simp) _⟩
    · have HIQ := Lib.hid (inB_no hqq)
      rw [HIQ.out] at HDO
      clear hqq
      obtain ⟨c0, c1⟩ := hr.cells
      obtain ⟨f0, f1⟩ := KF.out _ hr
      go_enter Try.func35, Try.ntmps35
      go_wp2_with (first
        | (go_at_call 67; with_reducible refine (l1In_any n 1 9 _).mono ?_; rintro e w3 ⟨rfl, rfl⟩; rw [HIN.out])
        | (go_at_call 67; with_reducible refine (l1In_any q 1 n _).mono ?_; rintro e w3 ⟨rfl, rfl⟩; rw [HIQ.out]))
      refine bodyPost_ret (v := .tuple #[.agg #[.int .i64 0, .slice none 0 0], .bool false]) (by simp [results, Try.results35, go_sem, c0, c1]) rfl ?_
      rw [HDO.out, evenQ_no HDO.out, evenN_no HDO.out]
      exact ⟨_, _, rfl, Or.inl ⟨rfl, rfl⟩, (by first | exact b1 | exact (b1.setCell (by simp) _).setCell (by simp) _)⟩
  · have HIN := Lib.hid (inB_no hxx)
    have HE := Lib.hid (evenOk_out (q := q) HIN.out)
    clear hxx
    obtain ⟨c0, c1⟩ := hr.cells
    obtain ⟨f0, f1⟩ := KF.out _ hr
    go_enter Try.func35, Try.ntmps35
    go_wp2_with (go_at_call 67; refine (l1In_any x 1 9 _).mono ?_; rintro e w3 ⟨rfl, rfl⟩; rw [HIN.out])
    refine bodyPost_ret (v := .tuple #[.agg #[.int .i64 0, .slice none 0 0], .bool false]) (by simp [results, Try.results35, go_sem, c0, c1]) rfl ?_
    rw [HE.out, evenQ_no HE.out, evenN_no HE.out]
    exact ⟨_, _, rfl, Or.inl ⟨rfl, rfl⟩, (by first | exact b1 | exact (b1.setCell (by simp) _).setCell (by simp) _)⟩
end Go.Proofs.Ytkeiojfnjgjliaa
