/- Contract of the program's EvenCommittee. -/
import Derived.Test.YtkeiojfnjgjliaaWc
import Derived.Test.YtkeiojfnjgjliaaSb
namespace Go.Proofs.Ytkeiojfnjgjliaa
open Go.RowKit Vo

set_option maxHeartbeats 400000 in
theorem isNumOf_any (m : Int) (w : World) : Calls Try.prog 78 #[.int .i64 m] w fun e w' => e = .returned (.bool (inB m 1 9)) ∧ w = w' := by
  by_cases h1 : 1 ≤ m
  · by_cases h2 : m ≤ 9
    · have H := Lib.hid (inB_yes h1 h2)
      go_enter Try.func78, Try.ntmps78
      go_wp2
      go_ret
      exact ⟨by rw [H.out]; rfl, rfl⟩
    · have H := Lib.hid (inB_no (x := m) (lo := 1) (hi := 9) (by omega))
      have h3 : 9 < m := by omega
      clear h2
      go_enter Try.func78, Try.ntmps78
      go_wp2
      go_ret
      exact ⟨by rw [H.out]; simp; omega, rfl⟩
  · have H := Lib.hid (inB_no (x := m) (lo := 1) (hi := 9) (by omega))
    have h3 : m < 1 := by omega
    clear h1
    go_enter Try.func78, Try.ntmps78
    go_wp2
    go_ret
    exact ⟨by rw [H.out]; rfl, rfl⟩

/-- So many ones. -/
def onesL (x : Int) : List Int := List.replicate x.toNat 1
def evenOk (x q : Int) : Bool := inB x 1 9 && goodB q (onesL x) x.toNat
def evenQ (x q : Int) : Int := if evenOk x q then q else 0
def evenN (x q : Int) : Nat := if evenOk x q then x.toNat else 0
theorem evenQ_yes {x q} (h : evenOk x q = true) : evenQ x q = q := if_pos h
theorem evenQ_no {x q} (h : evenOk x q = false) : evenQ x q = 0 := if_neg (by rw [h]; simp)
theorem evenN_yes {x q} (h : evenOk x q = true) : evenN x q = x.toNat := if_pos h
theorem evenN_no {x q} (h : evenOk x q = false) : evenN x q = 0 := if_neg (by rw [h]; simp)
theorem evenOk_in {n : Nat} {q : Int} (h : inB (n : Int) 1 9 = true) : evenOk n q = goodB q (List.replicate n 1) n := by unfold evenOk; rw [h]; rfl
theorem evenOk_out {x q : Int} (h : inB x 1 9 = false) : evenOk x q = false := by unfold evenOk; rw [h]; rfl
theorem evenN_le (x q : Int) : evenN x q ≤ 9 := by
  cases h : evenOk x q with
  | true =>
    rw [evenN_yes h]
    unfold evenOk at h
    simp at h
    have := h.2
    unfold goodB at this
    exact (of_decide_eq_true this).hi
  | false => rw [evenN_no h]; omega
theorem lit_cell (w : World) (v : Value) (t : TypeId) : (w.alloc (.cells #[v] t)).cell? ⟨w.heap.size, 0, none⟩ = some v := by unfold World.cell?; rw [heap_alloc_new]; rfl

set_option maxRecDepth 20000 in
set_option maxHeartbeats 4000000 in
theorem evenCommittee_any (x q : Int) (w : World) (_hx : (Lit.int .i64 x).wf = true) (_hq : (Lit.int .i64 q).wf = true) :
    Calls Try.prog 36 #[.int .i64 x, .int .i64 q] w fun e w' => ComAt (evenQ x q) (evenN x q) (onesL x) (evenOk x q) w w' e := by
  have b1 := below1 w (.cells #[.int .i64 0, .slice none 0 0] 32)
  have hr := Box.new w (.int .i64 0) (.slice none 0 0)
  have hsz : (w.alloc (.cells #[.int .i64 0, .slice none 0 0] 32)).heap.size = w.heap.size + 1 := by simp
  have KF := Lib.hid (show ∀ W, BoxT 32 W w.heap.size (.int .i64 0) (.slice none 0 0) → (W.frozen? ⟨w.heap.size, 0, none⟩ = false ∧ W.frozen? ⟨w.heap.size, 1, none⟩ = false) from fun W h => by unfold BoxT at h; exact ⟨by simp [World.frozen?, h], by simp [World.frozen?, h]⟩)
  by_cases hxx : 1 ≤ x ∧ x ≤ 9
  · obtain ⟨n, rfl⟩ : ∃ n : Nat, x = n := ⟨x.toNat, by omega⟩
    have hn1 : 1 ≤ n := by omega
    have hn9 : n ≤ 9 := by omega
    have hm : n ≤ 9223372036854775807 := by omega
    have HIN := Lib.hid (inB_yes (x := (n : Int)) (lo := 1) (hi := 9) hxx.1 hxx.2)
    have HDO := Lib.hid (evenOk_in (q := q) HIN.out)
    clear hxx
    go_enter Try.func36, Try.ntmps36
    go_wp2_with fail
    refine (isNumOf_any n _).mono ?_
    rintro e w0 ⟨rfl, rfl⟩
    rw [HIN.out]
    obtain ⟨w1, hw1⟩ : ∃ w1, w1 = w.alloc (.cells #[.int .i64 0, .slice none 0 0] 32) := ⟨_, rfl⟩
    rw [← hw1] at b1 hr hsz ⊢
    clear hw1
    have HLT := Lib.hid (show w.heap.size + 1 < (w1.alloc (.cells #[.int .i64 1] 3)).heap.size from by simp; omega)
    have HLC := Lib.hid (show (w1.alloc (.cells #[.int .i64 1] 3)).cell? ⟨w.heap.size + 1, 0, none⟩ = some (.int .i64 1) from by rw [← hsz]; exact lit_cell w1 (.int .i64 1) 3)
    cases hgd : goodB q (List.replicate n 1) n with
    | true =>
      have HGD := Lib.hid hgd
      rw [HGD.out] at HDO
      clear hgd
      go_wp2_with (first
        | (go_at_call 79; refine (repeat_any (w.heap.size + 1) n 1 _ hn1 hn9 ?_ ?_).mono ?_; (exact HLT.out); (exact HLC.out); rintro e w2 ⟨g, rfl, hge, hI, hb2⟩; have gL : Below w.heap.size w (w1.alloc (.cells #[.int .i64 1] 3)) := b1.alloc b1.size _; have g2 := bfrom gL hb2; have hgw : w1.heap.size + 1 ≤ g := (by have h := hge; simp at h; exact h); have hr2 := BoxT.now ((hr.alloc (.cells #[.int .i64 1] 3))) hb2)
        | (go_at_call 69; refine (checked_yes q (some ⟨g, 0, none⟩) n n (List.replicate n 1) _ hm (Known.of hI.sl) HGD.out).mono ?_; rintro e w9 ⟨rfl, hb9⟩; have hr9 := hr2.now hb9; obtain ⟨d0, d1⟩ := hr9.cells; obtain ⟨f0, f1⟩ := KF.out _ hr9))
      have g9 := bfrom g2 hb9
      have hlt9 := hI.lt
      refine bodyPost_ret (v := .tuple #[.agg #[.int .i64 q, .slice (some ⟨g, 0, none⟩) n n], .bool true]) (by simp [results, Try.results36, go_sem, d0, d1]) rfl ?_
      rw [HDO.out, evenQ_yes HDO.out, evenN_yes HDO.out]
      exact ⟨_, _, rfl, Or.inr ⟨g, rfl, by omega, ((Own.below hI hb9 hlt9).far (by simp; omega) _).far (by simp; omega) _⟩, (g9.setCell (by simp) _).setCell (by simp) _⟩
    | false =>
      have HGD := Lib.hid hgd
      rw [HGD.out] at HDO
      clear hgd
      go_wp2_with (first
        | (go_at_call 79; refine (repeat_any (w.heap.size + 1) n 1 _ hn1 hn9 ?_ ?_).mono ?_; (exact HLT.out); (exact HLC.out); rintro e w2 ⟨g, rfl, hge, hI, hb2⟩; have gL : Below w.heap.size w (w1.alloc (.cells #[.int .i64 1] 3)) := b1.alloc b1.size _; have g2 := bfrom gL hb2; have hgw : w1.heap.size + 1 ≤ g := (by have h := hge; simp at h; exact h); have hr2 := BoxT.now ((hr.alloc (.cells #[.int .i64 1] 3))) hb2)
        | (go_at_call 69; refine (checked_no q (some ⟨g, 0, none⟩) n n (List.replicate n 1) _ hm (Known.of hI.sl) HGD.out).mono ?_; rintro e w9 ⟨rfl, hb9⟩; have hr9 := hr2.now hb9; obtain ⟨d0, d1⟩ := hr9.cells; obtain ⟨f0, f1⟩ := KF.out _ hr9))
      have g9 := bfrom g2 hb9
      refine bodyPost_ret (v := .tuple #[.agg #[.int .i64 0, .slice none 0 0], .bool false]) (by simp [results, Try.results36, go_sem, d0, d1]) rfl ?_
      rw [HDO.out, evenQ_no HDO.out, evenN_no HDO.out]
      exact ⟨_, _, rfl, Or.inl ⟨rfl, rfl⟩, (g9.setCell (by simp) _).setCell (by simp) _⟩
  · have HIN := Lib.hid (inB_no hxx)
    have HE := Lib.hid (evenOk_out (q := q) HIN.out)
    clear hxx
    obtain ⟨c0, c1⟩ := hr.cells
    obtain ⟨f0, f1⟩ := KF.out _ hr
    go_enter Try.func36, Try.ntmps36
    go_wp2_with fail
    refine (isNumOf_any x _).mono ?_
    rintro e w0 ⟨rfl, rfl⟩
    rw [HIN.out]
    go_wp2
    refine bodyPost_ret (v := .tuple #[.agg #[.int .i64 0, .slice none 0 0], .bool false]) (by simp [results, Try.results36, go_sem, c0, c1]) rfl ?_
    rw [HE.out, evenQ_no HE.out, evenN_no HE.out]
    exact ⟨_, _, rfl, Or.inl ⟨rfl, rfl⟩, (by first | exact b1 | exact (b1.setCell (by simp) _).setCell (by simp) _)⟩
end Go.Proofs.Ytkeiojfnjgjliaa
