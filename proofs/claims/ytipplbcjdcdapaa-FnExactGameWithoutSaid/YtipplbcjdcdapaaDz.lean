/- A game and a member read; the program's loses, readGameUpTo. -/
import Derived.Test.YtipplbcjdcdapaaJ2
import Derived.Outline
namespace Go.Proofs.Ytipplbcjdcdapaa
open Go.RowKit Vo

theorem inside (n : Nat) (x : Int) : inB x 0 ((n : Int) - 1) = true ↔ 0 ≤ x ∧ x < n := by
  unfold inB; simp; omega

/-- A game and a member read. -/
def memG (m : Int) (L : List (List Int)) (x : Int) : Bool := goodG m L && inB x 0 (m - 1)
theorem memG_good {m : Int} {L : List (List Int)} {x : Int} (h : goodG m L = true) : memG m L x = inB x 0 (m - 1) := by unfold memG; rw [h]; rfl
theorem memG_bad {m : Int} {L : List (List Int)} {x : Int} (h : goodG m L = false) : memG m L x = false := by unfold memG; rw [h]; rfl
theorem memG_parts {m : Int} {L : List (List Int)} {x : Int} (h : memG m L x = true) : goodG m L = true ∧ ∃ q k : Nat, m = (q + 1 : Nat) ∧ x = k ∧ k < q + 1 ∧ q + 1 ≤ 9 := by
  unfold memG at h
  simp only [Bool.and_eq_true] at h
  obtain ⟨hg, hi⟩ := h
  obtain ⟨h1, h9, _, _, _⟩ := goodG_parts hg
  have h2 : 0 ≤ x ∧ x ≤ m - 1 := by
    by_cases h : 0 ≤ x ∧ x ≤ m - 1
    · exact h
    · rw [inB_no h] at hi; cases hi
  exact ⟨hg, (m - 1).toNat, x.toNat, by omega, by omega, by omega, by omega⟩
def ReadM (m : Int) (L : List (List Int)) (x : Int) (w w' : World) (e : Ending) : Prop :=
  Below w.heap.size w w' ∧ ((memG m L x = true ∧ ∃ B cp, e = .returned (.tuple #[.agg #[.int .i64 m, .slice B L.length cp], .bool true]) ∧ w'.ownsRow w.heap.size 96 1 (.slice B L.length cp) L.length (setsV (setsN L))) ∨ (memG m L x = false ∧ e = .returned (.tuple #[.agg #[.int .i64 0, .slice none 0 0], .bool false])))

theorem isMember_z (m : Nat) (x : Int) (w : World) : Calls Try.prog 125 #[.int .i64 m, .int .i64 x] w fun e w' => e = .returned (.bool (inB x 0 ((m : Int) - 1))) ∧ w = w' := by
  by_cases h1 : 0 ≤ x
  · by_cases h2 : x < m
    · have H := Lib.hid (inB_yes (lo := 0) (hi := (m : Int) - 1) h1 (by omega))
      go_enter Try.func125, Try.ntmps125
      go_wp2
      go_ret
      exact ⟨by rw [H.out]; rfl, rfl⟩
    · have H := Lib.hid (inB_no (x := x) (lo := 0) (hi := (m : Int) - 1) (by omega))
      have h3 : (m : Int) ≤ x := by omega
      go_enter Try.func125, Try.ntmps125
      go_wp2
      go_ret
      exact ⟨by rw [H.out]; simp, rfl⟩
  · have H := Lib.hid (inB_no (x := x) (lo := 0) (hi := (m : Int) - 1) (by omega))
    have h3 : x < 0 := by omega
    go_enter Try.func125, Try.ntmps125
    go_wp2
    go_ret
    exact ⟨by rw [H.out]; rfl, rfl⟩

set_option maxRecDepth 20000 in
set_option maxHeartbeats 4000000 in
theorem readGameAndMember_any (m : Int) (A : Option Addr) (n cap : Nat) (L : List (List Int)) (x : Int) (w : World) (hl : n ≤ 1048576) (hk : Lists w A n L) :
    Calls Try.prog 87 #[.agg #[.int .i64 m, .slice A n cap], .int .i64 x] w fun e w' => ReadM m L x w w' e := by
  have HLEN := Lib.hid hk.1
  have hb0 : Below w.heap.size w ((w.alloc (.cells #[.int .i64 m, .slice A n cap] 28)).alloc (.cells #[.int .i64 0, .slice none 0 0] 71)) := (below1 w _).alloc (by simp) _
  have HK := Lib.hid (hk.now hb0)
  have hx := (BoxT.new 28 w (.int .i64 m) (.slice A n cap)).alloc (.cells #[.int .i64 0, .slice none 0 0] 71)
  have hr := BoxT.new 71 (w.alloc (.cells #[.int .i64 m, .slice A n cap] 28)) (.int .i64 0) (.slice none 0 0)
  simp only [World.size_alloc] at hr
  clear hk
  have KF := Lib.hid (show ∀ W, BoxT 71 W (w.heap.size + 1) (.int .i64 0) (.slice none 0 0) → (W.frozen? ⟨w.heap.size + 1, 0, none⟩ = false ∧ W.frozen? ⟨w.heap.size + 1, 1, none⟩ = false) from fun W h => by unfold BoxT at h; exact ⟨by simp [World.frozen?, h], by simp [World.frozen?, h]⟩)
  obtain ⟨c0, c1⟩ := hx.cells
  go_enter Try.func87, Try.ntmps87
  go_wp2_with fail
  refine (readGame_any m A n cap L _ hl HK.out).mono ?_
  rintro e w1 ⟨hb1, h⟩
  have g1 := bfrom hb0 hb1
  have hr1 := hr.now hb1
  have hzr : w.heap.size + 1 < w1.heap.size := hr1.lt
  have hz0 : w.heap.size + 2 ≤ w1.heap.size := by omega
  simp only [World.size_alloc] at h
  clear hx hr hb1 c0 c1 HK
  rcases h with ⟨hg, B, cp, rfl, hown⟩ | ⟨hg, rfl⟩
  · obtain ⟨h1, h9, _, _, _⟩ := goodG_parts hg
    obtain ⟨q, rfl⟩ : ∃ q : Nat, m = q := ⟨m.toNat, by omega⟩
    rw [HLEN.out] at hown ⊢
    have HMG := Lib.hid (memG_good (x := x) hg)
    have b2 := below1 w1 (.cells #[.int .i64 q, .slice B n cp] 71)
    have hy := BoxT.new 71 w1 (.int .i64 q) (.slice B n cp)
    have hr2 := hr1.now b2
    have HO := Lib.hid (owns_less (owns_now hown b2) (show w.heap.size + 2 ≤ _ from by first | exact Nat.le_refl _ | omega))
    obtain ⟨w2, hw2⟩ : ∃ w2, w2 = w1.alloc (.cells #[.int .i64 q, .slice B n cp] 71) := ⟨_, rfl⟩
    have hz2 : w2.heap.size = w1.heap.size + 1 := by rw [hw2]; simp
    have hgw : Below w.heap.size w w2 := by rw [hw2]; exact bfrom g1 b2
    rw [← hw2] at hy hr2 HO
    obtain ⟨d0, d1⟩ := hy.cells
    obtain ⟨c2, c3⟩ := hr2.cells
    obtain ⟨f0, f1⟩ := KF.out _ hr2
    clear hown hg hr1 g1 b2
    cases hin : inB x 0 ((q : Int) - 1) with
    | true =>
      have HIN := Lib.hid hin
      clear hin
      go_wp2_with fail
      rw [← hw2]
      clear hw2
      refine (isMember_z q x _).mono ?_
      rintro e w3 ⟨rfl, rfl⟩
      rw [HIN.out]
      go_wp2
      refine bodyPost_ret (v := .tuple #[.agg #[.int .i64 q, .slice B n cp], .bool true]) (by simp [results, Try.results87, go_sem, c2, c3]) rfl ⟨(hgw.setCell (by simp) _).setCell (by simp) _, Or.inl ⟨by rw [HMG.out, HIN.out], B, cp, by rw [HLEN.out], ?_⟩⟩
      rw [HLEN.out]
      exact owns_less (ownsRow_setCell_below (ownsRow_setCell_below HO.out (by simp) _) (by simp) _) (by omega)
    | false =>
      have HIN := Lib.hid hin
      clear hin
      go_wp2_with fail
      rw [← hw2]
      clear hw2
      refine (isMember_z q x _).mono ?_
      rintro e w3 ⟨rfl, rfl⟩
      rw [HIN.out]
      go_wp2
      refine bodyPost_ret (v := .tuple #[.agg #[.int .i64 0, .slice none 0 0], .bool false]) (by simp [results, Try.results87, go_sem, c2, c3]) rfl ⟨(hgw.setCell (by simp) _).setCell (by simp) _, Or.inr ⟨by rw [HMG.out, HIN.out], rfl⟩⟩
  · have HMG := Lib.hid (memG_bad (x := x) hg)
    obtain ⟨f2, f3⟩ := KF.out _ hr1
    obtain ⟨e2, e3⟩ := hr1.cells
    have q0 : ((w1.setCell ⟨w.heap.size + 1, 0, none⟩ (.int .i64 0)).setCell ⟨w.heap.size + 1, 1, none⟩ (.slice none 0 0)).cell? ⟨w.heap.size + 1, 0, none⟩ = some (.int .i64 0) := by simp [go_sem, e2]
    have q1 : ((w1.setCell ⟨w.heap.size + 1, 0, none⟩ (.int .i64 0)).setCell ⟨w.heap.size + 1, 1, none⟩ (.slice none 0 0)).cell? ⟨w.heap.size + 1, 1, none⟩ = some (.slice none 0 0) := by simp [go_sem, e3]
    have hgs : Below w.heap.size w ((w1.setCell ⟨w.heap.size + 1, 0, none⟩ (.int .i64 0)).setCell ⟨w.heap.size + 1, 1, none⟩ (.slice none 0 0)) := (g1.setCell (by simp) _).setCell (by simp) _
    have k0 := ((below1 ((w1.setCell ⟨w.heap.size + 1, 0, none⟩ (.int .i64 0)).setCell ⟨w.heap.size + 1, 1, none⟩ (.slice none 0 0)) (.cells #[.int .i64 0, .slice none 0 0] 71)).cell (p := ⟨w.heap.size + 1, 0, none⟩) (by simp; omega)).trans q0
    have k1 := ((below1 ((w1.setCell ⟨w.heap.size + 1, 0, none⟩ (.int .i64 0)).setCell ⟨w.heap.size + 1, 1, none⟩ (.slice none 0 0)) (.cells #[.int .i64 0, .slice none 0 0] 71)).cell (p := ⟨w.heap.size + 1, 1, none⟩) (by simp; omega)).trans q1
    clear hg q0 q1
    have K0 := Lib.hid k0
    have K1 := Lib.hid k1
    clear k0 k1
    go_wp2
    refine bodyPost_ret (v := .tuple #[.agg #[.int .i64 0, .slice none 0 0], .bool false]) (by simp [results, Try.results87, go_sem, K0.out, K1.out]) rfl ⟨hgs.alloc hgs.size _, Or.inr ⟨HMG.out, rfl⟩⟩
end Go.Proofs.Ytipplbcjdcdapaa

namespace Go.Proofs.Ytipplbcjdcdapaa
open Go.RowKit Vo


set_option maxHeartbeats 1000000 in
theorem gLoses_any (S : List Nat) (m : Int) (s base k cap : Nat) (A : Option Addr) (w : World) (hk : k = S.length) (hs : k ≤ 1048576) (hS : ∀ t ∈ S, t < 512) (h5 : s < 512) (h1 : w.ownsRow base 96 1 (.slice A k cap) k (setsV S)) :
    Calls Try.prog 120 #[.agg #[.int .i64 m, .slice A k cap], .int .u64 s] w fun e w' => e = .returned (.bool (!winS S s)) ∧ Below w.heap.size w w' := by
  have hx := BoxT.new 71 w (.int .i64 m) (.slice A k cap)
  have hb0 := below1 w (.cells #[.int .i64 m, .slice A k cap] 71)
  have HI := Lib.hid (gWins_any S m s base k cap A _ hk hs hS h5 (owns_now h1 hb0))
  obtain ⟨c0, c1⟩ := hx.cells
  clear h1 hk hS
  generalize winS S s = r at *
  go_enter Try.func120, Try.ntmps120
  go_wp2_with fail
  refine HI.out.mono ?_
  rintro e w1 ⟨rfl, hb1⟩
  go_wp2
  go_ret
  exact ⟨rfl, bfrom hb0 hb1⟩
theorem gLoses_asks (S : List Nat) (m : Int) (base k cap n : Nat) (A : Option Addr) (w : World) (hn : n ≤ 9) (hk : k = S.length) (hs : k ≤ 1048576) (hS : ∀ t ∈ S, t < 512) (h1 : w.ownsRow base 96 1 (.slice A k cap) k (setsV S)) :
    Asks (fun s => !winS S s) 120 #[.agg #[.int .i64 m, .slice A k cap]] #[] n w :=
  ⟨enters_of Try.func120 (by kernel_rfl) rfl, fun W s h hb => gLoses_any S m s base k cap A W hk hs hS (by have := pow_lt hn; omega) (owns_now h1 hb)⟩
end Go.Proofs.Ytipplbcjdcdapaa
