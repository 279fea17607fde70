/- Contract of the program's MergeMembers. For the seats of tied cards. -/
import Derived.Outline
import Derived.Test.YtkckefjpkhjeaabDoorRh
namespace Go.Proofs.YtkckefjpkhjeaabDoor
open Go.RowKit Vo

def uniB (q : Int) (ws : List Int) (n : Nat) (xs : List Int) (m : Nat) : Bool := okB q ws n xs m && (decide (okS q ws n xs m ≠ 0) && decide (wtK ws (okS q ws n xs m) n ≤ 1000))
theorem uniB_no1 {q ws n xs m} (h : okB q ws n xs m = false) : uniB q ws n xs m = false := by unfold uniB; rw [h]; rfl
theorem uniB_no2 {q ws n xs m} (h : okS q ws n xs m = 0) : uniB q ws n xs m = false := by unfold uniB; rw [h]; simp
theorem uniB_yes {q ws n xs m} (h : okB q ws n xs m = true) (h2 : okS q ws n xs m ≠ 0) : uniB q ws n xs m = decide (wtK ws (okS q ws n xs m) n ≤ 1000) := by unfold uniB; rw [h, decide_eq_true h2]; rfl
theorem okB_set {q : Int} {ws : List Int} {n : Nat} {xs : List Int} {m : Nat} (h : okB q ws n xs m = true) : Vo.Good q ws n ∧ okS q ws n xs m < 2^n := by
  rw [okS_yes h]
  unfold okB at h
  simp only [Bool.and_eq_true] at h
  exact ⟨of_decide_eq_true h.1, ofK_lt (of_decide_eq_true h.2)⟩
theorem box3U_far3 {t : TypeId} {w : World} {g g' : Nat} {a b c : Value} (h : Box3 t w g a b c) (hn : g ≠ g') (x y z : Value) : Box3 t (((w.setCell ⟨g', 0, none⟩ x).setCell ⟨g', 1, none⟩ y).setCell ⟨g', 2, none⟩ z) g a b c :=
  box3U_far (box3U_far (box3U_far h (p := ⟨g', 0, none⟩) hn x) (p := ⟨g', 1, none⟩) hn y) (p := ⟨g', 2, none⟩) hn z
theorem heldU_far3 {base : Nat} {w : World} {A : Option Addr} {m : Nat} {L : List Int} (h : Held base w A m L) {g : Nat} (hg : g < base) (x y z : Value) : Held base (((w.setCell ⟨g, 0, none⟩ x).setCell ⟨g, 1, none⟩ y).setCell ⟨g, 2, none⟩ z) A m L := by
  rcases h with h | ⟨k, hA, hk, hi⟩
  · exact Or.inl h
  · exact Or.inr ⟨k, hA, hk, ((hi.far (show k ≠ g by omega) _).far (show k ≠ g by omega) _).far (show k ≠ g by omega) _⟩
theorem heldU_far0 {base : Nat} {w : World} {A : Option Addr} {m : Nat} {L : List Int} (h : Held base w A m L) {p : Addr} (hp : p.block < base) (u : Value) : Held base (w.setCell p u) A m L := by
  rcases h with h | ⟨k, hA, hk, hi⟩
  · exact Or.inl h
  · exact Or.inr ⟨k, hA, hk, hi.far (show k ≠ p.block by omega) _⟩
theorem heldU_now {base : Nat} {w w' : World} {A : Option Addr} {m : Nat} {L : List Int} (h : Held base w A m L) (hb : Below w.heap.size w w') : Held base w' A m L := by
  rcases h with h | ⟨k, hA, hk, hi⟩
  · exact Or.inl h
  · exact Or.inr ⟨k, hA, hk, Own.below hi hb (Own.lt hi)⟩
theorem heldU_base {base base' : Nat} {w : World} {A : Option Addr} {m : Nat} {L : List Int} (h : Held base' w A m L) (hb : base ≤ base') : Held base w A m L := by
  rcases h with h | ⟨k, hA, hk, hi⟩
  · exact Or.inl h
  · exact Or.inr ⟨k, hA, by omega, hi⟩

/-- A party of a set and the union of it. -/
def UnionAt (q : Int) (A : Option Addr) (n : Nat) (ws : List Int) (s : Nat) (ok : Bool) (w w' : World) (e : Ending) : Prop :=
  ∃ x A' cp', e = .returned (.tuple #[x, .agg #[.int .i64 (qIf ok q), .slice A' (nIf ok (uniL ws n s).length) cp', .int .u64 (nIf ok (2^firstN s) : Nat)], .bool ok]) ∧ (∃ (xa : Int) (xB : Option Addr) (xk xc : Nat) (xd : Int), x = .agg #[.int .i64 xa, .slice xB xk xc, .int .u64 xd]) ∧ (ok = true → x = .agg #[.int .i64 q, .slice A n n, .int .u64 s]) ∧ Held w.heap.size w' A' (nIf ok (uniL ws n s).length) (uniL ws n s) ∧ Below w.heap.size w w'

set_option maxRecDepth 20000 in
set_option maxHeartbeats 8000000 in
theorem readUnion_any (q : Int) (A : Option Addr) (n : Nat) (ws : List Int) (b2 off2 m cap2 : Nat) (xs : List Int) (w : World) (hm : n ≤ 9223372036854775807) (hk : Known w A n ws) (hm2 : m ≤ 9223372036854775807) (hs : Sl w b2 off2 m xs) (hT : Tab w) :
    Calls Tryd.prog 27 #[.agg #[.int .i64 q, .slice A n n], .slice (some ⟨b2, off2, none⟩) m cap2] w fun e w' => UnionAt q A n ws (okS q ws n xs m) (uniB q ws n xs m) w w' e := by
  have hb0 : Below w.heap.size w (((w.alloc (.cells #[.int .i64 q, .slice A n n] 26)).alloc (.cells #[.int .i64 0, .slice none 0 0, .int .u64 0] 46)).alloc (.cells #[.int .i64 0, .slice none 0 0, .int .u64 0] 46)) := ((below1 w _).alloc (by simp) _).alloc (by simp; omega) _
  have hx := ((Box.new w (.int .i64 q) (.slice A n n)).alloc (.cells #[.int .i64 0, .slice none 0 0, .int .u64 0] 46)).alloc (.cells #[.int .i64 0, .slice none 0 0, .int .u64 0] 46)
  have hr1 := (Box3.new 46 (w.alloc (.cells #[.int .i64 q, .slice A n n] 26)) (.int .i64 0) (.slice none 0 0) (.int .u64 0)).alloc (.cells #[.int .i64 0, .slice none 0 0, .int .u64 0] 46)
  have hr2 := Box3.new 46 ((w.alloc (.cells #[.int .i64 q, .slice A n n] 26)).alloc (.cells #[.int .i64 0, .slice none 0 0, .int .u64 0] 46)) (.int .i64 0) (.slice none 0 0) (.int .u64 0)
  simp only [World.size_alloc] at hr1 hr2
  have HCS := Lib.hid (committeeSet_any q A n n ws b2 off2 m cap2 xs _ hm (hk.now hb0) hm2 (hs.now hb0))
  have HK := Lib.hid hk
  have HT := Lib.hid hT
  obtain ⟨c0, c1⟩ := hx.cells
  clear hk hs hT
  have hnew : w.heap.size + 1 < w.heap.size + 1 + 1 := Nat.lt_succ_self _
  obtain ⟨r2, hr2e⟩ : ∃ z, z = w.heap.size + 1 + 1 := ⟨_, rfl⟩
  rw [← hr2e] at hr2 hnew
  have HR2 := Lib.hid hr2e
  clear hr2e
  obtain ⟨r1, hr1e⟩ : ∃ z, z = w.heap.size + 1 := ⟨_, rfl⟩
  rw [← hr1e] at hr1 hnew
  have hwr : w.heap.size < r1 := by omega
  have HR1 := Lib.hid hr1e
  clear hr1e
  have hE1 : w.heap.size + 1 = r1 := HR1.out.symm
  have hE2 : r1 + 1 = r2 := by have := HR1.out; have := HR2.out; omega
  cases hB : okB q ws n xs m with
  | false =>
    have HB := Lib.hid hB
    have HU := Lib.hid (uniB_no1 hB)
    clear hB
    rw [HU.out]
    go_enter Tryd.func27, Tryd.ntmps27
    go_wp2_with fail
    refine HCS.out.mono ?_
    rintro e w1 ⟨rfl, hb1⟩
    rw [HB.out]
    have g1 := bfrom hb0 hb1
    have h1 := hr1.now hb1
    have h2 := hr2.now hb1
    obtain ⟨d0, d1, d2⟩ := h1.cells
    obtain ⟨d3, d4, d5⟩ := h2.cells
    obtain ⟨f0, f1, f2⟩ := frozen_box3 h1
    obtain ⟨f3, f4, f5⟩ := frozen_box3 h2
    clear hx hr1 hr2 c0 c1 hb0 hb1
    have h1F := box3U_far3 (h1.put (.int .i64 0) (.slice none 0 0) (.int .u64 0)) (show r1 ≠ r2 by omega) (.int .i64 0) (.slice none 0 0) (.int .u64 0)
    have h2F := (box3U_far3 h2 (show r2 ≠ r1 by omega) (.int .i64 0) (.slice none 0 0) (.int .u64 0)).put (.int .i64 0) (.slice none 0 0) (.int .u64 0)
    obtain ⟨e0, e1, e2⟩ := h1F.cells
    obtain ⟨e3, e4, e5⟩ := h2F.cells
    go_wp2
    refine bodyPost_ret (v := .tuple #[.agg #[.int .i64 0, .slice none 0 0, .int .u64 0], .agg #[.int .i64 0, .slice none 0 0, .int .u64 0], .bool false]) (by simp [results, Tryd.results27, go_sem, e0, e1, e2, e3, e4, e5]) rfl ?_
    exact ⟨_, none, 0, rfl, ⟨_, _, _, _, _, rfl⟩, (by intro h; cases h), Or.inl ⟨rfl, rfl⟩, (((((g1.setCell (by simp; omega) _).setCell (by simp; omega) _).setCell (by simp; omega) _).setCell (by simp; omega) _).setCell (by simp; omega) _).setCell (by simp; omega) _⟩
  | true =>
    have HB := Lib.hid hB
    obtain ⟨hg, hs2⟩ := okB_set hB
    by_cases hz : okS q ws n xs m = 0
    · have HU := Lib.hid (uniB_no2 hz)
      rw [HU.out]
      rw [hz, HB.out] at HCS
      rw [hz]
      clear hB hg hs2 hz
      go_enter Tryd.func27, Tryd.ntmps27
      go_wp2_with fail
      refine HCS.out.mono ?_
      rintro e w1 ⟨rfl, hb1⟩
      have g1 := bfrom hb0 hb1
      have h1 := hr1.now hb1
      have h2 := hr2.now hb1
      obtain ⟨d0, d1, d2⟩ := h1.cells
      obtain ⟨d3, d4, d5⟩ := h2.cells
      obtain ⟨f0, f1, f2⟩ := frozen_box3 h1
      obtain ⟨f3, f4, f5⟩ := frozen_box3 h2
      clear hx hr1 hr2 c0 c1 hb0 hb1
      have h1F := box3U_far3 (h1.put (.int .i64 0) (.slice none 0 0) (.int .u64 0)) (show r1 ≠ r2 by omega) (.int .i64 0) (.slice none 0 0) (.int .u64 0)
      have h2F := (box3U_far3 h2 (show r2 ≠ r1 by omega) (.int .i64 0) (.slice none 0 0) (.int .u64 0)).put (.int .i64 0) (.slice none 0 0) (.int .u64 0)
      obtain ⟨e0, e1, e2⟩ := h1F.cells
      obtain ⟨e3, e4, e5⟩ := h2F.cells
      go_wp2
      refine bodyPost_ret (v := .tuple #[.agg #[.int .i64 0, .slice none 0 0, .int .u64 0], .agg #[.int .i64 0, .slice none 0 0, .int .u64 0], .bool false]) (by simp [results, Tryd.results27, go_sem, e0, e1, e2, e3, e4, e5]) rfl ?_
      exact ⟨_, none, 0, rfl, ⟨_, _, _, _, _, rfl⟩, (by intro h; cases h), Or.inl ⟨rfl, rfl⟩, (((((g1.setCell (by simp; omega) _).setCell (by simp; omega) _).setCell (by simp; omega) _).setCell (by simp; omega) _).setCell (by simp; omega) _).setCell (by simp; omega) _⟩
    · have h0 : 0 < okS q ws n xs m := Nat.pos_of_ne_zero hz
      have HU := Lib.hid (uniB_yes hB hz)
      rw [HU.out]
      rw [HB.out] at HCS
      obtain ⟨b, off, rfl, hsl⟩ := HK.out.get hg.lo
      have HSL := Lib.hid hsl
      obtain ⟨s, hse⟩ : ∃ z, z = okS q ws n xs m := ⟨_, rfl⟩
      simp only [← hse] at HCS
      rw [← hse] at h0 hs2 ⊢
      have h512 : s < 512 := Nat.lt_of_lt_of_le hs2 (Nat.pow_le_pow_right (n := 2) (by omega) hg.hi)
      have HUN := Lib.hid (fun W (hb : Below w.heap.size w W) => united_any q b off n s ws W hg h0 hs2 (HSL.out.now hb) (HT.out.now hb))
      simp only [PartyAt] at HUN
      have hsb : ((s : Int) == 0) = false := by simp; omega
      clear hB hz hse hsl hg hs2
      unfold UnionAt
      obtain ⟨ok, hok⟩ : ∃ z, z = decide (wtK ws s n ≤ 1000) := ⟨_, rfl⟩
      simp only [← hok] at HUN
      rw [← hok]
      clear hok
      obtain ⟨L, hL⟩ : ∃ z, z = uniL ws n s := ⟨_, rfl⟩
      simp only [← hL] at HUN
      rw [← hL]
      clear hL
      obtain ⟨qq, hqq⟩ : ∃ z, z = qIf ok q := ⟨_, rfl⟩
      obtain ⟨mm, hmm⟩ : ∃ z, z = nIf ok L.length := ⟨_, rfl⟩
      obtain ⟨pp, hpp⟩ : ∃ z, z = nIf ok (2^firstN s) := ⟨_, rfl⟩
      simp only [← hqq, ← hmm, ← hpp] at HUN
      simp only [← hqq, ← hmm, ← hpp]
      clear hqq hmm hpp
      go_enter Tryd.func27, Tryd.ntmps27
      go_wp2_with fail
      refine HCS.out.mono ?_
      rintro e w1 ⟨rfl, hb1⟩
      have g1 := bfrom hb0 hb1
      obtain ⟨d0, d1⟩ := (hx.now hb1).cells
      have h1 := (hr1.now hb1).alloc (.cells #[.int .i64 q, .slice (some ⟨b, off, none⟩) n n, .int .u64 s] 46)
      have h2 := (hr2.now hb1).alloc (.cells #[.int .i64 q, .slice (some ⟨b, off, none⟩) n n, .int .u64 s] 46)
      have h9 := Box3.new 46 w1 (.int .i64 q) (.slice (some ⟨b, off, none⟩) n n) (.int .u64 s)
      have g2 := g1.alloc g1.size (.cells #[.int .i64 q, .slice (some ⟨b, off, none⟩) n n, .int .u64 s] 46)
      have hl2 := (hr2.now hb1).lt
      clear hx hr1 hr2 c0 c1 hb0 hb1
      obtain ⟨k0, k1, k2⟩ := h9.cells
      go_wp2_with (first
        | (go_at_call 49; refine (HUN.out _ g2).mono ?_; rintro e w3 ⟨A', cp', rfl, hheld, hb3⟩; have HE := Lib.hid hheld; clear hheld)
        | fail)
      have h1 := (h1.now hb3).alloc (.cells #[.int .i64 qq, .slice A' mm cp', .int .u64 (pp : Nat)] 46)
      have h2 := (h2.now hb3).alloc (.cells #[.int .i64 qq, .slice A' mm cp', .int .u64 (pp : Nat)] 46)
      have h9 := (h9.now hb3).alloc (.cells #[.int .i64 qq, .slice A' mm cp', .int .u64 (pp : Nat)] 46)
      have h10 := Box3.new 46 w3 (.int .i64 qq) (.slice A' mm cp') (.int .u64 (pp : Nat))
      have g3 := bfrom g2 hb3
      have g4 := g3.alloc g3.size (.cells #[.int .i64 qq, .slice A' mm cp', .int .u64 (pp : Nat)] 46)
      have HE4 := Lib.hid (heldU_base (heldU_now HE.out (below1 w3 (.cells #[.int .i64 qq, .slice A' mm cp', .int .u64 (pp : Nat)] 46))) (show r2 + 1 ≤ _ by simp; omega))
      have hz3 := hb3.size
      simp only [World.size_alloc] at hz3
      clear hb3 g1 g2 g3 HE k0 k1 k2 d0 d1
      obtain ⟨W4, hW4⟩ : ∃ z, z = w3.alloc (.cells #[.int .i64 qq, .slice A' mm cp', .int .u64 (pp : Nat)] 46) := ⟨_, rfl⟩
      rw [← hW4] at h1 h2 h9 h10 g4 HE4 ⊢
      clear hW4
      obtain ⟨p9, hp9⟩ : ∃ z, z = w1.heap.size := ⟨_, rfl⟩
      obtain ⟨p10, hp10⟩ : ∃ z, z = w3.heap.size := ⟨_, rfl⟩
      have hn1 : p9 ≠ r1 := by omega
      have hn2 : p9 ≠ r2 := by omega
      have hn3 : p10 ≠ r1 := by omega
      have hn4 : p10 ≠ r2 := by omega
      rw [← hp9] at h9 ⊢
      rw [← hp10] at h10 ⊢
      clear hp9 hp10
      obtain ⟨k0, k1, k2⟩ := h9.cells
      obtain ⟨k3, k4, k5⟩ := h10.cells
      obtain ⟨d0, d1, d2⟩ := h1.cells
      obtain ⟨d3, d4, d5⟩ := h2.cells
      obtain ⟨f0, f1, f2⟩ := frozen_box3 h1
      obtain ⟨f3, f4, f5⟩ := frozen_box3 h2
      go_wp2_with fail
      go_region
      have h1F := (box3U_far3 (h1.put (.int .i64 q) (.slice (some ⟨b, off, none⟩) n n) (.int .u64 s)) (show r1 ≠ r2 by omega) (.int .i64 qq) (.slice A' mm cp') (.int .u64 (pp : Nat))).drew
      have h2F := ((box3U_far3 h2 (show r2 ≠ r1 by omega) (.int .i64 q) (.slice (some ⟨b, off, none⟩) n n) (.int .u64 s)).put (.int .i64 qq) (.slice A' mm cp') (.int .u64 (pp : Nat))).drew
      obtain ⟨e0, e1, e2⟩ := h1F.cells
      obtain ⟨e3, e4, e5⟩ := h2F.cells
      go_wp2
      refine bodyPost_ret (v := .tuple #[.agg #[.int .i64 q, .slice (some ⟨b, off, none⟩) n n, .int .u64 s], .agg #[.int .i64 qq, .slice A' mm cp', .int .u64 (pp : Nat)], .bool ok]) (by simp [results, Tryd.results27, go_sem, e0, e1, e2, e3, e4, e5]) rfl ?_
      exact ⟨_, A', cp', rfl, ⟨_, _, _, _, _, rfl⟩, fun _ => rfl, heldU_base (heldU_now (heldU_far3 (heldU_far3 HE4.out (show r1 < r2 + 1 by omega) _ _ _) (show r2 < r2 + 1 by omega) _ _ _) (Below.refl _ _).drew) (by omega), ((((((g4.setCell (by simp; omega) _).setCell (by simp; omega) _).setCell (by simp; omega) _).setCell (by simp; omega) _).setCell (by simp; omega) _).setCell (by simp; omega) _).drew⟩
end Go.Proofs.YtkckefjpkhjeaabDoor

namespace Go.Proofs.YtkckefjpkhjeaabDoor
open Go.RowKit Vo

set_option maxRecDepth 20000 in
set_option maxHeartbeats 8000000 in
theorem mergeMembers_any (q : Int) (A : Option Addr) (n : Nat) (ws : List Int) (b2 off2 m cap2 : Nat) (xs : List Int) (w : World) (hm : n ≤ 9223372036854775807) (hk : Known w A n ws) (hm2 : m ≤ 9223372036854775807) (hs : Sl w b2 off2 m xs) (hT : Tab w) :
    Calls Tryd.prog 11 #[.agg #[.int .i64 q, .slice A n n], .slice (some ⟨b2, off2, none⟩) m cap2] w fun e w' => ComAt (qIf (uniB q ws n xs m) q) (nIf (uniB q ws n xs m) (uniL ws n (okS q ws n xs m)).length) (uniL ws n (okS q ws n xs m)) (uniB q ws n xs m) w w' e := by
  have hb0 : Below w.heap.size w ((w.alloc (.cells #[.int .i64 q, .slice A n n] 26)).alloc (.cells #[.int .i64 0, .slice none 0 0] 26)) := (below1 w _).alloc (by simp) _
  have hx := (Box.new w (.int .i64 q) (.slice A n n)).alloc (.cells #[.int .i64 0, .slice none 0 0] 26)
  have hr := Box.new (w.alloc (.cells #[.int .i64 q, .slice A n n] 26)) (.int .i64 0) (.slice none 0 0)
  simp only [World.size_alloc] at hr
  have HRU := Lib.hid (readUnion_any q A n ws b2 off2 m cap2 xs _ hm (hk.now hb0) hm2 (hs.now hb0) (hT.now hb0))
  obtain ⟨c0, c1⟩ := hx.cells
  clear hk hs hT
  simp only [UnionAt] at HRU
  unfold ComAt
  obtain ⟨L, hL⟩ : ∃ z, z = uniL ws n (okS q ws n xs m) := ⟨_, rfl⟩
  obtain ⟨pp, hpp⟩ : ∃ z, z = nIf (uniB q ws n xs m) (2^firstN (okS q ws n xs m)) := ⟨_, rfl⟩
  simp only [← hL, ← hpp] at HRU
  rw [← hL]
  clear hL hpp
  obtain ⟨ok, hok⟩ : ∃ z, z = uniB q ws n xs m := ⟨_, rfl⟩
  simp only [← hok] at HRU
  rw [← hok]
  clear hok
  obtain ⟨qq, hqq⟩ : ∃ z, z = qIf ok q := ⟨_, rfl⟩
  obtain ⟨mm, hmm⟩ : ∃ z, z = nIf ok L.length := ⟨_, rfl⟩
  simp only [← hqq, ← hmm] at HRU
  rw [← hqq, ← hmm]
  clear hqq hmm
  go_enter Tryd.func11, Tryd.ntmps11
  go_wp2_with fail
  refine HRU.out.mono ?_
  rintro e w1 ⟨x, A', cp', rfl, ⟨xa, xB, xk, xc, xd, hxe⟩, _, hheld, hb1⟩
  obtain ⟨x0, h0⟩ : ∃ z, z = Value.int .i64 xa := ⟨_, rfl⟩
  obtain ⟨x1, h1⟩ : ∃ z, z = Value.slice xB xk xc := ⟨_, rfl⟩
  obtain ⟨x2, h2⟩ : ∃ z, z = Value.int .u64 xd := ⟨_, rfl⟩
  rw [← h0, ← h1, ← h2] at hxe
  subst hxe
  have H0 := Lib.hid h0
  have H1 := Lib.hid h1
  have H2 := Lib.hid h2
  clear h0 h1 h2
  have HE := Lib.hid hheld
  have G1 := Lib.hid (bfrom hb0 hb1)
  have hr1 := hr.now hb1
  have hz0 := hb1.size
  simp only [World.size_alloc] at hz0
  have h6 := (Box3.new 46 w1 (.int .i64 0) (.slice none 0 0) (.int .u64 0)).alloc (.cells #[.int .i64 0, .slice none 0 0, .int .u64 0] 46)
  have h7 := Box3.new 46 (w1.alloc (.cells #[.int .i64 0, .slice none 0 0, .int .u64 0] 46)) (.int .i64 0) (.slice none 0 0) (.int .u64 0)
  have hr2 := (hr1.alloc (.cells #[.int .i64 0, .slice none 0 0, .int .u64 0] 46)).alloc (.cells #[.int .i64 0, .slice none 0 0, .int .u64 0] 46)
  simp only [World.size_alloc] at h7
  have b2 : Below w1.heap.size w1 ((w1.alloc (.cells #[.int .i64 0, .slice none 0 0, .int .u64 0] 46)).alloc (.cells #[.int .i64 0, .slice none 0 0, .int .u64 0] 46)) := ((Below.refl _ w1).alloc (Nat.le_refl _) (.cells #[.int .i64 0, .slice none 0 0, .int .u64 0] 46)).alloc (by simp) (.cells #[.int .i64 0, .slice none 0 0, .int .u64 0] 46)
  obtain ⟨W2, hW2⟩ : ∃ z, z = (w1.alloc (.cells #[.int .i64 0, .slice none 0 0, .int .u64 0] 46)).alloc (.cells #[.int .i64 0, .slice none 0 0, .int .u64 0] 46) := ⟨_, rfl⟩
  have HW2 := Lib.hid hW2
  rw [← hW2] at h6 h7 hr2 b2
  clear hW2 hx hr hr1 hb0 hb1 hheld c0 c1
  obtain ⟨p7, hp7⟩ : ∃ z, z = w1.heap.size + 1 := ⟨_, rfl⟩
  obtain ⟨p6, hp6⟩ : ∃ z, z = w1.heap.size := ⟨_, rfl⟩
  have HP7 := Lib.hid hp7
  have HP6 := Lib.hid hp6
  rw [← hp7] at h7
  rw [← hp6] at h6
  have h67 : p6 ≠ p7 := by omega
  have hn6 : w.heap.size + 1 ≠ p6 := by omega
  have hn7 : w.heap.size + 1 ≠ p7 := by omega
  have b8 : Below w1.heap.size w1 ((((((W2.setCell ⟨p6, 0, none⟩ (.int .i64 xa)).setCell ⟨p6, 1, none⟩ (.slice xB xk xc)).setCell ⟨p6, 2, none⟩ (.int .u64 xd)).setCell ⟨p7, 0, none⟩ (.int .i64 qq)).setCell ⟨p7, 1, none⟩ (.slice A' mm cp')).setCell ⟨p7, 2, none⟩ (.int .u64 (pp : Nat))) := ((((((b2).setCell (p := ⟨p6, 0, none⟩) (by show _ ≤ p6; omega) (.int .i64 xa)).setCell (p := ⟨p6, 1, none⟩) (by show _ ≤ p6; omega) (.slice xB xk xc)).setCell (p := ⟨p6, 2, none⟩) (by show _ ≤ p6; omega) (.int .u64 xd)).setCell (p := ⟨p7, 0, none⟩) (by show _ ≤ p7; omega) (.int .i64 qq)).setCell (p := ⟨p7, 1, none⟩) (by show _ ≤ p7; omega) (.slice A' mm cp')).setCell (p := ⟨p7, 2, none⟩) (by show _ ≤ p7; omega) (.int .u64 (pp : Nat))
  have HE8 := Lib.hid (heldU_now HE.out b8)
  have G8 := Lib.hid (bfrom G1.out b8)
  clear hp6 hp7 b2 b8 hz0
  have HH6 := Lib.hid h6
  have HH7 := Lib.hid h7
  have HR2 := Lib.hid hr2
  clear h6 h7 hr2
  go_wp2
  rw [← HW2.out, ← HP7.out, ← HP6.out]
  obtain ⟨k0, k1, k2⟩ := HH6.out.cells
  obtain ⟨k3, k4, k5⟩ := HH7.out.cells
  obtain ⟨f0, f1, f2⟩ := frozen_box3 HH6.out
  obtain ⟨f3, f4, f5⟩ := frozen_box3 HH7.out
  obtain ⟨d0, d1⟩ := HR2.out.cells
  obtain ⟨f6, f7⟩ := frozen2 HR2.out
  have t0 := H0.out
  have t1 := H1.out
  have t2 := H2.out
  subst t0 t1 t2
  go_wp2
  have hr3 := (((HR2.out.far (p := ⟨p6, 0, none⟩) hn6 (.int .i64 xa)).far (p := ⟨p6, 1, none⟩) hn6 (.slice xB xk xc)).far (p := ⟨p6, 2, none⟩) hn6 (.int .u64 xd))
  have hr4 := (((hr3.far (p := ⟨p7, 0, none⟩) hn7 (.int .i64 qq)).far (p := ⟨p7, 1, none⟩) hn7 (.slice A' mm cp')).far (p := ⟨p7, 2, none⟩) hn7 (.int .u64 (pp : Nat)))
  have hrF := boxU_put hr4 (.int .i64 qq) (.slice A' mm cp')
  obtain ⟨e0, e1⟩ := hrF.cells
  refine bodyPost_ret (v := .tuple #[.agg #[.int .i64 qq, .slice A' mm cp'], .bool ok]) (by simp [results, Tryd.results11, go_sem, e0, e1]) rfl ?_
  have HH := heldU_far0 (heldU_far0 HE8.out (p := ⟨w.heap.size + 1, 0, none⟩) (by simp) (.int .i64 qq)) (p := ⟨w.heap.size + 1, 1, none⟩) (by simp) (.slice A' mm cp')
  have GG := (G8.out.setCell (p := ⟨w.heap.size + 1, 0, none⟩) (by simp) (.int .i64 qq)).setCell (p := ⟨w.heap.size + 1, 1, none⟩) (by simp) (.slice A' mm cp')
  exact ⟨A', cp', rfl, heldU_base HH (by simp; omega), GG⟩
end Go.Proofs.YtkckefjpkhjeaabDoor

namespace Go.Proofs.YtkckefjpkhjeaabDoor
open Go.RowKit Vo

theorem heldU_known {base : Nat} {w : World} {A : Option Addr} {m : Nat} {L : List Int} (h : Held base w A m L) : Known w A m L := by
  rcases h with ⟨h, _⟩ | ⟨g, rfl, _, hi⟩
  · exact ⟨0, 0, fun h1 => by omega, fun h1 => by omega⟩
  · exact Known.of (Ints.sl hi)

set_option maxRecDepth 20000 in
set_option maxHeartbeats 8000000 in
theorem unionGain_any (kf : Nat) (V : Int) (q : Int) (A : Option Addr) (n : Nat) (ws : List Int) (b2 off2 m cap2 : Nat) (xs : List Int) (w : World) (hm : n ≤ 9223372036854775807) (hk : Known w A n ws) (hm2 : m ≤ 9223372036854775807) (hs : Sl w b2 off2 m xs) (hT : Tab w)
    (hG : uniB q ws n xs m = true → ∀ (A' : Option Addr) (cp' : Nat) (W : World), Below w.heap.size w W → Known W A' (uniL ws n (okS q ws n xs m)).length (uniL ws n (okS q ws n xs m)) →
      Calls Tryd.prog 54 #[.agg #[.int .i64 q, .slice A n n, .int .u64 (okS q ws n xs m : Nat)], .agg #[.int .i64 q, .slice A' (uniL ws n (okS q ws n xs m)).length cp', .int .u64 (2^firstN (okS q ws n xs m) : Nat)], .func (.func kf) #[] #[]] W fun e w' => e = .returned (.int .i64 V) ∧ Below W.heap.size W w') :
    Calls Tryd.prog 30 #[.agg #[.int .i64 q, .slice A n n], .slice (some ⟨b2, off2, none⟩) m cap2, .func (.func kf) #[] #[]] w fun e w' => e = .returned (.tuple #[.int .i64 (if uniB q ws n xs m then V else 0), .bool (uniB q ws n xs m)]) ∧ Below w.heap.size w w' := by
  have hb0 : Below w.heap.size w (w.alloc (.cells #[.int .i64 q, .slice A n n] 26)) := below1 w _
  have hx := Box.new w (.int .i64 q) (.slice A n n)
  have HRU := Lib.hid (readUnion_any q A n ws b2 off2 m cap2 xs _ hm (hk.now hb0) hm2 (hs.now hb0) (hT.now hb0))
  obtain ⟨c0, c1⟩ := hx.cells
  have HG := Lib.hid hG
  clear hk hs hT hG
  simp only [UnionAt] at HRU
  obtain ⟨s, hse⟩ : ∃ z, z = okS q ws n xs m := ⟨_, rfl⟩
  simp only [← hse] at HRU HG
  clear hse
  obtain ⟨L, hL⟩ : ∃ z, z = uniL ws n s := ⟨_, rfl⟩
  simp only [← hL] at HRU HG
  clear hL
  obtain ⟨P, hP⟩ : ∃ z, z = 2^firstN s := ⟨_, rfl⟩
  simp only [← hP] at HRU HG
  clear hP
  cases hU : uniB q ws n xs m with
  | false =>
    rw [hU] at HRU
    clear HG hU
    obtain ⟨qq, hqq⟩ : ∃ z, z = qIf false q := ⟨_, rfl⟩
    obtain ⟨mm, hmm⟩ : ∃ z, z = nIf false L.length := ⟨_, rfl⟩
    obtain ⟨pp, hpp⟩ : ∃ z, z = nIf false P := ⟨_, rfl⟩
    simp only [← hqq, ← hmm, ← hpp] at HRU
    clear hqq hmm hpp
    go_enter Tryd.func30, Tryd.ntmps30
    go_wp2_with fail
    refine HRU.out.mono ?_
    rintro e w1 ⟨x, A', cp', rfl, ⟨xa, xB, xk, xc, xd, hxe⟩, _, hheld, hb1⟩
    obtain ⟨x0, h0⟩ : ∃ z, z = Value.int .i64 xa := ⟨_, rfl⟩
    obtain ⟨x1, h1⟩ : ∃ z, z = Value.slice xB xk xc := ⟨_, rfl⟩
    obtain ⟨x2, h2⟩ : ∃ z, z = Value.int .u64 xd := ⟨_, rfl⟩
    rw [← h0, ← h1, ← h2] at hxe
    subst hxe
    have H0 := Lib.hid h0
    have H1 := Lib.hid h1
    have H2 := Lib.hid h2
    clear h0 h1 h2
    have HE := Lib.hid hheld
    have G1 := Lib.hid (bfrom hb0 hb1)
    have hz0 := hb1.size
    simp only [World.size_alloc] at hz0
    have h6 := (Box3.new 46 w1 (.int .i64 0) (.slice none 0 0) (.int .u64 0)).alloc (.cells #[.int .i64 0, .slice none 0 0, .int .u64 0] 46)
    have h7 := Box3.new 46 (w1.alloc (.cells #[.int .i64 0, .slice none 0 0, .int .u64 0] 46)) (.int .i64 0) (.slice none 0 0) (.int .u64 0)
    simp only [World.size_alloc] at h7
    have b2 : Below w1.heap.size w1 ((w1.alloc (.cells #[.int .i64 0, .slice none 0 0, .int .u64 0] 46)).alloc (.cells #[.int .i64 0, .slice none 0 0, .int .u64 0] 46)) := ((Below.refl _ w1).alloc (Nat.le_refl _) (.cells #[.int .i64 0, .slice none 0 0, .int .u64 0] 46)).alloc (by simp) (.cells #[.int .i64 0, .slice none 0 0, .int .u64 0] 46)
    obtain ⟨W2, hW2⟩ : ∃ z, z = (w1.alloc (.cells #[.int .i64 0, .slice none 0 0, .int .u64 0] 46)).alloc (.cells #[.int .i64 0, .slice none 0 0, .int .u64 0] 46) := ⟨_, rfl⟩
    have HW2 := Lib.hid hW2
    rw [← hW2] at h6 h7 b2
    clear hW2 hx hb0 hb1 hheld c0 c1
    obtain ⟨p7, hp7⟩ : ∃ z, z = w1.heap.size + 1 := ⟨_, rfl⟩
    obtain ⟨p6, hp6⟩ : ∃ z, z = w1.heap.size := ⟨_, rfl⟩
    have HP7 := Lib.hid hp7
    have HP6 := Lib.hid hp6
    rw [← hp7] at h7
    rw [← hp6] at h6
    have h67 : p6 ≠ p7 := by omega
    have b8 : Below w1.heap.size w1 ((((((W2.setCell ⟨p6, 0, none⟩ x0).setCell ⟨p6, 1, none⟩ x1).setCell ⟨p6, 2, none⟩ x2).setCell ⟨p7, 0, none⟩ (.int .i64 qq)).setCell ⟨p7, 1, none⟩ (.slice A' mm cp')).setCell ⟨p7, 2, none⟩ (.int .u64 (pp : Nat))) := ((((((b2).setCell (p := ⟨p6, 0, none⟩) (by show _ ≤ p6; omega) x0).setCell (p := ⟨p6, 1, none⟩) (by show _ ≤ p6; omega) x1).setCell (p := ⟨p6, 2, none⟩) (by show _ ≤ p6; omega) x2).setCell (p := ⟨p7, 0, none⟩) (by show _ ≤ p7; omega) (.int .i64 qq)).setCell (p := ⟨p7, 1, none⟩) (by show _ ≤ p7; omega) (.slice A' mm cp')).setCell (p := ⟨p7, 2, none⟩) (by show _ ≤ p7; omega) (.int .u64 (pp : Nat))
    have HE8 := Lib.hid (heldU_now HE.out b8)
    have G8 := Lib.hid (bfrom G1.out b8)
    clear hp6 hp7 b2 b8 hz0
    have HH6 := Lib.hid h6
    have HH7 := Lib.hid h7
    clear h6 h7
    go_wp2
    rw [← HW2.out, ← HP7.out, ← HP6.out]
    obtain ⟨k0, k1, k2⟩ := HH6.out.cells
    obtain ⟨k3, k4, k5⟩ := HH7.out.cells
    obtain ⟨f0, f1, f2⟩ := frozen_box3 HH6.out
    obtain ⟨f3, f4, f5⟩ := frozen_box3 HH7.out
    have t0 := H0.out
    have t1 := H1.out
    have t2 := H2.out
    subst t0 t1 t2
    go_wp2
    go_ret2
    exact ⟨rfl, G8.out⟩
  | true =>
    have HGG := Lib.hid (HG.out hU)
    rw [hU] at HRU
    clear HG hU
    have HQ1 := Lib.hid (show qIf true q = q from rfl)
    have HM1 := Lib.hid (show nIf true L.length = L.length from rfl)
    have HP1 := Lib.hid (show nIf true P = P from rfl)
    simp only [HQ1.out, HM1.out, HP1.out] at HRU
    clear HQ1 HM1 HP1
    obtain ⟨mm, hmm⟩ : ∃ z, z = L.length := ⟨_, rfl⟩
    simp only [← hmm] at HRU HGG
    clear hmm
    go_enter Tryd.func30, Tryd.ntmps30
    go_wp2_with fail
    refine HRU.out.mono ?_
    rintro e w1 ⟨x, A', cp', rfl, _, hxe, hheld, hb1⟩
    have hxe := (by first | exact hxe rfl | exact hxe trivial | exact hxe : x = Value.agg #[.int .i64 q, .slice A n n, .int .u64 (s : Nat)])
    subst hxe
    have g1 := bfrom hb0 hb1
    have HE8 := Lib.hid (heldU_now (heldU_now hheld (below1 w1 (.cells #[.int .i64 q, .slice A n n, .int .u64 (s : Nat)] 46))) (below1 _ (.cells #[.int .i64 q, .slice A' mm cp', .int .u64 (P : Nat)] 46)))
    have G8 := Lib.hid ((g1.alloc g1.size (.cells #[.int .i64 q, .slice A n n, .int .u64 (s : Nat)] 46)).alloc (by have := g1.size; simp; omega) (.cells #[.int .i64 q, .slice A' mm cp', .int .u64 (P : Nat)] 46))
    clear hheld g1 hb0 hb1 hx c0 c1
    go_wp2_with (first
      | (go_at_call 54; refine (HGG.out A' cp' _ G8.out (heldU_known HE8.out)).mono ?_; rintro e w9 ⟨rfl, hb9⟩)
      | fail)
    go_ret2
    exact ⟨rfl, bfrom G8.out hb9⟩
end Go.Proofs.YtkckefjpkhjeaabDoor
