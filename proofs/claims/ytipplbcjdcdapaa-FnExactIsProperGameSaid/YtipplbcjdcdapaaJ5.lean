/- Contracts of the program's IsProperGame and IsStrongGame. -/
import Derived.Test.YtipplbcjdcdapaaJ3
import Derived.Outline
namespace Go.Proofs.Ytipplbcjdcdapaa
open Go.RowKit Vo


set_option maxRecDepth 20000 in
set_option maxHeartbeats 1000000 in
theorem isProperRule_any (p : Nat → Bool) (k : Nat) (first cap : Array Value) (n : Nat) (w : World) (hn : n < 10) (ha : Asks p k first cap n w) :
    Calls Try.prog 122 #[.int .i64 n, .func (.func k) first cap] w fun e w' => e = .returned (.bool (allK (properS p n) (2^n))) ∧ Below w.heap.size w w' := by
  have b1 := below1 w (.cells #[.int .i64 n] 3)
  have x1 := Box1.new 3 w (.int .i64 n)
  have b2 := b1.alloc (by simp) (.cells #[.func (.func k) first cap] 85)
  have x2 := Box1.new 85 (w.alloc (.cells #[.int .i64 n] 3)) (.func (.func k) first cap)
  have x1' := x1.alloc (.cells #[.func (.func k) first cap] 85)
  simp only [World.size_alloc] at x2
  have HA := Lib.hid (show Asks (properS p n) 140 #[] #[.pointer (some ⟨w.heap.size + 1, 0, none⟩), .pointer (some ⟨w.heap.size, 0, none⟩)] n _ from
    ⟨enters_of Try.func140 (by kernel_rfl) rfl, fun W s h hb => properRule1_any p k first cap n _ _ s W hn h (ha.now (bfrom b2 hb)) (x2.now hb) (x1'.now hb)⟩)
  have HB := Lib.hid (areAllSets_any (properS p n) _ _ _ n _ hn HA.out)
  have c1 := x1'.cell
  clear ha x1 x1' x2
  obtain ⟨a, haa⟩ : ∃ a, a = allK (properS p n) (2^n) := ⟨_, rfl⟩
  rw [← haa] at HB ⊢
  clear haa
  go_enter Try.func122, Try.ntmps122
  go_wp2_with fail
  refine HB.out.mono ?_
  rintro e w3 ⟨rfl, hb3⟩
  go_wp2
  go_ret
  exact ⟨rfl, bfrom b2 hb3⟩

set_option maxRecDepth 20000 in
set_option maxHeartbeats 1000000 in
theorem gProper_any (S : List Nat) (q base k cap : Nat) (A : Option Addr) (w : World) (hq : q ≤ 9) (hk : k = S.length) (hs : k ≤ 1048576) (hS : ∀ t ∈ S, t < 512) (h1 : w.ownsRow base 96 1 (.slice A k cap) k (setsV S)) :
    Calls Try.prog 80 #[.agg #[.int .i64 q, .slice A k cap]] w fun e w' => e = .returned (.bool (allK (properS (winS S) q) (2^q))) ∧ Below w.heap.size w w' := by
  have hx := BoxT.new 71 w (.int .i64 q) (.slice A k cap)
  have hb0 := below1 w (.cells #[.int .i64 q, .slice A k cap] 71)
  have HA := Lib.hid (gWins_asks S q base k cap q A _ hq hk hs hS (owns_now h1 hb0))
  have HB := Lib.hid (isProperRule_any (winS S) _ _ _ q _ (by omega) HA.out)
  obtain ⟨c0, c1⟩ := hx.cells
  obtain ⟨a, haa⟩ : ∃ a, a = allK (properS (winS S) q) (2^q) := ⟨_, rfl⟩
  rw [← haa] at HB ⊢
  clear haa h1 hk hS hx
  go_enter Try.func80, Try.ntmps80
  go_wp2_with fail
  refine HB.out.mono ?_
  rintro e w3 ⟨rfl, hb3⟩
  go_wp2
  go_ret
  exact ⟨rfl, bfrom hb0 hb3⟩

def properG (m : Int) (L : List (List Int)) : Bool := goodG m L && allK (properS (winS (setsN L)) m.toNat) (2^m.toNat)
theorem properG_yes {q : Nat} {L : List (List Int)} (h : goodG (q : Int) L = true) : properG (q : Int) L = allK (properS (winS (setsN L)) q) (2^q) := by unfold properG; rw [h, Int.toNat_natCast]; rfl
theorem properG_no {m : Int} {L : List (List Int)} (h : goodG m L = false) : properG m L = false := by unfold properG; rw [h]; rfl

set_option maxRecDepth 20000 in
set_option maxHeartbeats 2000000 in
theorem iIsProperGame_any (m : Int) (A : Option Addr) (n cap : Nat) (L : List (List Int)) (w : World) (hl : n ≤ 1048576) (hk : Lists w A n L) :
    Calls Try.prog 37 #[.agg #[.int .i64 m, .slice A n cap]] w fun e w' => e = .returned (.tuple #[.bool (properG m L), .bool (goodG m L)]) ∧ Below w.heap.size w w' := by
  have HK := Lib.hid (hk.now (below1 w (.cells #[.int .i64 m, .slice A n cap] 28)))
  have HLEN := Lib.hid hk.1
  clear hk
  have hx := BoxT.new 28 w (.int .i64 m) (.slice A n cap)
  have hb0 := below1 w (.cells #[.int .i64 m, .slice A n cap] 28)
  obtain ⟨c0, c1⟩ := hx.cells
  go_enter Try.func37, Try.ntmps37
  go_wp2_with fail
  refine (readGame_any m A n cap L _ hl HK.out).mono ?_
  rintro e w1 ⟨hb1, h⟩
  have g1 := bfrom hb0 hb1
  rcases h with ⟨hg, B, cp, rfl, hown⟩ | ⟨hg, rfl⟩
  · obtain ⟨h1, h9, _, hr, _⟩ := goodG_parts hg
    obtain ⟨q, rfl⟩ : ∃ q : Nat, m = q := ⟨m.toNat, by omega⟩
    rw [Int.toNat_natCast] at hr
    have hq9 : q ≤ 9 := by omega
    rw [HLEN.out] at hown ⊢
    have HGB := Lib.hid hg
    have HCN := Lib.hid (properG_yes hg)
    have HSN := Lib.hid (show n = (setsN L).length from by rw [← HLEN.out]; simp [setsN])
    have b2 := below1 w1 (.cells #[.int .i64 q, .slice B n cp] 71)
    have hy := BoxT.new 71 w1 (.int .i64 q) (.slice B n cp)
    obtain ⟨d0, d1⟩ := hy.cells
    have HB := Lib.hid (gProper_any (setsN L) q _ n cp B _ hq9 HSN.out hl (setsN_512 hq9 hr) (owns_now hown b2))
    obtain ⟨a, haa⟩ : ∃ a, a = allK (properS (winS (setsN L)) q) (2^q) := ⟨_, rfl⟩
    rw [← haa] at HB HCN
    clear hown hg hr haa
    go_wp2_with fail
    refine HB.out.mono ?_
    rintro e w3 ⟨rfl, hb3⟩
    have g3 := bfrom (bfrom g1 b2) hb3
    go_wp2
    go_ret2
    exact ⟨by rw [HCN.out, HGB.out]; rfl, g3⟩
  · have HGB := Lib.hid hg
    have HCN := Lib.hid (properG_no hg)
    clear hg
    go_wp2
    go_ret2
    exact ⟨by rw [HCN.out, HGB.out]; rfl, g1.alloc g1.size _⟩

set_option maxRecDepth 20000 in
set_option maxHeartbeats 1000000 in
theorem isStrongRule_any (p : Nat → Bool) (k : Nat) (first cap : Array Value) (n : Nat) (w : World) (hn : n < 10) (ha : Asks p k first cap n w) :
    Calls Try.prog 123 #[.int .i64 n, .func (.func k) first cap] w fun e w' => e = .returned (.bool (allK (strongS p n) (2^n))) ∧ Below w.heap.size w w' := by
  have b1 := below1 w (.cells #[.int .i64 n] 3)
  have x1 := Box1.new 3 w (.int .i64 n)
  have b2 := b1.alloc (by simp) (.cells #[.func (.func k) first cap] 85)
  have x2 := Box1.new 85 (w.alloc (.cells #[.int .i64 n] 3)) (.func (.func k) first cap)
  have x1' := x1.alloc (.cells #[.func (.func k) first cap] 85)
  simp only [World.size_alloc] at x2
  have HA := Lib.hid (show Asks (strongS p n) 142 #[] #[.pointer (some ⟨w.heap.size + 1, 0, none⟩), .pointer (some ⟨w.heap.size, 0, none⟩)] n _ from
    ⟨enters_of Try.func142 (by kernel_rfl) rfl, fun W s h hb => strongRule1_any p k first cap n _ _ s W hn h (ha.now (bfrom b2 hb)) (x2.now hb) (x1'.now hb)⟩)
  have HB := Lib.hid (areAllSets_any (strongS p n) _ _ _ n _ hn HA.out)
  have c1 := x1'.cell
  clear ha x1 x1' x2
  obtain ⟨a, haa⟩ : ∃ a, a = allK (strongS p n) (2^n) := ⟨_, rfl⟩
  rw [← haa] at HB ⊢
  clear haa
  go_enter Try.func123, Try.ntmps123
  go_wp2_with fail
  refine HB.out.mono ?_
  rintro e w3 ⟨rfl, hb3⟩
  go_wp2
  go_ret
  exact ⟨rfl, bfrom b2 hb3⟩

set_option maxRecDepth 20000 in
set_option maxHeartbeats 1000000 in
theorem gStrong_any (S : List Nat) (q base k cap : Nat) (A : Option Addr) (w : World) (hq : q ≤ 9) (hk : k = S.length) (hs : k ≤ 1048576) (hS : ∀ t ∈ S, t < 512) (h1 : w.ownsRow base 96 1 (.slice A k cap) k (setsV S)) :
    Calls Try.prog 81 #[.agg #[.int .i64 q, .slice A k cap]] w fun e w' => e = .returned (.bool (allK (strongS (winS S) q) (2^q))) ∧ Below w.heap.size w w' := by
  have hx := BoxT.new 71 w (.int .i64 q) (.slice A k cap)
  have hb0 := below1 w (.cells #[.int .i64 q, .slice A k cap] 71)
  have HA := Lib.hid (gWins_asks S q base k cap q A _ hq hk hs hS (owns_now h1 hb0))
  have HB := Lib.hid (isStrongRule_any (winS S) _ _ _ q _ (by omega) HA.out)
  obtain ⟨c0, c1⟩ := hx.cells
  obtain ⟨a, haa⟩ : ∃ a, a = allK (strongS (winS S) q) (2^q) := ⟨_, rfl⟩
  rw [← haa] at HB ⊢
  clear haa h1 hk hS hx
  go_enter Try.func81, Try.ntmps81
  go_wp2_with fail
  refine HB.out.mono ?_
  rintro e w3 ⟨rfl, hb3⟩
  go_wp2
  go_ret
  exact ⟨rfl, bfrom hb0 hb3⟩

def strongG (m : Int) (L : List (List Int)) : Bool := goodG m L && allK (strongS (winS (setsN L)) m.toNat) (2^m.toNat)
theorem strongG_yes {q : Nat} {L : List (List Int)} (h : goodG (q : Int) L = true) : strongG (q : Int) L = allK (strongS (winS (setsN L)) q) (2^q) := by unfold strongG; rw [h, Int.toNat_natCast]; rfl
theorem strongG_no {m : Int} {L : List (List Int)} (h : goodG m L = false) : strongG m L = false := by unfold strongG; rw [h]; rfl

set_option maxRecDepth 20000 in
set_option maxHeartbeats 2000000 in
theorem iIsStrongGame_any (m : Int) (A : Option Addr) (n cap : Nat) (L : List (List Int)) (w : World) (hl : n ≤ 1048576) (hk : Lists w A n L) :
    Calls Try.prog 39 #[.agg #[.int .i64 m, .slice A n cap]] w fun e w' => e = .returned (.tuple #[.bool (strongG m L), .bool (goodG m L)]) ∧ Below w.heap.size w w' := by
  have HK := Lib.hid (hk.now (below1 w (.cells #[.int .i64 m, .slice A n cap] 28)))
  have HLEN := Lib.hid hk.1
  clear hk
  have hx := BoxT.new 28 w (.int .i64 m) (.slice A n cap)
  have hb0 := below1 w (.cells #[.int .i64 m, .slice A n cap] 28)
  obtain ⟨c0, c1⟩ := hx.cells
  go_enter Try.func39, Try.ntmps39
  go_wp2_with fail
  refine (readGame_any m A n cap L _ hl HK.out).mono ?_
  rintro e w1 ⟨hb1, h⟩
  have g1 := bfrom hb0 hb1
  rcases h with ⟨hg, B, cp, rfl, hown⟩ | ⟨hg, rfl⟩
  · obtain ⟨h1, h9, _, hr, _⟩ := goodG_parts hg
    obtain ⟨q, rfl⟩ : ∃ q : Nat, m = q := ⟨m.toNat, by omega⟩
    rw [Int.toNat_natCast] at hr
    have hq9 : q ≤ 9 := by omega
    rw [HLEN.out] at hown ⊢
    have HGB := Lib.hid hg
    have HCN := Lib.hid (strongG_yes hg)
    have HSN := Lib.hid (show n = (setsN L).length from by rw [← HLEN.out]; simp [setsN])
    have b2 := below1 w1 (.cells #[.int .i64 q, .slice B n cp] 71)
    have hy := BoxT.new 71 w1 (.int .i64 q) (.slice B n cp)
    obtain ⟨d0, d1⟩ := hy.cells
    have HB := Lib.hid (gStrong_any (setsN L) q _ n cp B _ hq9 HSN.out hl (setsN_512 hq9 hr) (owns_now hown b2))
    obtain ⟨a, haa⟩ : ∃ a, a = allK (strongS (winS (setsN L)) q) (2^q) := ⟨_, rfl⟩
    rw [← haa] at HB HCN
    clear hown hg hr haa
    go_wp2_with fail
    refine HB.out.mono ?_
    rintro e w3 ⟨rfl, hb3⟩
    have g3 := bfrom (bfrom g1 b2) hb3
    go_wp2
    go_ret2
    exact ⟨by rw [HCN.out, HGB.out]; rfl, g3⟩
  · have HGB := Lib.hid hg
    have HCN := Lib.hid (strongG_no hg)
    clear hg
    go_wp2
    go_ret2
    exact ⟨by rw [HCN.out, HGB.out]; rfl, g1.alloc g1.size _⟩
end Go.Proofs.Ytipplbcjdcdapaa
