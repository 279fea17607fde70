/- Contracts of the program's IsProperGame and IsStrongGame. -/
import Derived.Test.YtldpdjnedoflcaaJ3
import Derived.Outline
namespace Go.Proofs.Ytldpdjnedoflcaa
open Go.RowKit Vo


set_option maxRecDepth 20000 in
set_option maxHeartbeats 1000000 in
theorem isProperRule_any (p : Nat → Bool) (k : Nat) (first cap : Array Value) (n : Nat) (w : World) (hn : n < 10) (ha : Asks p k first cap n w) :
    Calls Try.prog 71 #[.int .i64 n, .func (.func k) first cap] w fun e w' => e = .returned (.bool (allK (properS p n) (2^n))) ∧ Below w.heap.size w w' := by
  have b1 := below1 w (.cells #[.int .i64 n] 3)
  have x1 := Box1.new 3 w (.int .i64 n)
  have b2 := b1.alloc (by simp) (.cells #[.func (.func k) first cap] 49)
  have x2 := Box1.new 49 (w.alloc (.cells #[.int .i64 n] 3)) (.func (.func k) first cap)
  have x1' := x1.alloc (.cells #[.func (.func k) first cap] 49)
  simp only [World.size_alloc] at x2
  have HA := Lib.hid (show Asks (properS p n) 85 #[] #[.pointer (some ⟨w.heap.size + 1, 0, none⟩), .pointer (some ⟨w.heap.size, 0, none⟩)] n _ from
    ⟨enters_of Try.func85 (by kernel_rfl) rfl, fun W s h hb => properRule1_any p k first cap n _ _ s W hn h (ha.now (bfrom b2 hb)) (x2.now hb) (x1'.now hb)⟩)
  have HB := Lib.hid (areAllSets_any (properS p n) _ _ _ n _ hn HA.out)
  have c1 := x1'.cell
  clear ha x1 x1' x2
  obtain ⟨a, haa⟩ : ∃ a, a = allK (properS p n) (2^n) := ⟨_, rfl⟩
  rw [← haa] at HB ⊢
  clear haa
  go_enter Try.func71, Try.ntmps71
  go_wp2_with fail
  refine HB.out.mono ?_
  rintro e w3 ⟨rfl, hb3⟩
  go_wp2
  go_ret
  exact ⟨rfl, bfrom b2 hb3⟩

def properG (m : Int) (L : List (List Int)) : Bool := goodG m L && allK (properS (winS (setsN L)) m.toNat) (2^m.toNat)
theorem properG_yes {q : Nat} {L : List (List Int)} (h : goodG (q : Int) L = true) : properG (q : Int) L = allK (properS (winS (setsN L)) q) (2^q) := by unfold properG; rw [h, Int.toNat_natCast]; rfl
theorem properG_no {m : Int} {L : List (List Int)} (h : goodG m L = false) : properG m L = false := by unfold properG; rw [h]; rfl

set_option maxRecDepth 20000 in
set_option maxHeartbeats 1000000 in
theorem isStrongRule_any (p : Nat → Bool) (k : Nat) (first cap : Array Value) (n : Nat) (w : World) (hn : n < 10) (ha : Asks p k first cap n w) :
    Calls Try.prog 72 #[.int .i64 n, .func (.func k) first cap] w fun e w' => e = .returned (.bool (allK (strongS p n) (2^n))) ∧ Below w.heap.size w w' := by
  have b1 := below1 w (.cells #[.int .i64 n] 3)
  have x1 := Box1.new 3 w (.int .i64 n)
  have b2 := b1.alloc (by simp) (.cells #[.func (.func k) first cap] 49)
  have x2 := Box1.new 49 (w.alloc (.cells #[.int .i64 n] 3)) (.func (.func k) first cap)
  have x1' := x1.alloc (.cells #[.func (.func k) first cap] 49)
  simp only [World.size_alloc] at x2
  have HA := Lib.hid (show Asks (strongS p n) 87 #[] #[.pointer (some ⟨w.heap.size + 1, 0, none⟩), .pointer (some ⟨w.heap.size, 0, none⟩)] n _ from
    ⟨enters_of Try.func87 (by kernel_rfl) rfl, fun W s h hb => strongRule1_any p k first cap n _ _ s W hn h (ha.now (bfrom b2 hb)) (x2.now hb) (x1'.now hb)⟩)
  have HB := Lib.hid (areAllSets_any (strongS p n) _ _ _ n _ hn HA.out)
  have c1 := x1'.cell
  clear ha x1 x1' x2
  obtain ⟨a, haa⟩ : ∃ a, a = allK (strongS p n) (2^n) := ⟨_, rfl⟩
  rw [← haa] at HB ⊢
  clear haa
  go_enter Try.func72, Try.ntmps72
  go_wp2_with fail
  refine HB.out.mono ?_
  rintro e w3 ⟨rfl, hb3⟩
  go_wp2
  go_ret
  exact ⟨rfl, bfrom b2 hb3⟩

def strongG (m : Int) (L : List (List Int)) : Bool := goodG m L && allK (strongS (winS (setsN L)) m.toNat) (2^m.toNat)
theorem strongG_yes {q : Nat} {L : List (List Int)} (h : goodG (q : Int) L = true) : strongG (q : Int) L = allK (strongS (winS (setsN L)) q) (2^q) := by unfold strongG; rw [h, Int.toNat_natCast]; rfl
theorem strongG_no {m : Int} {L : List (List Int)} (h : goodG m L = false) : strongG m L = false := by unfold strongG; rw [h]; rfl

end Go.Proofs.Ytldpdjnedoflcaa
