/- Texts of J3, J5. -/
import Derived.Test.YtnldodnpakpeeaaGreatPkQ21
import Derived.Test.YtnldodnpakpeeaaGreatPkQ17
import Derived.Deep.RegionWith
import Derived.Outline
namespace Go.Proofs.YtnldodnpakpeeaaGreat
open Go.RowKit Vo

def cntG (m : Int) (L : List (List Int)) : Int := if goodG m L then (cnt (winS (setsN L)) (2^m.toNat) : Nat) else 0
theorem cntG_yes {q : Nat} {L : List (List Int)} (h : goodG (q : Int) L = true) : cntG (q : Int) L = (cnt (winS (setsN L)) (2^q) : Nat) := by unfold cntG; rw [if_pos h, Int.toNat_natCast]
theorem cntG_no {m : Int} {L : List (List Int)} (h : goodG m L = false) : cntG m L = 0 := if_neg (by rw [h]; simp)

/-- Proper and strong, told of the sets. -/
def properS (p : Nat → Bool) (n s : Nat) : Bool := !p s || !p (co n s)
def strongS (p : Nat → Bool) (n s : Nat) : Bool := p s || p (co n s)

set_option maxRecDepth 20000 in
set_option maxHeartbeats 2000000 in
theorem properRule1_any (p : Nat → Bool) (k : Nat) (first cap : Array Value) (n g h s : Nat) (w : World) (hn : n < 10) (hs : s < 2^n) (ha : Asks p k first cap n w)
    (hg : Box1 43 w g (.func (.func k) first cap)) (hh : Box1 3 w h (.int .i64 n)) :
    Calls Tryz.prog 98 #[.int .u64 s, .pointer (some ⟨g, 0, none⟩), .pointer (some ⟨h, 0, none⟩)] w fun e w' => e = .returned (.bool (properS p n s)) ∧ Below w.heap.size w w' := by
  have HA := Lib.hid ha
  have eg := ha.enters
  have HE := Lib.hid (and_not n s hn hs)
  have HCL := Lib.hid (co_lt hs)
  have h512 : s < 512 := by have := pow_lt (n := n) (by omega); omega
  have h5co : co n s < 512 := by have := pow_lt (n := n) (by omega); have := HCL.out; omega
  have HSL := Lib.hid hs
  have HP := Lib.hid (show properS p n s = (!p s || !p (co n s)) from rfl)
  have K := Lib.hid (show ∀ W, Below w.heap.size w W → W.cell? ⟨g, 0, none⟩ = some (.func (.func k) first cap) ∧ W.cell? ⟨h, 0, none⟩ = some (.int .i64 n) from fun W hb => ⟨(hg.now hb).cell, (hh.now hb).cell⟩)
  have hlg := hg.lt
  have hlh := hh.lt
  obtain ⟨c0, c1⟩ := K.out _ (Below.refl _ _)
  clear ha hs hg hh
  cases hp : p s with
  | false =>
    rw [hp] at HP
    have HPS := Lib.hid hp
    clear hp
    go_enter Tryz.func98, Tryz.ntmps98
    go_wp2_with fail
    first
      | (go_region_with (first
          | (go_at_fn k; refine (HA.out.gives _ s HSL.out (Below.refl _ _).drew).mono ?_; rintro e wA ⟨rfl, hbA⟩; rw [HPS.out]; have gA := bfrom (Below.refl _ w).drew hbA; obtain ⟨a0, a1⟩ := K.out _ gA)))
      | fail
    all_goals
      go_wp2
      go_ret
      exact ⟨by rw [HP.out]; rfl, gA⟩
  | true =>
    rw [hp] at HP
    have HPS := Lib.hid hp
    clear hp
    cases hp2 : p (co n s)
    all_goals
      rw [hp2] at HP
      have HPC := Lib.hid hp2
      clear hp2
      go_enter Tryz.func98, Tryz.ntmps98
      go_wp2_with fail
      go_region_held3 (fun w' => w'.cell? ⟨g, 0, none⟩ = some (.func (.func k) first cap) ∧ w'.cell? ⟨h, 0, none⟩ = some (.int .i64 n))
        (first | exact ⟨c0, c1⟩ | exact ⟨b0, b1⟩ | exact ⟨a0, a1⟩ | go_keep)
        (first
          | (go_at_call 93; refine (allMembers_any n _ hn).mono ?_; rintro e w' ⟨rfl, rfl⟩)
          | (go_at_fn k; (with_reducible refine (HA.out.gives _ s HSL.out ?_).mono ?_); (first | exact (Below.refl _ _).drew | exact gA); rintro e wA ⟨rfl, hbA⟩; rw [HPS.out]; have gA := bfrom (Below.refl _ w).drew hbA; obtain ⟨a0, a1⟩ := K.out _ gA)
          | (rw [HE.out]; go_at_fn k; (with_reducible refine (HA.out.gives _ (co n s) HCL.out ?_).mono ?_); (first | exact gA | exact (Below.refl _ _).drew); rintro e wB ⟨rfl, hbB⟩; rw [HPC.out]; have gB := bfrom gA hbB; obtain ⟨b0, b1⟩ := K.out _ gB))
      go_wp2
      go_ret
      exact ⟨by rw [HP.out]; rfl, gB⟩

set_option maxRecDepth 20000 in
set_option maxHeartbeats 2000000 in
theorem strongRule1_any (p : Nat → Bool) (k : Nat) (first cap : Array Value) (n g h s : Nat) (w : World) (hn : n < 10) (hs : s < 2^n) (ha : Asks p k first cap n w)
    (hg : Box1 43 w g (.func (.func k) first cap)) (hh : Box1 3 w h (.int .i64 n)) :
    Calls Tryz.prog 100 #[.int .u64 s, .pointer (some ⟨g, 0, none⟩), .pointer (some ⟨h, 0, none⟩)] w fun e w' => e = .returned (.bool (strongS p n s)) ∧ Below w.heap.size w w' := by
  have HA := Lib.hid ha
  have eg := ha.enters
  have HE := Lib.hid (and_not n s hn hs)
  have HCL := Lib.hid (co_lt hs)
  have h512 : s < 512 := by have := pow_lt (n := n) (by omega); omega
  have h5co : co n s < 512 := by have := pow_lt (n := n) (by omega); have := HCL.out; omega
  have HSL := Lib.hid hs
  have HP := Lib.hid (show strongS p n s = (p s || p (co n s)) from rfl)
  have K := Lib.hid (show ∀ W, Below w.heap.size w W → W.cell? ⟨g, 0, none⟩ = some (.func (.func k) first cap) ∧ W.cell? ⟨h, 0, none⟩ = some (.int .i64 n) from fun W hb => ⟨(hg.now hb).cell, (hh.now hb).cell⟩)
  have hlg := hg.lt
  have hlh := hh.lt
  obtain ⟨c0, c1⟩ := K.out _ (Below.refl _ _)
  clear ha hs hg hh
  cases hp : p s with
  | true =>
    rw [hp] at HP
    have HPS := Lib.hid hp
    clear hp
    go_enter Tryz.func100, Tryz.ntmps100
    go_wp2_with fail
    first
      | (go_region_with (first
          | (go_at_fn k; refine (HA.out.gives _ s HSL.out (Below.refl _ _).drew).mono ?_; rintro e wA ⟨rfl, hbA⟩; rw [HPS.out]; have gA := bfrom (Below.refl _ w).drew hbA; obtain ⟨a0, a1⟩ := K.out _ gA)))
      | fail
    all_goals
      go_wp2
      go_ret
      exact ⟨by rw [HP.out]; rfl, gA⟩
  | false =>
    rw [hp] at HP
    have HPS := Lib.hid hp
    clear hp
    cases hp2 : p (co n s)
    all_goals
      rw [hp2] at HP
      have HPC := Lib.hid hp2
      clear hp2
      go_enter Tryz.func100, Tryz.ntmps100
      go_wp2_with fail
      go_region_held3 (fun w' => w'.cell? ⟨g, 0, none⟩ = some (.func (.func k) first cap) ∧ w'.cell? ⟨h, 0, none⟩ = some (.int .i64 n))
        (first | exact ⟨c0, c1⟩ | exact ⟨b0, b1⟩ | exact ⟨a0, a1⟩ | go_keep)
        (first
          | (go_at_call 93; refine (allMembers_any n _ hn).mono ?_; rintro e w' ⟨rfl, rfl⟩)
          | (go_at_fn k; (with_reducible refine (HA.out.gives _ s HSL.out ?_).mono ?_); (first | exact (Below.refl _ _).drew | exact gA); rintro e wA ⟨rfl, hbA⟩; rw [HPS.out]; have gA := bfrom (Below.refl _ w).drew hbA; obtain ⟨a0, a1⟩ := K.out _ gA)
          | (rw [HE.out]; go_at_fn k; (with_reducible refine (HA.out.gives _ (co n s) HCL.out ?_).mono ?_); (first | exact gA | exact (Below.refl _ _).drew); rintro e wB ⟨rfl, hbB⟩; rw [HPC.out]; have gB := bfrom gA hbB; obtain ⟨b0, b1⟩ := K.out _ gB))
      go_wp2
      go_ret
      exact ⟨by rw [HP.out]; rfl, gB⟩
end Go.Proofs.YtnldodnpakpeeaaGreat

namespace Go.Proofs.YtnldodnpakpeeaaGreat
open Go.RowKit Vo


set_option maxRecDepth 20000 in
set_option maxHeartbeats 1000000 in
theorem isProperRule_any (p : Nat → Bool) (k : Nat) (first cap : Array Value) (n : Nat) (w : World) (hn : n < 10) (ha : Asks p k first cap n w) :
    Calls Tryz.prog 96 #[.int .i64 n, .func (.func k) first cap] w fun e w' => e = .returned (.bool (allK (properS p n) (2^n))) ∧ Below w.heap.size w w' := by
  have b1 := below1 w (.cells #[.int .i64 n] 3)
  have x1 := Box1.new 3 w (.int .i64 n)
  have b2 := b1.alloc (by simp) (.cells #[.func (.func k) first cap] 43)
  have x2 := Box1.new 43 (w.alloc (.cells #[.int .i64 n] 3)) (.func (.func k) first cap)
  have x1' := x1.alloc (.cells #[.func (.func k) first cap] 43)
  simp only [World.size_alloc] at x2
  have HA := Lib.hid (show Asks (properS p n) 98 #[] #[.pointer (some ⟨w.heap.size + 1, 0, none⟩), .pointer (some ⟨w.heap.size, 0, none⟩)] n _ from
    ⟨enters_of Tryz.func98 (by kernel_rfl) rfl, fun W s h hb => properRule1_any p k first cap n _ _ s W hn h (ha.now (bfrom b2 hb)) (x2.now hb) (x1'.now hb)⟩)
  have HB := Lib.hid (areAllSets_any (properS p n) _ _ _ n _ hn HA.out)
  have c1 := x1'.cell
  clear ha x1 x1' x2
  obtain ⟨a, haa⟩ : ∃ a, a = allK (properS p n) (2^n) := ⟨_, rfl⟩
  rw [← haa] at HB ⊢
  clear haa
  go_enter Tryz.func96, Tryz.ntmps96
  go_wp2_with fail
  refine HB.out.mono ?_
  rintro e w3 ⟨rfl, hb3⟩
  go_wp2
  go_ret
  exact ⟨rfl, bfrom b2 hb3⟩

set_option maxRecDepth 20000 in
set_option maxHeartbeats 1000000 in
theorem gProper_any (S : List Nat) (q base k cap : Nat) (A : Option Addr) (w : World) (hq : q ≤ 9) (hk : k = S.length) (hs : k ≤ 1048576) (hS : ∀ t ∈ S, t < 512) (h1 : w.ownsRow base 69 1 (.slice A k cap) k (setsV S)) :
    Calls Tryz.prog 91 #[.agg #[.int .i64 q, .slice A k cap]] w fun e w' => e = .returned (.bool (allK (properS (winS S) q) (2^q))) ∧ Below w.heap.size w w' := by
  have hx := BoxT.new 46 w (.int .i64 q) (.slice A k cap)
  have hb0 := below1 w (.cells #[.int .i64 q, .slice A k cap] 46)
  have HA := Lib.hid (gWins_asks S q base k cap q A _ hq hk hs hS (owns_now h1 hb0))
  have HB := Lib.hid (isProperRule_any (winS S) _ _ _ q _ (by omega) HA.out)
  obtain ⟨c0, c1⟩ := hx.cells
  obtain ⟨a, haa⟩ : ∃ a, a = allK (properS (winS S) q) (2^q) := ⟨_, rfl⟩
  rw [← haa] at HB ⊢
  clear haa h1 hk hS hx
  go_enter Tryz.func91, Tryz.ntmps91
  go_wp2_with fail
  refine HB.out.mono ?_
  rintro e w3 ⟨rfl, hb3⟩
  go_wp2
  go_ret
  exact ⟨rfl, bfrom hb0 hb3⟩

def properG (m : Int) (L : List (List Int)) : Bool := goodG m L && allK (properS (winS (setsN L)) m.toNat) (2^m.toNat)
theorem properG_yes {q : Nat} {L : List (List Int)} (h : goodG (q : Int) L = true) : properG (q : Int) L = allK (properS (winS (setsN L)) q) (2^q) := by unfold properG; rw [h, Int.toNat_natCast]; rfl
theorem properG_no {m : Int} {L : List (List Int)} (h : goodG m L = false) : properG m L = false := by unfold properG; rw [h]; rfl

set_option maxRecDepth 20000 in
set_option maxHeartbeats 1000000 in
theorem isStrongRule_any (p : Nat → Bool) (k : Nat) (first cap : Array Value) (n : Nat) (w : World) (hn : n < 10) (ha : Asks p k first cap n w) :
    Calls Tryz.prog 97 #[.int .i64 n, .func (.func k) first cap] w fun e w' => e = .returned (.bool (allK (strongS p n) (2^n))) ∧ Below w.heap.size w w' := by
  have b1 := below1 w (.cells #[.int .i64 n] 3)
  have x1 := Box1.new 3 w (.int .i64 n)
  have b2 := b1.alloc (by simp) (.cells #[.func (.func k) first cap] 43)
  have x2 := Box1.new 43 (w.alloc (.cells #[.int .i64 n] 3)) (.func (.func k) first cap)
  have x1' := x1.alloc (.cells #[.func (.func k) first cap] 43)
  simp only [World.size_alloc] at x2
  have HA := Lib.hid (show Asks (strongS p n) 100 #[] #[.pointer (some ⟨w.heap.size + 1, 0, none⟩), .pointer (some ⟨w.heap.size, 0, none⟩)] n _ from
    ⟨enters_of Tryz.func100 (by kernel_rfl) rfl, fun W s h hb => strongRule1_any p k first cap n _ _ s W hn h (ha.now (bfrom b2 hb)) (x2.now hb) (x1'.now hb)⟩)
  have HB := Lib.hid (areAllSets_any (strongS p n) _ _ _ n _ hn HA.out)
  have c1 := x1'.cell
  clear ha x1 x1' x2
  obtain ⟨a, haa⟩ : ∃ a, a = allK (strongS p n) (2^n) := ⟨_, rfl⟩
  rw [← haa] at HB ⊢
  clear haa
  go_enter Tryz.func97, Tryz.ntmps97
  go_wp2_with fail
  refine HB.out.mono ?_
  rintro e w3 ⟨rfl, hb3⟩
  go_wp2
  go_ret
  exact ⟨rfl, bfrom b2 hb3⟩

set_option maxRecDepth 20000 in
set_option maxHeartbeats 1000000 in
theorem gStrong_any (S : List Nat) (q base k cap : Nat) (A : Option Addr) (w : World) (hq : q ≤ 9) (hk : k = S.length) (hs : k ≤ 1048576) (hS : ∀ t ∈ S, t < 512) (h1 : w.ownsRow base 69 1 (.slice A k cap) k (setsV S)) :
    Calls Tryz.prog 92 #[.agg #[.int .i64 q, .slice A k cap]] w fun e w' => e = .returned (.bool (allK (strongS (winS S) q) (2^q))) ∧ Below w.heap.size w w' := by
  have hx := BoxT.new 46 w (.int .i64 q) (.slice A k cap)
  have hb0 := below1 w (.cells #[.int .i64 q, .slice A k cap] 46)
  have HA := Lib.hid (gWins_asks S q base k cap q A _ hq hk hs hS (owns_now h1 hb0))
  have HB := Lib.hid (isStrongRule_any (winS S) _ _ _ q _ (by omega) HA.out)
  obtain ⟨c0, c1⟩ := hx.cells
  obtain ⟨a, haa⟩ : ∃ a, a = allK (strongS (winS S) q) (2^q) := ⟨_, rfl⟩
  rw [← haa] at HB ⊢
  clear haa h1 hk hS hx
  go_enter Tryz.func92, Tryz.ntmps92
  go_wp2_with fail
  refine HB.out.mono ?_
  rintro e w3 ⟨rfl, hb3⟩
  go_wp2
  go_ret
  exact ⟨rfl, bfrom hb0 hb3⟩

def strongG (m : Int) (L : List (List Int)) : Bool := goodG m L && allK (strongS (winS (setsN L)) m.toNat) (2^m.toNat)
theorem strongG_yes {q : Nat} {L : List (List Int)} (h : goodG (q : Int) L = true) : strongG (q : Int) L = allK (strongS (winS (setsN L)) q) (2^q) := by unfold strongG; rw [h, Int.toNat_natCast]; rfl
theorem strongG_no {m : Int} {L : List (List Int)} (h : goodG m L = false) : strongG m L = false := by unfold strongG; rw [h]; rfl

end Go.Proofs.YtnldodnpakpeeaaGreat
