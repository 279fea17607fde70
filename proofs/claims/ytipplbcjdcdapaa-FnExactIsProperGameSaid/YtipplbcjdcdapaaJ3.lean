/- Contracts of the program's CountWins, and of the rules of proper and strong ones. -/
import Derived.Test.YtipplbcjdcdapaaJ2
import Derived.Test.YtipplbcjdcdapaaB1
import Derived.Deep.RegionWith
import Derived.Outline
namespace Go.Proofs.Ytipplbcjdcdapaa
open Go.RowKit Vo

def cntG (m : Int) (L : List (List Int)) : Int := if goodG m L then (cnt (winS (setsN L)) (2^m.toNat) : Nat) else 0
theorem cntG_yes {q : Nat} {L : List (List Int)} (h : goodG (q : Int) L = true) : cntG (q : Int) L = (cnt (winS (setsN L)) (2^q) : Nat) := by unfold cntG; rw [if_pos h, Int.toNat_natCast]
theorem cntG_no {m : Int} {L : List (List Int)} (h : goodG m L = false) : cntG m L = 0 := if_neg (by rw [h]; simp)

set_option maxRecDepth 20000 in
set_option maxHeartbeats 2000000 in
theorem iCountWins_any (m : Int) (A : Option Addr) (n cap : Nat) (L : List (List Int)) (w : World) (hl : n ≤ 1048576) (hk : Lists w A n L) :
    Calls Try.prog 33 #[.agg #[.int .i64 m, .slice A n cap]] w fun e w' => e = .returned (.tuple #[.int .i64 (cntG m L), .bool (goodG m L)]) ∧ Below w.heap.size w w' := by
  have HK := Lib.hid (hk.now (below1 w (.cells #[.int .i64 m, .slice A n cap] 28)))
  have HLEN := Lib.hid hk.1
  clear hk
  have hx := BoxT.new 28 w (.int .i64 m) (.slice A n cap)
  have hb0 := below1 w (.cells #[.int .i64 m, .slice A n cap] 28)
  obtain ⟨c0, c1⟩ := hx.cells
  go_enter Try.func33, Try.ntmps33
  go_wp2_with fail
  refine (readGame_any m A n cap L _ hl HK.out).mono ?_
  rintro e w1 ⟨hb1, h⟩
  have g1 := bfrom hb0 hb1
  rcases h with ⟨hg, B, cp, rfl, hown⟩ | ⟨hg, rfl⟩
  · obtain ⟨h1, h9, _, hr, _⟩ := goodG_parts hg
    obtain ⟨q, rfl⟩ : ∃ q : Nat, m = q := ⟨m.toNat, by omega⟩
    rw [Int.toNat_natCast] at hr
    have hq9 : q ≤ 9 := by omega
    have hq10 : q < 10 := by omega
    have h512 := pow_lt hq9
    rw [HLEN.out] at hown ⊢
    have HGB := Lib.hid hg
    have HCN := Lib.hid (cntG_yes hg)
    have HSN := Lib.hid (show n = (setsN L).length from by rw [← HLEN.out]; simp [setsN])
    have b2 := below1 w1 (.cells #[.int .i64 q, .slice B n cp] 71)
    have hy := BoxT.new 71 w1 (.int .i64 q) (.slice B n cp)
    obtain ⟨d0, d1⟩ := hy.cells
    have HA := Lib.hid (gWins_asks (setsN L) q _ n cp q B _ hq9 HSN.out hl (setsN_512 hq9 hr) (owns_now hown b2))
    have hcl := cnt_le (winS (setsN L)) (2^q)
    obtain ⟨P, hP⟩ : ∃ P, P = winS (setsN L) := ⟨_, rfl⟩
    rw [← hP] at HA HCN hcl
    clear hown hg hr hP
    have HCC := Lib.hid (countSets_any P _ _ _ q _ hq10 HA.out)
    obtain ⟨c, hc⟩ : ∃ c, c = cnt P (2^q) := ⟨_, rfl⟩
    rw [← hc] at HCC HCN hcl
    clear hc
    go_wp2_with fail
    refine HCC.out.mono ?_
    rintro e w3 ⟨rfl, hb3⟩
    have g3 := bfrom (bfrom g1 b2) hb3
    go_wp2
    go_ret2
    exact ⟨by rw [HCN.out, HGB.out]; rfl, g3⟩
  · have HGB := Lib.hid hg
    have HCN := Lib.hid (cntG_no hg)
    clear hg
    go_wp2
    go_ret2
    exact ⟨by rw [HCN.out, HGB.out]; rfl, g1.alloc g1.size _⟩

/-- Proper and strong, told of the sets. -/
def properS (p : Nat → Bool) (n s : Nat) : Bool := !p s || !p (co n s)
def strongS (p : Nat → Bool) (n s : Nat) : Bool := p s || p (co n s)

set_option maxRecDepth 20000 in
set_option maxHeartbeats 2000000 in
theorem properRule1_any (p : Nat → Bool) (k : Nat) (first cap : Array Value) (n g h s : Nat) (w : World) (hn : n < 10) (hs : s < 2^n) (ha : Asks p k first cap n w)
    (hg : Box1 85 w g (.func (.func k) first cap)) (hh : Box1 3 w h (.int .i64 n)) :
    Calls Try.prog 140 #[.int .u64 s, .pointer (some ⟨g, 0, none⟩), .pointer (some ⟨h, 0, none⟩)] w fun e w' => e = .returned (.bool (properS p n s)) ∧ Below w.heap.size w w' := by
  have HA := Lib.hid ha
  have eg := ha.enters
  have HE := Lib.hid (and_not n s hn hs)
  have HCL := Lib.hid (co_lt hs)
  have h512 : s < 512 := by have := pow_lt (n := n) (by omega); omega
  have h5co : co n s < 512 := by have := pow_lt (n := n) (by omega); have := HCL.out; omega
  have HSL := Lib.hid hs
  have HP := Lib.hid (show properS p n s = (!p s || !p (co n s)) from rfl)
  have K := Lib.hid (show ∀ W, Below w.heap.size w W → W.cell? ⟨g, 0, none⟩ = some (.func (.func k) first cap) ∧ W.cell? ⟨h, 0, none⟩ = some (.int .i64 n) from fun W hb => ⟨(hg.now hb).cell, (hh.now hb).cell⟩)
  have hlg := hg.lt
  have hlh := hh.lt
  obtain ⟨c0, c1⟩ := K.out _ (Below.refl _ _)
  clear ha hs hg hh
  cases hp : p s with
  | false =>
    rw [hp] at HP
    have HPS := Lib.hid hp
    clear hp
    go_enter Try.func140, Try.ntmps140
    go_wp2_with fail
    first
      | (go_region_with (first
          | (go_at_fn k; refine (HA.out.gives _ s HSL.out (Below.refl _ _).drew).mono ?_; rintro e wA ⟨rfl, hbA⟩; rw [HPS.out]; have gA := bfrom (Below.refl _ w).drew hbA; obtain ⟨a0, a1⟩ := K.out _ gA)))
      | fail
    all_goals
      go_wp2
      go_ret
      exact ⟨by rw [HP.out]; rfl, gA⟩
  | true =>
    rw [hp] at HP
    have HPS := Lib.hid hp
    clear hp
    cases hp2 : p (co n s)
    all_goals
      rw [hp2] at HP
      have HPC := Lib.hid hp2
      clear hp2
      go_enter Try.func140, Try.ntmps140
      go_wp2_with fail
      go_region_held3 (fun w' => w'.cell? ⟨g, 0, none⟩ = some (.func (.func k) first cap) ∧ w'.cell? ⟨h, 0, none⟩ = some (.int .i64 n))
        (first | exact ⟨c0, c1⟩ | exact ⟨b0, b1⟩ | exact ⟨a0, a1⟩ | go_keep)
        (first
          | (go_at_call 115; refine (allMembers_any n _ hn).mono ?_; rintro e w' ⟨rfl, rfl⟩)
          | (go_at_fn k; (with_reducible refine (HA.out.gives _ s HSL.out ?_).mono ?_); (first | exact (Below.refl _ _).drew | exact gA); rintro e wA ⟨rfl, hbA⟩; rw [HPS.out]; have gA := bfrom (Below.refl _ w).drew hbA; obtain ⟨a0, a1⟩ := K.out _ gA)
          | (rw [HE.out]; go_at_fn k; (with_reducible refine (HA.out.gives _ (co n s) HCL.out ?_).mono ?_); (first | exact gA | exact (Below.refl _ _).drew); rintro e wB ⟨rfl, hbB⟩; rw [HPC.out]; have gB := bfrom gA hbB; obtain ⟨b0, b1⟩ := K.out _ gB))
      go_wp2
      go_ret
      exact ⟨by rw [HP.out]; rfl, gB⟩

set_option maxRecDepth 20000 in
set_option maxHeartbeats 2000000 in
theorem strongRule1_any (p : Nat → Bool) (k : Nat) (first cap : Array Value) (n g h s : Nat) (w : World) (hn : n < 10) (hs : s < 2^n) (ha : Asks p k first cap n w)
    (hg : Box1 85 w g (.func (.func k) first cap)) (hh : Box1 3 w h (.int .i64 n)) :
    Calls Try.prog 142 #[.int .u64 s, .pointer (some ⟨g, 0, none⟩), .pointer (some ⟨h, 0, none⟩)] w fun e w' => e = .returned (.bool (strongS p n s)) ∧ Below w.heap.size w w' := by
  have HA := Lib.hid ha
  have eg := ha.enters
  have HE := Lib.hid (and_not n s hn hs)
  have HCL := Lib.hid (co_lt hs)
  have h512 : s < 512 := by have := pow_lt (n := n) (by omega); omega
  have h5co : co n s < 512 := by have := pow_lt (n := n) (by omega); have := HCL.out; omega
  have HSL := Lib.hid hs
  have HP := Lib.hid (show strongS p n s = (p s || p (co n s)) from rfl)
  have K := Lib.hid (show ∀ W, Below w.heap.size w W → W.cell? ⟨g, 0, none⟩ = some (.func (.func k) first cap) ∧ W.cell? ⟨h, 0, none⟩ = some (.int .i64 n) from fun W hb => ⟨(hg.now hb).cell, (hh.now hb).cell⟩)
  have hlg := hg.lt
  have hlh := hh.lt
  obtain ⟨c0, c1⟩ := K.out _ (Below.refl _ _)
  clear ha hs hg hh
  cases hp : p s with
  | true =>
    rw [hp] at HP
    have HPS := Lib.hid hp
    clear hp
    go_enter Try.func142, Try.ntmps142
    go_wp2_with fail
    first
      | (go_region_with (first
          | (go_at_fn k; refine (HA.out.gives _ s HSL.out (Below.refl _ _).drew).mono ?_; rintro e wA ⟨rfl, hbA⟩; rw [HPS.out]; have gA := bfrom (Below.refl _ w).drew hbA; obtain ⟨a0, a1⟩ := K.out _ gA)))
      | fail
    all_goals
      go_wp2
      go_ret
      exact ⟨by rw [HP.out]; rfl, gA⟩
  | false =>
    rw [hp] at HP
    have HPS := Lib.hid hp
    clear hp
    cases hp2 : p (co n s)
    all_goals
      rw [hp2] at HP
      have HPC := Lib.hid hp2
      clear hp2
      go_enter Try.func142, Try.ntmps142
      go_wp2_with fail
      go_region_held3 (fun w' => w'.cell? ⟨g, 0, none⟩ = some (.func (.func k) first cap) ∧ w'.cell? ⟨h, 0, none⟩ = some (.int .i64 n))
        (first | exact ⟨c0, c1⟩ | exact ⟨b0, b1⟩ | exact ⟨a0, a1⟩ | go_keep)
        (first
          | (go_at_call 115; refine (allMembers_any n _ hn).mono ?_; rintro e w' ⟨rfl, rfl⟩)
          | (go_at_fn k; (with_reducible refine (HA.out.gives _ s HSL.out ?_).mono ?_); (first | exact (Below.refl _ _).drew | exact gA); rintro e wA ⟨rfl, hbA⟩; rw [HPS.out]; have gA := bfrom (Below.refl _ w).drew hbA; obtain ⟨a0, a1⟩ := K.out _ gA)
          | (rw [HE.out]; go_at_fn k; (with_reducible refine (HA.out.gives _ (co n s) HCL.out ?_).mono ?_); (first | exact gA | exact (Below.refl _ _).drew); rintro e wB ⟨rfl, hbB⟩; rw [HPC.out]; have gB := bfrom gA hbB; obtain ⟨b0, b1⟩ := K.out _ gB))
      go_wp2
      go_ret
      exact ⟨by rw [HP.out]; rfl, gB⟩
end Go.Proofs.Ytipplbcjdcdapaa
