/- Desire: who is worth whom; the program's question to a set. -/
import Derived.Test.YtgilbenbaefgfaaGreatDz
import Derived.Deep.RegionHeld3
import Derived.Deep.RegionWith
import Derived.Outline
import Derived.BigQuiet
namespace Go.Proofs.YtgilbenbaefgfaaGreat
open Go.RowKit Vo

/-- A set without both: does it win with i if it wins with j? -/
def worthS (p : Nat → Bool) (i j s : Nat) : Bool := s.testBit i || (s.testBit j || (!p (s ||| 2^j) || p (s ||| 2^i)))
def worthP (p : Nat → Bool) (n i j : Nat) : Bool := allK (worthS p i j) (2^n)

set_option maxRecDepth 20000 in
set_option maxHeartbeats 8000000 in
theorem isWorth1_any (S : List Nat) (m : Int) (n i j s base k cap gi gj gg : Nat) (A : Option Addr) (w : World) (hn : n ≤ 9) (hi : i < n) (hj : j < n) (hs : s < 2^n) (hk : k = S.length) (hkm : k ≤ 1048576) (hS : ∀ t ∈ S, t < 512) (h1 : w.ownsRow base 68 1 (.slice A k cap) k (setsV S))
    (hgi : Box1 3 w gi (.int .i64 i)) (hgj : Box1 3 w gj (.int .i64 j)) (hgg : BoxT 55 w gg (.int .i64 m) (.slice A k cap)) :
    Calls Tryz.prog 90 #[.int .u64 s, .pointer (some ⟨gi, 0, none⟩), .pointer (some ⟨gj, 0, none⟩), .pointer (some ⟨gg, 0, none⟩)] w fun e w' => e = .returned (.bool (worthS (winS S) i j s)) ∧ Below w.heap.size w w' := by
  have h512 := pow_lt hn
  have hs5 : s < 512 := by omega
  have hi2 := or_pow_lt hs hi
  have hj2 := or_pow_lt hs hj
  obtain ⟨lp, hlp⟩ : ∃ lp, lp = !winS S (s ||| 2^j) := ⟨_, rfl⟩
  have HP := Lib.hid (show worthS (winS S) i j s = (s.testBit i || (s.testBit j || (lp || winS S (s ||| 2^i)))) from by rw [hlp]; rfl)
  have HL := Lib.hid (fun W hb => gLoses_any S m (s ||| 2^j) base k cap A W hk hkm hS (by omega) (owns_now h1 hb))
  rw [← hlp] at HL
  clear hlp
  have HW := Lib.hid (fun W hb => gWins_any S m (s ||| 2^i) base k cap A W hk hkm hS (by omega) (owns_now h1 hb))
  have HI := Lib.hid (fun W => has_any s i W (by omega) hs5)
  have HJ := Lib.hid (fun W => has_any s j W (by omega) hs5)
  have HTI := Lib.hid (fun W => with_any s i W (by omega) hs5)
  have HTJ := Lib.hid (fun W => with_any s j W (by omega) hs5)
  have K := Lib.hid (show ∀ W, Below w.heap.size w W → W.cell? ⟨gi, 0, none⟩ = some (.int .i64 i) ∧ W.cell? ⟨gj, 0, none⟩ = some (.int .i64 j) ∧ W.cell? ⟨gg, 0, none⟩ = some (.int .i64 m) ∧ W.cell? ⟨gg, 1, none⟩ = some (.slice A k cap) from fun W hb => ⟨(hgi.now hb).cell, (hgj.now hb).cell, (hgg.now hb).cells.1, (hgg.now hb).cells.2⟩)
  obtain ⟨c0, c1, c2, c3⟩ := K.out _ (Below.refl _ _)
  clear h1 hgi hgj hgg hk hS hi2 hj2 hs
  generalize s ||| 2^i = si at *
  generalize s ||| 2^j = sj at *
  obtain ⟨bi, hbi⟩ : ∃ b, b = s.testBit i := ⟨_, rfl⟩
  obtain ⟨bj, hbj⟩ : ∃ b, b = s.testBit j := ⟨_, rfl⟩
  simp only [← hbi] at HI HP
  simp only [← hbj] at HJ HP
  generalize winS S si = pi at *
  clear hbi hbj
  cases bi
  · cases bj
    · cases lp
      · go_enter Tryz.func90, Tryz.ntmps90
        go_wp2_with fail
        first
          | (go_region_held3 (fun w' => w'.cell? ⟨gi, 0, none⟩ = some (.int .i64 i) ∧ w'.cell? ⟨gj, 0, none⟩ = some (.int .i64 j) ∧ w'.cell? ⟨gg, 0, none⟩ = some (.int .i64 m) ∧ w'.cell? ⟨gg, 1, none⟩ = some (.slice A k cap))
              (first | exact ⟨c0, c1, c2, c3⟩ | exact k2 | exact k3 | go_keep)
              (first
                | (go_at_call 79; refine (HI.out _).mono ?_; rintro e w1 ⟨rfl, rfl⟩)
                | (go_at_call 79; refine (HJ.out _).mono ?_; rintro e w1 ⟨rfl, rfl⟩)
                | (go_at_call 68; refine (HTJ.out _).mono ?_; rintro e w1 ⟨rfl, rfl⟩)
                | (go_at_call 43; refine (HL.out _ (Below.refl _ _).drew).mono ?_; rintro e w2 ⟨rfl, hb2⟩; have b2 := bfrom (Below.refl _ w).drew hb2; have k2 := K.out _ b2)
                | (go_at_call 68; refine (HTI.out _).mono ?_; rintro e w1 ⟨rfl, rfl⟩)
                | (go_at_call 41; refine (HW.out _ b2).mono ?_; rintro e w3 ⟨rfl, hb3⟩; have b3 := bfrom b2 hb3; have k3 := K.out _ b3)))
          | fail
        all_goals
          go_wp2
          go_ret
          first
            | exact ⟨by rw [HP.out]; rfl, (Below.refl _ _).drew⟩
            | exact ⟨by rw [HP.out]; rfl, b2⟩
            | exact ⟨by rw [HP.out]; rfl, b3⟩
            | exact ⟨by rw [HP.out]; simp, b3⟩
      · go_enter Tryz.func90, Tryz.ntmps90
        go_wp2_with fail
        first
          | (go_region_with (first
              | (go_at_call 79; refine (HI.out _).mono ?_; rintro e w1 ⟨rfl, rfl⟩)
              | (go_at_call 79; refine (HJ.out _).mono ?_; rintro e w1 ⟨rfl, rfl⟩)
              | (go_at_call 68; refine (HTJ.out _).mono ?_; rintro e w1 ⟨rfl, rfl⟩)
              | (go_at_call 43; refine (HL.out _ (Below.refl _ _).drew).mono ?_; rintro e w2 ⟨rfl, hb2⟩; have b2 := bfrom (Below.refl _ w).drew hb2)))
          | fail
        all_goals
          go_wp2
          go_ret
          first
            | exact ⟨by rw [HP.out]; rfl, (Below.refl _ _).drew⟩
            | exact ⟨by rw [HP.out]; rfl, b2⟩
            | exact ⟨by rw [HP.out]; rfl, b3⟩
            | exact ⟨by rw [HP.out]; simp, b3⟩
    · go_enter Tryz.func90, Tryz.ntmps90
      go_wp2_with fail
      go_quiet (first
        | (go_at_call 79; exact Calls.quiet_of_same ((HI.out _).mono fun _ _ h => ⟨h.1, h.2.symm⟩))
        | (go_at_call 79; exact Calls.quiet_of_same ((HJ.out _).mono fun _ _ h => ⟨h.1, h.2.symm⟩)))
      go_wp2
      go_ret
      exact ⟨by rw [HP.out]; rfl, below_drewN (Below.refl _ _) _⟩
  · go_enter Tryz.func90, Tryz.ntmps90
    go_wp2_with fail
    go_quiet (first
      | (go_at_call 79; exact Calls.quiet_of_same ((HI.out _).mono fun _ _ h => ⟨h.1, h.2.symm⟩))
      | (go_at_call 79; exact Calls.quiet_of_same ((HJ.out _).mono fun _ _ h => ⟨h.1, h.2.symm⟩)))
    go_wp2
    go_ret
    exact ⟨by rw [HP.out]; rfl, below_drewN (Below.refl _ _) _⟩
end Go.Proofs.YtgilbenbaefgfaaGreat
