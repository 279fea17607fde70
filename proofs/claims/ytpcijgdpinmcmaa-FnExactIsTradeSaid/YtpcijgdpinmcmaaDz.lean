/- A game and a member read; the program's loses, readGameUpTo. -/
import Derived.Test.YtpcijgdpinmcmaaJ2
import Derived.Outline
namespace Go.Proofs.Ytpcijgdpinmcmaa
open Go.RowKit Vo

theorem inside (n : Nat) (x : Int) : inB x 0 ((n : Int) - 1) = true ↔ 0 ≤ x ∧ x < n := by
  unfold inB; simp; omega

/-- A game and a member read. -/
def memG (m : Int) (L : List (List Int)) (x : Int) : Bool := goodG m L && inB x 0 (m - 1)
theorem memG_good {m : Int} {L : List (List Int)} {x : Int} (h : goodG m L = true) : memG m L x = inB x 0 (m - 1) := by unfold memG; rw [h]; rfl
theorem memG_bad {m : Int} {L : List (List Int)} {x : Int} (h : goodG m L = false) : memG m L x = false := by unfold memG; rw [h]; rfl
theorem memG_parts {m : Int} {L : List (List Int)} {x : Int} (h : memG m L x = true) : goodG m L = true ∧ ∃ q k : Nat, m = (q + 1 : Nat) ∧ x = k ∧ k < q + 1 ∧ q + 1 ≤ 9 := by
  unfold memG at h
  simp only [Bool.and_eq_true] at h
  obtain ⟨hg, hi⟩ := h
  obtain ⟨h1, h9, _, _, _⟩ := goodG_parts hg
  have h2 : 0 ≤ x ∧ x ≤ m - 1 := by
    by_cases h : 0 ≤ x ∧ x ≤ m - 1
    · exact h
    · rw [inB_no h] at hi; cases hi
  exact ⟨hg, (m - 1).toNat, x.toNat, by omega, by omega, by omega, by omega⟩
def ReadM (m : Int) (L : List (List Int)) (x : Int) (w w' : World) (e : Ending) : Prop :=
  Below w.heap.size w w' ∧ ((memG m L x = true ∧ ∃ B cp, e = .returned (.tuple #[.agg #[.int .i64 m, .slice B L.length cp], .bool true]) ∧ w'.ownsRow w.heap.size 94 1 (.slice B L.length cp) L.length (setsV (setsN L))) ∨ (memG m L x = false ∧ e = .returned (.tuple #[.agg #[.int .i64 0, .slice none 0 0], .bool false])))

theorem isMember_z (m : Nat) (x : Int) (w : World) : Calls Try.prog 85 #[.int .i64 m, .int .i64 x] w fun e w' => e = .returned (.bool (inB x 0 ((m : Int) - 1))) ∧ w = w' := by
  by_cases h1 : 0 ≤ x
  · by_cases h2 : x < m
    · have H := Lib.hid (inB_yes (lo := 0) (hi := (m : Int) - 1) h1 (by omega))
      go_enter Try.func85, Try.ntmps85
      go_wp2
      go_ret
      exact ⟨by rw [H.out]; rfl, rfl⟩
    · have H := Lib.hid (inB_no (x := x) (lo := 0) (hi := (m : Int) - 1) (by omega))
      have h3 : (m : Int) ≤ x := by omega
      go_enter Try.func85, Try.ntmps85
      go_wp2
      go_ret
      exact ⟨by rw [H.out]; simp, rfl⟩
  · have H := Lib.hid (inB_no (x := x) (lo := 0) (hi := (m : Int) - 1) (by omega))
    have h3 : x < 0 := by omega
    go_enter Try.func85, Try.ntmps85
    go_wp2
    go_ret
    exact ⟨by rw [H.out]; rfl, rfl⟩

end Go.Proofs.Ytpcijgdpinmcmaa

namespace Go.Proofs.Ytpcijgdpinmcmaa
open Go.RowKit Vo


set_option maxHeartbeats 1000000 in
theorem gLoses_any (S : List Nat) (m : Int) (s base k cap : Nat) (A : Option Addr) (w : World) (hk : k = S.length) (hs : k ≤ 1048576) (hS : ∀ t ∈ S, t < 512) (h5 : s < 512) (h1 : w.ownsRow base 94 1 (.slice A k cap) k (setsV S)) :
    Calls Try.prog 80 #[.agg #[.int .i64 m, .slice A k cap], .int .u64 s] w fun e w' => e = .returned (.bool (!winS S s)) ∧ Below w.heap.size w w' := by
  have hx := BoxT.new 81 w (.int .i64 m) (.slice A k cap)
  have hb0 := below1 w (.cells #[.int .i64 m, .slice A k cap] 81)
  have HI := Lib.hid (gWins_any S m s base k cap A _ hk hs hS h5 (owns_now h1 hb0))
  obtain ⟨c0, c1⟩ := hx.cells
  clear h1 hk hS
  generalize winS S s = r at *
  go_enter Try.func80, Try.ntmps80
  go_wp2_with fail
  refine HI.out.mono ?_
  rintro e w1 ⟨rfl, hb1⟩
  go_wp2
  go_ret
  exact ⟨rfl, bfrom hb0 hb1⟩
theorem gLoses_asks (S : List Nat) (m : Int) (base k cap n : Nat) (A : Option Addr) (w : World) (hn : n ≤ 9) (hk : k = S.length) (hs : k ≤ 1048576) (hS : ∀ t ∈ S, t < 512) (h1 : w.ownsRow base 94 1 (.slice A k cap) k (setsV S)) :
    Asks (fun s => !winS S s) 80 #[.agg #[.int .i64 m, .slice A k cap]] #[] n w :=
  ⟨enters_of Try.func80 (by kernel_rfl) rfl, fun W s h hb => gLoses_any S m s base k cap A W hk hs hS (by have := pow_lt hn; omega) (owns_now h1 hb)⟩
end Go.Proofs.Ytpcijgdpinmcmaa
