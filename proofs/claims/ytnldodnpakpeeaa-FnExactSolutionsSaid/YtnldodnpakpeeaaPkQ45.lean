/- Texts of Dz, Dt. -/
import Derived.Test.YtnldodnpakpeeaaPkQ27
import Derived.Outline
import Derived.Test.YtnldodnpakpeeaaPkQ21
import Derived.Deep.RegionWith
namespace Go.Proofs.Ytnldodnpakpeeaa
open Go.RowKit Vo

theorem inside (n : Nat) (x : Int) : inB x 0 ((n : Int) - 1) = true ↔ 0 ≤ x ∧ x < n := by
  unfold inB; simp; omega

/-- A game and a member read. -/
def memG (m : Int) (L : List (List Int)) (x : Int) : Bool := goodG m L && inB x 0 (m - 1)
theorem memG_good {m : Int} {L : List (List Int)} {x : Int} (h : goodG m L = true) : memG m L x = inB x 0 (m - 1) := by unfold memG; rw [h]; rfl
theorem memG_bad {m : Int} {L : List (List Int)} {x : Int} (h : goodG m L = false) : memG m L x = false := by unfold memG; rw [h]; rfl
theorem memG_parts {m : Int} {L : List (List Int)} {x : Int} (h : memG m L x = true) : goodG m L = true ∧ ∃ q k : Nat, m = (q + 1 : Nat) ∧ x = k ∧ k < q + 1 ∧ q + 1 ≤ 9 := by
  unfold memG at h
  simp only [Bool.and_eq_true] at h
  obtain ⟨hg, hi⟩ := h
  obtain ⟨h1, h9, _, _, _⟩ := goodG_parts hg
  have h2 : 0 ≤ x ∧ x ≤ m - 1 := by
    by_cases h : 0 ≤ x ∧ x ≤ m - 1
    · exact h
    · rw [inB_no h] at hi; cases hi
  exact ⟨hg, (m - 1).toNat, x.toNat, by omega, by omega, by omega, by omega⟩
def ReadM (m : Int) (L : List (List Int)) (x : Int) (w w' : World) (e : Ending) : Prop :=
  Below w.heap.size w w' ∧ ((memG m L x = true ∧ ∃ B cp, e = .returned (.tuple #[.agg #[.int .i64 m, .slice B L.length cp], .bool true]) ∧ w'.ownsRow w.heap.size 107 1 (.slice B L.length cp) L.length (setsV (setsN L))) ∨ (memG m L x = false ∧ e = .returned (.tuple #[.agg #[.int .i64 0, .slice none 0 0], .bool false])))

theorem isMember_z (m : Nat) (x : Int) (w : World) : Calls Try.prog 178 #[.int .i64 m, .int .i64 x] w fun e w' => e = .returned (.bool (inB x 0 ((m : Int) - 1))) ∧ w = w' := by
  by_cases h1 : 0 ≤ x
  · by_cases h2 : x < m
    · have H := Lib.hid (inB_yes (lo := 0) (hi := (m : Int) - 1) h1 (by omega))
      go_enter Try.func178, Try.ntmps178
      go_wp2
      go_ret
      exact ⟨by rw [H.out]; rfl, rfl⟩
    · have H := Lib.hid (inB_no (x := x) (lo := 0) (hi := (m : Int) - 1) (by omega))
      have h3 : (m : Int) ≤ x := by omega
      go_enter Try.func178, Try.ntmps178
      go_wp2
      go_ret
      exact ⟨by rw [H.out]; simp, rfl⟩
  · have H := Lib.hid (inB_no (x := x) (lo := 0) (hi := (m : Int) - 1) (by omega))
    have h3 : x < 0 := by omega
    go_enter Try.func178, Try.ntmps178
    go_wp2
    go_ret
    exact ⟨by rw [H.out]; rfl, rfl⟩

end Go.Proofs.Ytnldodnpakpeeaa

namespace Go.Proofs.Ytnldodnpakpeeaa
open Go.RowKit Vo


end Go.Proofs.Ytnldodnpakpeeaa

namespace Go.Proofs.Ytnldodnpakpeeaa
open Go.RowKit Vo

/-- No set comes before the one ahead of it. -/
def sortS (S : List Nat) : Bool := (List.range (S.length - 1)).all fun j => !before (mem (S.getD (j+1) 0) 9) (mem (S.getD j 0) 9)
theorem sortS_iff {S : List Nat} : sortS S = true ↔ ∀ j, j + 1 < S.length → before (mem (S.getD (j+1) 0) 9) (mem (S.getD j 0) 9) = false := by
  unfold sortS
  rw [List.all_eq_true]
  constructor
  · intro h j hj
    have := h j (List.mem_range.2 (by omega))
    simpa using this
  · intro h j hj
    have := h j (by have := List.mem_range.1 hj; omega)
    simp only [this, Bool.not_false]
theorem sortS_no {S : List Nat} {j : Nat} (hj : j + 1 < S.length) (h : before (mem (S.getD (j+1) 0) 9) (mem (S.getD j 0) 9) = true) : sortS S = false := by
  cases hs : sortS S with
  | false => rfl
  | true => rw [sortS_iff.1 hs j hj] at h; cases h

theorem compareSets_enters : ∀ args W, (callFunc 77 args).run Try.prog W = .ok (.enter 77 args) W := enters_of Try.func77 (by kernel_rfl) rfl
theorem setCells {w : World} {base k cap : Nat} {A : Option Addr} {S : List Nat} (hk : k = S.length) (hS : ∀ t ∈ S, t < 512) (h1 : w.ownsRow base 107 1 (.slice A k cap) k (setsV S)) :
    ∀ j, j < k → ∃ g, A = some ⟨g, 0, none⟩ ∧ w.cell? ⟨g, j, none⟩ = some (.int .u64 (S.getD j 0 : Nat)) ∧ S.getD j 0 < 512 := fun j h => by
  obtain ⟨g, cap', hv, hg, _, _⟩ := owns_head h1 (by omega)
  obtain ⟨rfl, rfl⟩ : A = some ⟨g, 0, none⟩ ∧ cap = cap' := by simpa using hv
  have ho : Own w g 107 k (fun i => .int .u64 (S.getD i 0 : Nat)) := Own.of_own h1 (fun i hi => by
    have : i < S.length := by omega
    simp [setsV, List.getD_eq_getElem?_getD, this])
  exact ⟨g, rfl, ho.cell h, hS _ (getD_mem (by omega))⟩

set_option maxRecDepth 20000 in
set_option maxHeartbeats 2000000 in
theorem indexA_any (p : Nat → Bool) (f : Nat) (first cap2 : Array Value) (S : List Nat) (base k cap : Nat) (A : Option Addr) (w : World) (hk : k = S.length) (hs : k ≤ 1048576) (hS : ∀ t ∈ S, t < 512) (h1 : w.ownsRow base 107 1 (.slice A k cap) k (setsV S)) (ha : Asks p f first cap2 9 w) :
    Calls Try.prog 156 #[.slice A k cap, .func (.func f) first cap2] w fun e w' => ((∃ j : Nat, e = .returned (.int .i64 j) ∧ S.any p = true) ∨ (e = .returned (.int .i64 (-1)) ∧ S.any p = false)) ∧ Below w.heap.size w w' := by
  have HC1 := Lib.hid (fun W (hb : Below w.heap.size w W) => setCells hk hS (owns_now h1 hb))
  have HG := Lib.hid (fun W s (h : s < 512) hb => ha.gives W s h hb)
  have HY := Lib.hid (show ∀ j, j < k → p (S.getD j 0) = true → S.any p = true from fun j hj h => List.any_eq_true.2 ⟨_, getD_mem (by omega), h⟩)
  have HN := Lib.hid (show (∀ j, j < k → p (S.getD j 0) = false) → S.any p = false from fun h => by
    rw [List.any_eq_false]
    intro x hx
    obtain ⟨i, hi, rfl⟩ := List.getElem_of_mem hx
    have := h i (by omega)
    rw [List.getD_eq_getElem?_getD, List.getElem?_eq_getElem hi] at this
    simpa using this)
  have eg := ha.enters
  clear h1 hk hS ha
  go_enter Try.func156, Try.ntmps156
  go_wp2_with fail
  go_loopw [5, 8] (fun _ i wr => ∃ j : Nat, j ≤ k ∧ i = .int .i64 j ∧ (∀ t, t < j → p (S.getD t 0) = false) ∧ Below w.heap.size w wr) (fun _ i _ => k - (intOf i).toNat)
  case atStart => exact ⟨0, Nat.zero_le _, rfl, fun _ h => by omega, Below.refl _ _⟩
  case round =>
    obtain ⟨j, hj, rfl, hno, hb⟩ := hrel
    have HS := Lib.hid hno
    clear hno
    by_cases hlt : j < k
    · obtain ⟨g, rfl, hcell, ht5⟩ := HC1.out wr hb j hlt
      have HYJ := Lib.hid (HY.out j hlt)
      have HSJ := Lib.hid (show p (S.getD j 0) = false → ∀ t, t < j + 1 → p (S.getD t 0) = false from fun h t ht => by
        by_cases e : t = j
        · subst e; exact h
        · exact HS.out t (by omega))
      generalize S.getD j 0 = t at *
      have HGT := Lib.hid (HG.out wr t ht5 hb)
      cases hp : p t with
      | true =>
        have HW := Lib.hid (HYJ.out hp)
        rw [hp] at HGT
        clear hp
        go_wp2_with (go_at_fn f; refine HGT.out.mono ?_; rintro e w' ⟨rfl, hb'⟩)
        go_ret
        exact ⟨Or.inl ⟨j, rfl, HW.out⟩, bfrom hb hb'⟩
      | false =>
        have HW := Lib.hid (HSJ.out hp)
        rw [hp] at HGT
        clear hp
        go_wp2_with (go_at_fn f; refine HGT.out.mono ?_; rintro e w' ⟨rfl, hb'⟩)
        go_roundw
        case rel => exact ⟨j + 1, by omega, by go_num, HW.out, bfrom hb hb'⟩
        case measure => simp [intOf]; omega
    · obtain rfl : j = k := by omega
      have HW := Lib.hid (HN.out HS.out)
      go_wp2
      go_ret
      exact ⟨Or.inr ⟨rfl, HW.out⟩, hb⟩

set_option maxHeartbeats 1000000 in
theorem containsA_any (p : Nat → Bool) (f : Nat) (first cap2 : Array Value) (S : List Nat) (base k cap : Nat) (A : Option Addr) (w : World) (hk : k = S.length) (hs : k ≤ 1048576) (hS : ∀ t ∈ S, t < 512) (h1 : w.ownsRow base 107 1 (.slice A k cap) k (setsV S)) (ha : Asks p f first cap2 9 w) :
    Calls Try.prog 110 #[.slice A k cap, .func (.func f) first cap2] w fun e w' => e = .returned (.bool (S.any p)) ∧ Below w.heap.size w w' := by
  have HI := Lib.hid (indexA_any p f first cap2 S base k cap A w hk hs hS h1 ha)
  clear h1 hk hS ha
  go_enter Try.func110, Try.ntmps110
  go_wp2_with fail
  refine HI.out.mono ?_
  rintro e w1 ⟨h, hb⟩
  rcases h with ⟨j, rfl, hw⟩ | ⟨rfl, hw⟩
  · have HW := Lib.hid hw
    clear hw
    have h0 : (0 : Int) ≤ (j : Int) := by omega
    go_wp2
    go_ret
    exact ⟨by rw [HW.out]; first | rfl | simp, hb⟩
  · have HW := Lib.hid hw
    clear hw
    go_wp2
    go_ret
    exact ⟨by rw [HW.out]; rfl, hb⟩
end Go.Proofs.Ytnldodnpakpeeaa
