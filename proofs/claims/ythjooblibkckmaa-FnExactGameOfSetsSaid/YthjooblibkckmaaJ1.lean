/- Which sets win in a game: the program's wins, and its asking of all sets. -/
import Derived.Test.YthjooblibkckmaaI4
import Derived.Test.YthjooblibkckmaaW4
import Derived.Outline
namespace Go.Proofs.Ythjooblibkckmaa
open Go.RowKit Vo

/-- Does a set have all members of one of these? -/
def winS (S : List Nat) (s : Nat) : Bool := S.any fun t => partB s t
theorem winS_yes {S : List Nat} {s j : Nat} (hj : j < S.length) (h : partB s (S.getD j 0) = true) : winS S s = true := List.any_eq_true.2 ⟨_, getD_mem hj, h⟩
theorem winS_no {S : List Nat} {s : Nat} (h : ∀ j, j < S.length → partB s (S.getD j 0) = false) : winS S s = false := by
  cases hw : winS S s
  · rfl
  · obtain ⟨t, ht, h2⟩ := List.any_eq_true.1 hw
    obtain ⟨j, hj, rfl⟩ := List.mem_iff_getElem.1 ht
    have := h j hj
    rw [List.getD_eq_getElem?_getD, List.getElem?_eq_getElem hj] at this
    simp only [Option.getD_some] at this
    rw [this] at h2; cases h2

theorem hasAll_enters : ∀ args W, (callFunc 109 args).run Try.prog W = .ok (.enter 109 args) W := enters_of Try.func109 (by kernel_rfl) rfl

set_option maxRecDepth 20000 in
set_option maxHeartbeats 1000000 in
theorem indexFunc_any (S : List Nat) (s base k cap : Nat) (A : Option Addr) (w : World) (hk : k = S.length) (hs : k ≤ 1048576) (hS : ∀ t ∈ S, t < 512) (h5 : s < 512) (h1 : w.ownsRow base 78 1 (.slice A k cap) k (setsV S)) :
    Calls Try.prog 123 #[.slice A k cap, .func (.func 109) #[.int .u64 s] #[]] w fun e w' => ((∃ j : Nat, e = .returned (.int .i64 j) ∧ winS S s = true) ∨ (e = .returned (.int .i64 (-1)) ∧ winS S s = false)) ∧ w = w' := by
  have HC1 := Lib.hid (show ∀ j, j < k → ∃ g, A = some ⟨g, 0, none⟩ ∧ w.cell? ⟨g, j, none⟩ = some (.int .u64 (S.getD j 0 : Nat)) ∧ S.getD j 0 < 512 from fun j h => by
    obtain ⟨g, cap', hv, hg, _, _⟩ := owns_head h1 (by omega)
    obtain ⟨rfl, rfl⟩ : A = some ⟨g, 0, none⟩ ∧ cap = cap' := by simpa using hv
    have ho : Own w g 78 k (fun i => .int .u64 (S.getD i 0 : Nat)) := Own.of_own h1 (fun i hi => by
      have : i < S.length := by omega
      simp [setsV, List.getD_eq_getElem?_getD, this])
    exact ⟨g, rfl, ho.cell h, hS _ (getD_mem (by omega))⟩)
  have HY := Lib.hid (show ∀ j, j < k → partB s (S.getD j 0) = true → winS S s = true from fun j hj h => winS_yes (by omega) h)
  have HN := Lib.hid (show (∀ j, j < k → partB s (S.getD j 0) = false) → winS S s = false from fun h => winS_no fun j hj => h j (by omega))
  have eg := hasAll_enters
  clear h1 hk hS
  go_enter Try.func123, Try.ntmps123
  go_wp2_with fail
  go_loopw [5, 8] (fun _ i wr => ∃ j : Nat, j ≤ k ∧ i = .int .i64 j ∧ (∀ t, t < j → partB s (S.getD t 0) = false) ∧ wr = w) (fun _ i _ => k - (intOf i).toNat)
  case atStart => exact ⟨0, Nat.zero_le _, rfl, fun _ h => by omega, rfl⟩
  case round =>
    obtain ⟨j, hj, rfl, hno, rfl⟩ := hrel
    have HS := Lib.hid hno
    clear hno
    by_cases hlt : j < k
    · obtain ⟨g, rfl, hcell, ht5⟩ := HC1.out j hlt
      have HYJ := Lib.hid (HY.out j hlt)
      have HSJ := Lib.hid (show partB s (S.getD j 0) = false → ∀ t, t < j + 1 → partB s (S.getD t 0) = false from fun h t ht => by
        by_cases e : t = j
        · subst e; exact h
        · exact HS.out t (by omega))
      generalize S.getD j 0 = t at *
      cases hp : partB s t with
      | true =>
        have HP := Lib.hid hp
        have HW := Lib.hid (HYJ.out hp)
        clear hp
        go_wp2_with (go_at_fn 109; refine (hasAll_any s t _ h5 ht5).mono ?_; rintro e w' ⟨rfl, rfl⟩; rw [HP.out])
        go_ret
        exact ⟨Or.inl ⟨j, rfl, HW.out⟩, rfl⟩
      | false =>
        have HP := Lib.hid hp
        have HW := Lib.hid (HSJ.out hp)
        clear hp
        go_wp2_with (go_at_fn 109; refine (hasAll_any s t _ h5 ht5).mono ?_; rintro e w' ⟨rfl, rfl⟩; rw [HP.out])
        go_roundw
        case rel => exact ⟨j + 1, by omega, by go_num, HW.out, trivial⟩
        case measure => simp [intOf]; omega
    · obtain rfl : j = k := by omega
      have HW := Lib.hid (HN.out HS.out)
      go_wp2
      go_ret
      exact ⟨Or.inr ⟨rfl, HW.out⟩, rfl⟩

set_option maxHeartbeats 1000000 in
theorem containsFunc_any (S : List Nat) (s base k cap : Nat) (A : Option Addr) (w : World) (hk : k = S.length) (hs : k ≤ 1048576) (hS : ∀ t ∈ S, t < 512) (h5 : s < 512) (h1 : w.ownsRow base 78 1 (.slice A k cap) k (setsV S)) :
    Calls Try.prog 108 #[.slice A k cap, .func (.func 109) #[.int .u64 s] #[]] w fun e w' => e = .returned (.bool (winS S s)) ∧ w = w' := by
  have HI := Lib.hid (indexFunc_any S s base k cap A w hk hs hS h5 h1)
  clear h1 hk hS
  go_enter Try.func108, Try.ntmps108
  go_wp2_with fail
  refine HI.out.mono ?_
  rintro e w1 ⟨h, rfl⟩
  rcases h with ⟨j, rfl, hw⟩ | ⟨rfl, hw⟩
  · have HW := Lib.hid hw
    clear hw
    have h0 : (0 : Int) ≤ (j : Int) := by omega
    go_wp2
    go_ret
    exact ⟨by rw [HW.out]; first | rfl | simp, rfl⟩
  · have HW := Lib.hid hw
    clear hw
    go_wp2
    go_ret
    exact ⟨by rw [HW.out]; rfl, rfl⟩

set_option maxHeartbeats 1000000 in
theorem gWins_any (S : List Nat) (m : Int) (s base k cap : Nat) (A : Option Addr) (w : World) (hk : k = S.length) (hs : k ≤ 1048576) (hS : ∀ t ∈ S, t < 512) (h5 : s < 512) (h1 : w.ownsRow base 78 1 (.slice A k cap) k (setsV S)) :
    Calls Try.prog 71 #[.agg #[.int .i64 m, .slice A k cap], .int .u64 s] w fun e w' => e = .returned (.bool (winS S s)) ∧ Below w.heap.size w w' := by
  have hx := BoxT.new 70 w (.int .i64 m) (.slice A k cap)
  have hb0 := below1 w (.cells #[.int .i64 m, .slice A k cap] 70)
  have HI := Lib.hid (containsFunc_any S s base k cap A _ hk hs hS h5 (owns_now h1 hb0))
  obtain ⟨c0, c1⟩ := hx.cells
  clear h1 hk hS
  go_enter Try.func71, Try.ntmps71
  go_wp2_with fail
  refine HI.out.mono ?_
  rintro e w1 ⟨rfl, rfl⟩
  go_wp2
  go_ret
  exact ⟨rfl, hb0⟩

theorem gWins_asks (S : List Nat) (m : Int) (base k cap n : Nat) (A : Option Addr) (w : World) (hn : n ≤ 9) (hk : k = S.length) (hs : k ≤ 1048576) (hS : ∀ t ∈ S, t < 512) (h1 : w.ownsRow base 78 1 (.slice A k cap) k (setsV S)) :
    Asks (winS S) 71 #[.agg #[.int .i64 m, .slice A k cap]] #[] n w :=
  ⟨enters_of Try.func71 (by kernel_rfl) rfl, fun W s h hb => gWins_any S m s base k cap A W hk hs hS (by have := pow_lt hn; omega) (owns_now h1 hb)⟩
end Go.Proofs.Ythjooblibkckmaa
