/- One side of a trade, the program's: are sets in order, is one of a kind, readSide. -/
import Derived.Test.YtpcijgdpinmcmaaDz
import Derived.Test.YtpcijgdpinmcmaaE4
import Derived.Deep.RegionWith
import Derived.Outline
namespace Go.Proofs.Ytpcijgdpinmcmaa
open Go.RowKit Vo

/-- No set comes before the one ahead of it. -/
def sortS (S : List Nat) : Bool := (List.range (S.length - 1)).all fun j => !before (mem (S.getD (j+1) 0) 9) (mem (S.getD j 0) 9)
theorem sortS_iff {S : List Nat} : sortS S = true ↔ ∀ j, j + 1 < S.length → before (mem (S.getD (j+1) 0) 9) (mem (S.getD j 0) 9) = false := by
  unfold sortS
  rw [List.all_eq_true]
  constructor
  · intro h j hj
    have := h j (List.mem_range.2 (by omega))
    simpa using this
  · intro h j hj
    have := h j (by have := List.mem_range.1 hj; omega)
    simp only [this, Bool.not_false]
theorem sortS_no {S : List Nat} {j : Nat} (hj : j + 1 < S.length) (h : before (mem (S.getD (j+1) 0) 9) (mem (S.getD j 0) 9) = true) : sortS S = false := by
  cases hs : sortS S with
  | false => rfl
  | true => rw [sortS_iff.1 hs j hj] at h; cases h

theorem compareSets_enters : ∀ args W, (callFunc 103 args).run Try.prog W = .ok (.enter 103 args) W := enters_of Try.func103 (by kernel_rfl) rfl
theorem setCells {w : World} {base k cap : Nat} {A : Option Addr} {S : List Nat} (hk : k = S.length) (hS : ∀ t ∈ S, t < 512) (h1 : w.ownsRow base 94 1 (.slice A k cap) k (setsV S)) :
    ∀ j, j < k → ∃ g, A = some ⟨g, 0, none⟩ ∧ w.cell? ⟨g, j, none⟩ = some (.int .u64 (S.getD j 0 : Nat)) ∧ S.getD j 0 < 512 := fun j h => by
  obtain ⟨g, cap', hv, hg, _, _⟩ := owns_head h1 (by omega)
  obtain ⟨rfl, rfl⟩ : A = some ⟨g, 0, none⟩ ∧ cap = cap' := by simpa using hv
  have ho : Own w g 94 k (fun i => .int .u64 (S.getD i 0 : Nat)) := Own.of_own h1 (fun i hi => by
    have : i < S.length := by omega
    simp [setsV, List.getD_eq_getElem?_getD, this])
  exact ⟨g, rfl, ho.cell h, hS _ (getD_mem (by omega))⟩

set_option maxRecDepth 20000 in
set_option maxHeartbeats 2000000 in
theorem isSorted_any (S : List Nat) (base k cap : Nat) (A : Option Addr) (w : World) (hk : k = S.length) (hk1 : 1 ≤ k) (hs : k ≤ 1048576) (hS : ∀ t ∈ S, t < 512) (h1 : w.ownsRow base 94 1 (.slice A k cap) k (setsV S)) :
    Calls Try.prog 102 #[.slice A k cap, .func (.func 103) #[] #[]] w fun e w' => e = .returned (.bool (sortS S)) ∧ Below w.heap.size w w' := by
  have HC1 := Lib.hid (fun W (hb : Below w.heap.size w W) => setCells hk hS (owns_now h1 hb))
  have HNO := Lib.hid (show ∀ j, j + 1 < k → before (mem (S.getD (j+1) 0) 9) (mem (S.getD j 0) 9) = true → sortS S = false from fun j hj h => sortS_no (by omega) h)
  have HYES := Lib.hid (show (∀ j, j + 1 < k → before (mem (S.getD (j+1) 0) 9) (mem (S.getD j 0) 9) = false) → sortS S = true from fun h => sortS_iff.2 (by rw [← hk]; exact h))
  have eg := compareSets_enters
  clear h1 hk hS
  have hkk : ((k : Int) - 1) = ((k - 1 : Nat) : Int) := by omega
  go_enter Try.func102, Try.ntmps102
  go_wp2
  go_loopw [5] (fun i wr => ∃ j : Nat, j < k ∧ i = .int .i64 j ∧ (∀ t, j ≤ t → t + 1 < k → before (mem (S.getD (t+1) 0) 9) (mem (S.getD t 0) 9) = false) ∧ Below w.heap.size w wr) (fun i _ => (intOf i).toNat)
  case atStart => exact ⟨k - 1, by omega, by rw [← hkk], fun t h1 h2 => by omega, Below.refl _ _⟩
  case round =>
    obtain ⟨j, hj, rfl, hno, hb⟩ := hrel
    have HS := Lib.hid hno
    clear hno
    rcases Nat.eq_zero_or_pos j with rfl | hjp
    · have HR := Lib.hid (HYES.out fun t ht => HS.out t (by omega) ht)
      go_wp2
      go_ret
      exact ⟨by rw [HR.out]; rfl, hb⟩
    · obtain ⟨p, hp⟩ : ∃ p, j = p + 1 := ⟨j - 1, by omega⟩
      obtain ⟨g, rfl, hc1, h51⟩ := HC1.out wr hb j hj
      obtain ⟨g', hg', hc2, h52⟩ := HC1.out wr hb p (by omega)
      obtain rfl : g = g' := by simpa using hg'
      clear hg'
      have hsub : (j : Int) - 1 = (p : Int) := by omega
      have hwr : IntKind.i64.wrap (p : Int) = (p : Int) := IntWalk.i64_in _ (by omega)
      have hpos : (0 : Int) < (j : Int) := by omega
      have hjk : (j : Int) < k := by omega
      have hpk : (p : Int) < k := by omega
      have HOC := Lib.hid (ordC_neg (s := S.getD j 0) (t := S.getD p 0))
      have HNP := Lib.hid (show before (mem (S.getD j 0) 9) (mem (S.getD p 0) 9) = true → sortS S = false from by rw [hp]; exact HNO.out p (by omega))
      have HYP := Lib.hid (show before (mem (S.getD j 0) 9) (mem (S.getD p 0) 9) = false → ∀ t, p ≤ t → t + 1 < k → before (mem (S.getD (t+1) 0) 9) (mem (S.getD t 0) 9) = false from fun h t h1 h2 => by
        by_cases e : t = p
        · subst e; rw [← hp]; exact h
        · exact HS.out t (by omega) h2)
      have hpj : p < j := by omega
      clear hp
      obtain ⟨a, ha⟩ : ∃ a, a = S.getD j 0 := ⟨_, rfl⟩
      obtain ⟨b, hbb⟩ : ∃ b, b = S.getD p 0 := ⟨_, rfl⟩
      rw [← ha] at hc1 h51 HOC HNP HYP
      rw [← hbb] at hc2 h52 HOC HNP HYP
      clear ha hbb
      cases hbf : before (mem a 9) (mem b 9)
      · have HW := Lib.hid (HYP.out hbf)
        have hneg : ¬ ordC a b < 0 := fun h => by rw [HOC.out.1 h] at hbf; cases hbf
        clear hbf
        obtain ⟨cv, hcv⟩ : ∃ z, z = ordC a b := ⟨_, rfl⟩
        have HCM := Lib.hid (show ∀ W, Calls Try.prog 103 #[.int .u64 a, .int .u64 b] W fun e w' => e = .returned (.int .i64 cv) ∧ Grew W w' from fun W => by rw [hcv]; exact compareSets_any a b W h51 h52)
        rw [← hcv] at hneg
        clear hcv
        have hd1 : wr.drew.cell? ⟨g, j, none⟩ = some (.int .u64 a) := hc1
        have hd2 : wr.drew.cell? ⟨g, p, none⟩ = some (.int .u64 b) := hc2
        go_wp2_with fail
        go_region_with (first | (go_at_fn 103; refine (HCM.out _).mono ?_; rintro e w' ⟨rfl, hgw⟩) | fail)
        all_goals
          go_wp2
          go_roundw
          case rel => exact ⟨p, by omega, by go_num, HW.out, by first | exact bfrom hb hgw.1 | exact bfrom (below_drewN hb 1) hgw.1⟩
          case measure => simp [intOf]; omega
      · have HR := Lib.hid (HNP.out hbf)
        have hneg : ordC a b < 0 := HOC.out.2 hbf
        clear hbf
        obtain ⟨cv, hcv⟩ : ∃ z, z = ordC a b := ⟨_, rfl⟩
        have HCM := Lib.hid (show ∀ W, Calls Try.prog 103 #[.int .u64 a, .int .u64 b] W fun e w' => e = .returned (.int .i64 cv) ∧ Grew W w' from fun W => by rw [hcv]; exact compareSets_any a b W h51 h52)
        rw [← hcv] at hneg
        clear hcv
        have hd1 : wr.drew.cell? ⟨g, j, none⟩ = some (.int .u64 a) := hc1
        have hd2 : wr.drew.cell? ⟨g, p, none⟩ = some (.int .u64 b) := hc2
        go_wp2_with fail
        go_region_with (first | (go_at_fn 103; refine (HCM.out _).mono ?_; rintro e w' ⟨rfl, hgw⟩) | fail)
        all_goals
          go_wp2
          go_ret
          exact ⟨by rw [HR.out]; rfl, by first | exact bfrom hb hgw.1 | exact bfrom (below_drewN hb 1) hgw.1⟩

set_option maxRecDepth 20000 in
set_option maxHeartbeats 2000000 in
theorem indexA_any (p : Nat → Bool) (f : Nat) (first cap2 : Array Value) (S : List Nat) (base k cap : Nat) (A : Option Addr) (w : World) (hk : k = S.length) (hs : k ≤ 1048576) (hS : ∀ t ∈ S, t < 512) (h1 : w.ownsRow base 94 1 (.slice A k cap) k (setsV S)) (ha : Asks p f first cap2 9 w) :
    Calls Try.prog 114 #[.slice A k cap, .func (.func f) first cap2] w fun e w' => ((∃ j : Nat, e = .returned (.int .i64 j) ∧ S.any p = true) ∨ (e = .returned (.int .i64 (-1)) ∧ S.any p = false)) ∧ Below w.heap.size w w' := by
  have HC1 := Lib.hid (fun W (hb : Below w.heap.size w W) => setCells hk hS (owns_now h1 hb))
  have HG := Lib.hid (fun W s (h : s < 512) hb => ha.gives W s h hb)
  have HY := Lib.hid (show ∀ j, j < k → p (S.getD j 0) = true → S.any p = true from fun j hj h => List.any_eq_true.2 ⟨_, getD_mem (by omega), h⟩)
  have HN := Lib.hid (show (∀ j, j < k → p (S.getD j 0) = false) → S.any p = false from fun h => by
    rw [List.any_eq_false]
    intro x hx
    obtain ⟨i, hi, rfl⟩ := List.getElem_of_mem hx
    have := h i (by omega)
    rw [List.getD_eq_getElem?_getD, List.getElem?_eq_getElem hi] at this
    simpa using this)
  have eg := ha.enters
  clear h1 hk hS ha
  go_enter Try.func114, Try.ntmps114
  go_wp2_with fail
  go_loopw [5, 8] (fun _ i wr => ∃ j : Nat, j ≤ k ∧ i = .int .i64 j ∧ (∀ t, t < j → p (S.getD t 0) = false) ∧ Below w.heap.size w wr) (fun _ i _ => k - (intOf i).toNat)
  case atStart => exact ⟨0, Nat.zero_le _, rfl, fun _ h => by omega, Below.refl _ _⟩
  case round =>
    obtain ⟨j, hj, rfl, hno, hb⟩ := hrel
    have HS := Lib.hid hno
    clear hno
    by_cases hlt : j < k
    · obtain ⟨g, rfl, hcell, ht5⟩ := HC1.out wr hb j hlt
      have HYJ := Lib.hid (HY.out j hlt)
      have HSJ := Lib.hid (show p (S.getD j 0) = false → ∀ t, t < j + 1 → p (S.getD t 0) = false from fun h t ht => by
        by_cases e : t = j
        · subst e; exact h
        · exact HS.out t (by omega))
      generalize S.getD j 0 = t at *
      have HGT := Lib.hid (HG.out wr t ht5 hb)
      cases hp : p t with
      | true =>
        have HW := Lib.hid (HYJ.out hp)
        rw [hp] at HGT
        clear hp
        go_wp2_with (go_at_fn f; refine HGT.out.mono ?_; rintro e w' ⟨rfl, hb'⟩)
        go_ret
        exact ⟨Or.inl ⟨j, rfl, HW.out⟩, bfrom hb hb'⟩
      | false =>
        have HW := Lib.hid (HSJ.out hp)
        rw [hp] at HGT
        clear hp
        go_wp2_with (go_at_fn f; refine HGT.out.mono ?_; rintro e w' ⟨rfl, hb'⟩)
        go_roundw
        case rel => exact ⟨j + 1, by omega, by go_num, HW.out, bfrom hb hb'⟩
        case measure => simp [intOf]; omega
    · obtain rfl : j = k := by omega
      have HW := Lib.hid (HN.out HS.out)
      go_wp2
      go_ret
      exact ⟨Or.inr ⟨rfl, HW.out⟩, hb⟩

set_option maxHeartbeats 1000000 in
theorem containsA_any (p : Nat → Bool) (f : Nat) (first cap2 : Array Value) (S : List Nat) (base k cap : Nat) (A : Option Addr) (w : World) (hk : k = S.length) (hs : k ≤ 1048576) (hS : ∀ t ∈ S, t < 512) (h1 : w.ownsRow base 94 1 (.slice A k cap) k (setsV S)) (ha : Asks p f first cap2 9 w) :
    Calls Try.prog 104 #[.slice A k cap, .func (.func f) first cap2] w fun e w' => e = .returned (.bool (S.any p)) ∧ Below w.heap.size w w' := by
  have HI := Lib.hid (indexA_any p f first cap2 S base k cap A w hk hs hS h1 ha)
  clear h1 hk hS ha
  go_enter Try.func104, Try.ntmps104
  go_wp2_with fail
  refine HI.out.mono ?_
  rintro e w1 ⟨h, hb⟩
  rcases h with ⟨j, rfl, hw⟩ | ⟨rfl, hw⟩
  · have HW := Lib.hid hw
    clear hw
    have h0 : (0 : Int) ≤ (j : Int) := by omega
    go_wp2
    go_ret
    exact ⟨by rw [HW.out]; first | rfl | simp, hb⟩
  · have HW := Lib.hid hw
    clear hw
    go_wp2
    go_ret
    exact ⟨by rw [HW.out]; rfl, hb⟩
end Go.Proofs.Ytpcijgdpinmcmaa
