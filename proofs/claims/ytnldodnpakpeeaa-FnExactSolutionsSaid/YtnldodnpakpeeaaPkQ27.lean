/- Texts of J2, J3. -/
import Derived.Test.YtnldodnpakpeeaaPkQ26
import Derived.Test.YtnldodnpakpeeaaPkQ07
import Derived.Outline
import Derived.Test.YtnldodnpakpeeaaPkQ03
import Derived.Test.YtnldodnpakpeeaaPkQ22
import Derived.Deep.RegionWith
namespace Go.Proofs.Ytnldodnpakpeeaa
open Go.RowKit Vo

/-- Does a set have all members of one of these? -/
def winS (S : List Nat) (s : Nat) : Bool := S.any fun t => partB s t
theorem winS_yes {S : List Nat} {s j : Nat} (hj : j < S.length) (h : partB s (S.getD j 0) = true) : winS S s = true := List.any_eq_true.2 ⟨_, getD_mem hj, h⟩
theorem winS_no {S : List Nat} {s : Nat} (h : ∀ j, j < S.length → partB s (S.getD j 0) = false) : winS S s = false := by
  cases hw : winS S s
  · rfl
  · obtain ⟨t, ht, h2⟩ := List.any_eq_true.1 hw
    obtain ⟨j, hj, rfl⟩ := List.mem_iff_getElem.1 ht
    have := h j hj
    rw [List.getD_eq_getElem?_getD, List.getElem?_eq_getElem hj] at this
    simp only [Option.getD_some] at this
    rw [this] at h2; cases h2

theorem hasAll_enters : ∀ args W, (callFunc 111 args).run Try.prog W = .ok (.enter 111 args) W := enters_of Try.func111 (by kernel_rfl) rfl

set_option maxRecDepth 20000 in
set_option maxHeartbeats 1000000 in
theorem indexFunc_any (S : List Nat) (s base k cap : Nat) (A : Option Addr) (w : World) (hk : k = S.length) (hs : k ≤ 1048576) (hS : ∀ t ∈ S, t < 512) (h5 : s < 512) (h1 : w.ownsRow base 107 1 (.slice A k cap) k (setsV S)) :
    Calls Try.prog 156 #[.slice A k cap, .func (.func 111) #[.int .u64 s] #[]] w fun e w' => ((∃ j : Nat, e = .returned (.int .i64 j) ∧ winS S s = true) ∨ (e = .returned (.int .i64 (-1)) ∧ winS S s = false)) ∧ w = w' := by
  have HC1 := Lib.hid (show ∀ j, j < k → ∃ g, A = some ⟨g, 0, none⟩ ∧ w.cell? ⟨g, j, none⟩ = some (.int .u64 (S.getD j 0 : Nat)) ∧ S.getD j 0 < 512 from fun j h => by
    obtain ⟨g, cap', hv, hg, _, _⟩ := owns_head h1 (by omega)
    obtain ⟨rfl, rfl⟩ : A = some ⟨g, 0, none⟩ ∧ cap = cap' := by simpa using hv
    have ho : Own w g 107 k (fun i => .int .u64 (S.getD i 0 : Nat)) := Own.of_own h1 (fun i hi => by
      have : i < S.length := by omega
      simp [setsV, List.getD_eq_getElem?_getD, this])
    exact ⟨g, rfl, ho.cell h, hS _ (getD_mem (by omega))⟩)
  have HY := Lib.hid (show ∀ j, j < k → partB s (S.getD j 0) = true → winS S s = true from fun j hj h => winS_yes (by omega) h)
  have HN := Lib.hid (show (∀ j, j < k → partB s (S.getD j 0) = false) → winS S s = false from fun h => winS_no fun j hj => h j (by omega))
  have eg := hasAll_enters
  clear h1 hk hS
  go_enter Try.func156, Try.ntmps156
  go_wp2_with fail
  go_loopw [5, 8] (fun _ i wr => ∃ j : Nat, j ≤ k ∧ i = .int .i64 j ∧ (∀ t, t < j → partB s (S.getD t 0) = false) ∧ wr = w) (fun _ i _ => k - (intOf i).toNat)
  case atStart => exact ⟨0, Nat.zero_le _, rfl, fun _ h => by omega, rfl⟩
  case round =>
    obtain ⟨j, hj, rfl, hno, rfl⟩ := hrel
    have HS := Lib.hid hno
    clear hno
    by_cases hlt : j < k
    · obtain ⟨g, rfl, hcell, ht5⟩ := HC1.out j hlt
      have HYJ := Lib.hid (HY.out j hlt)
      have HSJ := Lib.hid (show partB s (S.getD j 0) = false → ∀ t, t < j + 1 → partB s (S.getD t 0) = false from fun h t ht => by
        by_cases e : t = j
        · subst e; exact h
        · exact HS.out t (by omega))
      generalize S.getD j 0 = t at *
      cases hp : partB s t with
      | true =>
        have HP := Lib.hid hp
        have HW := Lib.hid (HYJ.out hp)
        clear hp
        go_wp2_with (go_at_fn 111; refine (hasAll_any s t _ h5 ht5).mono ?_; rintro e w' ⟨rfl, rfl⟩; rw [HP.out])
        go_ret
        exact ⟨Or.inl ⟨j, rfl, HW.out⟩, rfl⟩
      | false =>
        have HP := Lib.hid hp
        have HW := Lib.hid (HSJ.out hp)
        clear hp
        go_wp2_with (go_at_fn 111; refine (hasAll_any s t _ h5 ht5).mono ?_; rintro e w' ⟨rfl, rfl⟩; rw [HP.out])
        go_roundw
        case rel => exact ⟨j + 1, by omega, by go_num, HW.out, trivial⟩
        case measure => simp [intOf]; omega
    · obtain rfl : j = k := by omega
      have HW := Lib.hid (HN.out HS.out)
      go_wp2
      go_ret
      exact ⟨Or.inr ⟨rfl, HW.out⟩, rfl⟩

set_option maxHeartbeats 1000000 in
theorem containsFunc_any (S : List Nat) (s base k cap : Nat) (A : Option Addr) (w : World) (hk : k = S.length) (hs : k ≤ 1048576) (hS : ∀ t ∈ S, t < 512) (h5 : s < 512) (h1 : w.ownsRow base 107 1 (.slice A k cap) k (setsV S)) :
    Calls Try.prog 110 #[.slice A k cap, .func (.func 111) #[.int .u64 s] #[]] w fun e w' => e = .returned (.bool (winS S s)) ∧ w = w' := by
  have HI := Lib.hid (indexFunc_any S s base k cap A w hk hs hS h5 h1)
  clear h1 hk hS
  go_enter Try.func110, Try.ntmps110
  go_wp2_with fail
  refine HI.out.mono ?_
  rintro e w1 ⟨h, rfl⟩
  rcases h with ⟨j, rfl, hw⟩ | ⟨rfl, hw⟩
  · have HW := Lib.hid hw
    clear hw
    have h0 : (0 : Int) ≤ (j : Int) := by omega
    go_wp2
    go_ret
    exact ⟨by rw [HW.out]; first | rfl | simp, rfl⟩
  · have HW := Lib.hid hw
    clear hw
    go_wp2
    go_ret
    exact ⟨by rw [HW.out]; rfl, rfl⟩

set_option maxHeartbeats 1000000 in
theorem gWins_any (S : List Nat) (m : Int) (s base k cap : Nat) (A : Option Addr) (w : World) (hk : k = S.length) (hs : k ≤ 1048576) (hS : ∀ t ∈ S, t < 512) (h5 : s < 512) (h1 : w.ownsRow base 107 1 (.slice A k cap) k (setsV S)) :
    Calls Try.prog 65 #[.agg #[.int .i64 m, .slice A k cap], .int .u64 s] w fun e w' => e = .returned (.bool (winS S s)) ∧ Below w.heap.size w w' := by
  have hx := BoxT.new 95 w (.int .i64 m) (.slice A k cap)
  have hb0 := below1 w (.cells #[.int .i64 m, .slice A k cap] 95)
  have HI := Lib.hid (containsFunc_any S s base k cap A _ hk hs hS h5 (owns_now h1 hb0))
  obtain ⟨c0, c1⟩ := hx.cells
  clear h1 hk hS
  go_enter Try.func65, Try.ntmps65
  go_wp2_with fail
  refine HI.out.mono ?_
  rintro e w1 ⟨rfl, rfl⟩
  go_wp2
  go_ret
  exact ⟨rfl, hb0⟩

theorem gWins_asks (S : List Nat) (m : Int) (base k cap n : Nat) (A : Option Addr) (w : World) (hn : n ≤ 9) (hk : k = S.length) (hs : k ≤ 1048576) (hS : ∀ t ∈ S, t < 512) (h1 : w.ownsRow base 107 1 (.slice A k cap) k (setsV S)) :
    Asks (winS S) 65 #[.agg #[.int .i64 m, .slice A k cap]] #[] n w :=
  ⟨enters_of Try.func65 (by kernel_rfl) rfl, fun W s h hb => gWins_any S m s base k cap A W hk hs hS (by have := pow_lt hn; omega) (owns_now h1 hb)⟩
end Go.Proofs.Ytnldodnpakpeeaa

namespace Go.Proofs.Ytnldodnpakpeeaa
open Go.RowKit Vo

/-- Does a set have all members of one of these? (The lists' own word.) -/
def wnL (S : List Nat) (s : Nat) : Bool := S.any fun t => partB s t
theorem any_take (S : List Nat) (s j : Nat) (h : j < S.length) : wnL (S.take (j+1)) s = (wnL (S.take j) s || partB s (S.getD j 0)) := by
  unfold wnL
  rw [List.take_add_one, List.any_append, List.getElem?_eq_getElem h, List.getD_eq_getElem?_getD, List.getElem?_eq_getElem h]
  simp

set_option maxRecDepth 20000 in
set_option maxHeartbeats 8000000 in
theorem gmWins_any (q : Nat) (A : Option Addr) (n cap : Nat) (L : List (List Int)) (w : World) (hq : q ≤ 9) (hl : n ≤ 1048576) (hr : rowsB q L = true) (hk : Lists w A n L) :
    Calls Try.prog 151 #[.int .i64 q, .slice A n cap] w fun e w' => e = .returned (.slice (some ⟨w.heap.size, 0, none⟩) (2^q : Nat) (2^q : Nat)) ∧ Own w' w.heap.size 4 (2^q) (fun j => .bool (wnL (setsN L) j)) ∧ Below w.heap.size w w' := by
  have HK := Lib.hid hk
  have HLEN := Lib.hid hk.1
  have hq10 : q < 10 := by omega
  have h512 := pow_lt hq
  have hpos := Nat.two_pow_pos q
  have HVB := Lib.hid (show ∀ i, i < n → (setsN L).getD i 0 < 512 ∧ ∀ A' cap W, Known W A' (L.getD i []).length (L.getD i []) → (L.getD i []).length ≤ 1048576 → Calls Try.prog 115 #[.slice A' (L.getD i []).length cap] W (fun e w' => e = .returned (.int .i64 ((setsN L).getD i 0 : Nat)) ∧ W = w') from fun i hi => by
    have h := rowsB_row hr (l := L.getD i []) (by rw [List.getD_eq_getElem?_getD, List.getElem?_eq_getElem (by rw [HLEN.out]; exact hi)]; exact List.getElem_mem _)
    have h2 := setsN_at (L := L) (i := i) (by rw [HLEN.out]; exact hi)
    rw [h2]
    exact ⟨by have := ofK_lt h.2; omega, fun A' cap W hk hm => voBits_known q A' _ cap _ W hq10 h.1 (by omega) h.2 hk⟩)
  have HT := Lib.hid (fun s j (h : j < n) => any_take (setsN L) s j (by rw [show (setsN L).length = L.length from by simp [setsN], HLEN.out]; exact h))
  have HALL := Lib.hid (show (setsN L).take n = setsN L from by rw [← HLEN.out, show L.length = (setsN L).length from by simp [setsN], List.take_length])
  clear hk hr
  obtain ⟨S, hS⟩ : ∃ S, S = setsN L := ⟨_, rfl⟩
  rw [← hS] at HVB HT HALL ⊢
  clear hS
  obtain ⟨N, hN⟩ : ∃ N, N = 2^q := ⟨_, rfl⟩
  have HE := Lib.hid (show ((2^q - 1 : Nat) : Int) = (N : Int) - 1 from by omega)
  rw [← hN] at h512 hpos ⊢
  clear hN
  have hmk := run_make_row' (P := Try.prog) 113 4 (.bool false) 1 Try.underlying113 infoBool rfl .i64 .i64 N (by omega) (by omega)
  go_enter Try.func151, Try.ntmps151
  go_wp2_with fail
  refine (voAll_any q _ hq10).mono ?_
  rintro e w1 ⟨rfl, rfl⟩
  rw [HE.out]
  have hn1 : (N : Int) - 1 + 1 = (N : Int) := by omega
  go_wp2
  go_loopw [6, 16] (fun _ i wr => ∃ b : Nat, b ≤ N ∧ i = .int .i64 b ∧ Own wr w.heap.size 4 N (fun j => .bool (decide (j < b) && wnL S j)) ∧ Below w.heap.size w wr) (fun _ i _ => N - (intOf i).toNat)
  case atStart =>
    refine ⟨0, Nat.zero_le _, rfl, (Own.of_row (World.rowIs_made w (.bool false) N 4)).congr fun i _ => by simp, below1 _ _⟩
  case round =>
    obtain ⟨b, hbN, rfl, hown, hb⟩ := hrel
    have HO := Lib.hid hown
    have HOL := Lib.hid hown.lt
    clear hown
    by_cases hlt : b < N
    · go_wp2
      go_loopw [8, 9, 21] (fun _ _ i wi => ∃ t : Nat, t ≤ n ∧ i = .int .i64 t ∧ Own wi w.heap.size 4 N (fun j => .bool ((decide (j < b) && wnL S j) || (decide (j = b) && wnL (S.take t) b))) ∧ Below w.heap.size w wi) (fun _ _ i _ => n - (intOf i).toNat)
      case atStart => exact ⟨0, Nat.zero_le _, rfl, HO.out.congr fun i _ => by simp [wnL], hb⟩
      case round =>
        obtain ⟨t, htn, rfl, hown2, hb2⟩ := hrel
        have HO2 := Lib.hid hown2
        clear hown2
        by_cases hlt2 : t < n
        · obtain ⟨g, A', cap', rfl, hg, hcell, hml, hkn⟩ := (HK.out.now hb2).2 t hlt2
          obtain ⟨hu512, hvb⟩ := HVB.out t hlt2
          have HV := Lib.hid (hvb A' cap' _ hkn hml)
          have HT2 := Lib.hid (HT.out b t hlt2)
          clear hkn hvb
          generalize S.getD t 0 = u at *
          generalize (L.getD t []).length = p at *
          have hcb := HO2.out.cell hlt
          have hfr := HO2.out.frozen b
          simp only [Nat.lt_irrefl, decide_false, Bool.false_and, Bool.false_or, decide_true, Bool.true_and] at hcb
          have hand := i64_and_nat b u (by omega) hu512
          have HP := Lib.hid (show partB b u = decide (b &&& u = u) from rfl)
          have HSET := Lib.hid (HO2.out.set b (.bool (wnL (S.take (t+1)) b)))
          have HO3 := Lib.hid (show Own (wr.setCell ⟨w.heap.size, b, none⟩ (.bool (wnL (S.take (t+1)) b))) w.heap.size 4 N (fun j => .bool ((decide (j < b) && wnL S j) || (decide (j = b) && wnL (S.take (t+1)) b))) from HSET.out.congr fun i _ => by
            by_cases e : i = b
            · subst e; simp
            · simp [e])
          clear HSET
          have HB3 := Lib.hid (hb2.setCell (p := ⟨w.heap.size, b, none⟩) (Nat.le_refl _) (.bool (wnL (S.take (t+1)) b)))
          cases hw : wnL (S.take t) b with
          | true =>
            rw [hw] at hcb HT2
            have HW := Lib.hid (show wnL (S.take (t+1)) b = true from by rw [HT2.out]; rfl)
            rw [HW.out] at HO3 HB3
            clear hw
            go_wp2_with (go_at_call 115; refine HV.out.mono ?_; rintro e w' ⟨rfl, rfl⟩)
            go_roundw
            case rel => exact ⟨t + 1, by omega, by go_num, by rw [HW.out]; exact HO3.out, HB3.out⟩
            case measure => simp [intOf]; omega
          | false =>
            rw [hw] at hcb HT2
            clear hw
            by_cases he : b &&& u = u
            · have HW := Lib.hid (show wnL (S.take (t+1)) b = true from by rw [HT2.out, HP.out, decide_eq_true he]; rfl)
              rw [HW.out] at HO3 HB3
              rw [he] at hand
              clear he
              go_wp2_with (go_at_call 115; refine HV.out.mono ?_; rintro e w' ⟨rfl, rfl⟩)
              go_roundw
              case rel => exact ⟨t + 1, by omega, by go_num, by rw [HW.out]; exact HO3.out, HB3.out⟩
              case measure => simp [intOf]; omega
            · have HW := Lib.hid (show wnL (S.take (t+1)) b = false from by rw [HT2.out, HP.out, decide_eq_false he]; rfl)
              rw [HW.out] at HO3 HB3
              generalize b &&& u = z at *
              have hne : ((z : Int) == (u : Int)) = false := beq_false_of_ne (by omega)
              clear he
              go_wp2_with (go_at_call 115; refine HV.out.mono ?_; rintro e w' ⟨rfl, rfl⟩)
              go_roundw
              case rel => exact ⟨t + 1, by omega, by go_num, by rw [HW.out]; exact HO3.out, HB3.out⟩
              case measure => simp [intOf]; omega
        · obtain rfl : t = n := by omega
          rw [HALL.out] at HO2
          go_wp2
          go_roundw
          case rel =>
            refine ⟨b + 1, by omega, by go_num, HO2.out.congr fun i _ => ?_, hb2⟩
            by_cases e : i = b
            · subst e; simp
            · by_cases h : i < b
              · simp [h, e, show i < b + 1 from by omega]
              · simp [h, e, show ¬ i < b + 1 from by omega]
          case measure => simp [intOf]; omega
    · obtain rfl : b = N := by omega
      go_wp2
      go_ret
      exact ⟨rfl, HO.out.congr fun i hi => by simp [hi], hb⟩

set_option maxHeartbeats 1000000 in
theorem gmAll_any (q : Nat) (A : Option Addr) (n cap : Nat) (L : List (List Int)) (w : World) (hq : q ≤ 9) (hl : n ≤ 1048576) (hr : rowsB q L = true) (hk : Lists w A n L) :
    Calls Try.prog 101 #[.agg #[.int .i64 q, .slice A n cap]] w fun e w' => e = .returned (.slice (some ⟨w.heap.size + 1, 0, none⟩) (2^q : Nat) (2^q : Nat)) ∧ Own w' (w.heap.size + 1) 4 (2^q) (fun j => .bool (wnL (setsN L) j)) ∧ Below w.heap.size w w' := by
  have hx := BoxT.new 55 w (.int .i64 q) (.slice A n cap)
  have hb0 := below1 w (.cells #[.int .i64 q, .slice A n cap] 55)
  have HG := Lib.hid (gmWins_any q A n cap L _ hq hl hr (hk.now hb0))
  obtain ⟨c0, c1⟩ := hx.cells
  clear hk hr
  obtain ⟨N, hN⟩ : ∃ N, N = 2^q := ⟨_, rfl⟩
  rw [← hN] at HG ⊢
  clear hN
  go_enter Try.func101, Try.ntmps101
  go_wp2_with fail
  refine HG.out.mono ?_
  rintro e w1 ⟨rfl, hown, hb1⟩
  simp only [World.size_alloc] at hown
  have HO := Lib.hid hown
  clear hown
  have hbb := bfrom hb0 hb1
  go_wp2
  go_ret
  exact ⟨by simp, HO.out, hbb⟩

end Go.Proofs.Ytnldodnpakpeeaa

namespace Go.Proofs.Ytnldodnpakpeeaa
open Go.RowKit Vo

def cntG (m : Int) (L : List (List Int)) : Int := if goodG m L then (cnt (winS (setsN L)) (2^m.toNat) : Nat) else 0
theorem cntG_yes {q : Nat} {L : List (List Int)} (h : goodG (q : Int) L = true) : cntG (q : Int) L = (cnt (winS (setsN L)) (2^q) : Nat) := by unfold cntG; rw [if_pos h, Int.toNat_natCast]
theorem cntG_no {m : Int} {L : List (List Int)} (h : goodG m L = false) : cntG m L = 0 := if_neg (by rw [h]; simp)

/-- Proper and strong, told of the sets. -/
def properS (p : Nat → Bool) (n s : Nat) : Bool := !p s || !p (co n s)
def strongS (p : Nat → Bool) (n s : Nat) : Bool := p s || p (co n s)

set_option maxRecDepth 20000 in
set_option maxHeartbeats 2000000 in
theorem properRule1_any (p : Nat → Bool) (k : Nat) (first cap : Array Value) (n g h s : Nat) (w : World) (hn : n < 10) (hs : s < 2^n) (ha : Asks p k first cap n w)
    (hg : Box1 92 w g (.func (.func k) first cap)) (hh : Box1 3 w h (.int .i64 n)) :
    Calls Try.prog 245 #[.int .u64 s, .pointer (some ⟨g, 0, none⟩), .pointer (some ⟨h, 0, none⟩)] w fun e w' => e = .returned (.bool (properS p n s)) ∧ Below w.heap.size w w' := by
  have HA := Lib.hid ha
  have eg := ha.enters
  have HE := Lib.hid (and_not n s hn hs)
  have HCL := Lib.hid (co_lt hs)
  have h512 : s < 512 := by have := pow_lt (n := n) (by omega); omega
  have h5co : co n s < 512 := by have := pow_lt (n := n) (by omega); have := HCL.out; omega
  have HSL := Lib.hid hs
  have HP := Lib.hid (show properS p n s = (!p s || !p (co n s)) from rfl)
  have K := Lib.hid (show ∀ W, Below w.heap.size w W → W.cell? ⟨g, 0, none⟩ = some (.func (.func k) first cap) ∧ W.cell? ⟨h, 0, none⟩ = some (.int .i64 n) from fun W hb => ⟨(hg.now hb).cell, (hh.now hb).cell⟩)
  have hlg := hg.lt
  have hlh := hh.lt
  obtain ⟨c0, c1⟩ := K.out _ (Below.refl _ _)
  clear ha hs hg hh
  cases hp : p s with
  | false =>
    rw [hp] at HP
    have HPS := Lib.hid hp
    clear hp
    go_enter Try.func245, Try.ntmps245
    go_wp2_with fail
    first
      | (go_region_with (first
          | (go_at_fn k; refine (HA.out.gives _ s HSL.out (Below.refl _ _).drew).mono ?_; rintro e wA ⟨rfl, hbA⟩; rw [HPS.out]; have gA := bfrom (Below.refl _ w).drew hbA; obtain ⟨a0, a1⟩ := K.out _ gA)))
      | fail
    all_goals
      go_wp2
      go_ret
      exact ⟨by rw [HP.out]; rfl, gA⟩
  | true =>
    rw [hp] at HP
    have HPS := Lib.hid hp
    clear hp
    cases hp2 : p (co n s)
    all_goals
      rw [hp2] at HP
      have HPC := Lib.hid hp2
      clear hp2
      go_enter Try.func245, Try.ntmps245
      go_wp2_with fail
      go_region_held3 (fun w' => w'.cell? ⟨g, 0, none⟩ = some (.func (.func k) first cap) ∧ w'.cell? ⟨h, 0, none⟩ = some (.int .i64 n))
        (first | exact ⟨c0, c1⟩ | exact ⟨b0, b1⟩ | exact ⟨a0, a1⟩ | go_keep)
        (first
          | (go_at_call 235; refine (allMembers_any n _ hn).mono ?_; rintro e w' ⟨rfl, rfl⟩)
          | (go_at_fn k; (with_reducible refine (HA.out.gives _ s HSL.out ?_).mono ?_); (first | exact (Below.refl _ _).drew | exact gA); rintro e wA ⟨rfl, hbA⟩; rw [HPS.out]; have gA := bfrom (Below.refl _ w).drew hbA; obtain ⟨a0, a1⟩ := K.out _ gA)
          | (rw [HE.out]; go_at_fn k; (with_reducible refine (HA.out.gives _ (co n s) HCL.out ?_).mono ?_); (first | exact gA | exact (Below.refl _ _).drew); rintro e wB ⟨rfl, hbB⟩; rw [HPC.out]; have gB := bfrom gA hbB; obtain ⟨b0, b1⟩ := K.out _ gB))
      go_wp2
      go_ret
      exact ⟨by rw [HP.out]; rfl, gB⟩

set_option maxRecDepth 20000 in
set_option maxHeartbeats 2000000 in
theorem strongRule1_any (p : Nat → Bool) (k : Nat) (first cap : Array Value) (n g h s : Nat) (w : World) (hn : n < 10) (hs : s < 2^n) (ha : Asks p k first cap n w)
    (hg : Box1 92 w g (.func (.func k) first cap)) (hh : Box1 3 w h (.int .i64 n)) :
    Calls Try.prog 247 #[.int .u64 s, .pointer (some ⟨g, 0, none⟩), .pointer (some ⟨h, 0, none⟩)] w fun e w' => e = .returned (.bool (strongS p n s)) ∧ Below w.heap.size w w' := by
  have HA := Lib.hid ha
  have eg := ha.enters
  have HE := Lib.hid (and_not n s hn hs)
  have HCL := Lib.hid (co_lt hs)
  have h512 : s < 512 := by have := pow_lt (n := n) (by omega); omega
  have h5co : co n s < 512 := by have := pow_lt (n := n) (by omega); have := HCL.out; omega
  have HSL := Lib.hid hs
  have HP := Lib.hid (show strongS p n s = (p s || p (co n s)) from rfl)
  have K := Lib.hid (show ∀ W, Below w.heap.size w W → W.cell? ⟨g, 0, none⟩ = some (.func (.func k) first cap) ∧ W.cell? ⟨h, 0, none⟩ = some (.int .i64 n) from fun W hb => ⟨(hg.now hb).cell, (hh.now hb).cell⟩)
  have hlg := hg.lt
  have hlh := hh.lt
  obtain ⟨c0, c1⟩ := K.out _ (Below.refl _ _)
  clear ha hs hg hh
  cases hp : p s with
  | true =>
    rw [hp] at HP
    have HPS := Lib.hid hp
    clear hp
    go_enter Try.func247, Try.ntmps247
    go_wp2_with fail
    first
      | (go_region_with (first
          | (go_at_fn k; refine (HA.out.gives _ s HSL.out (Below.refl _ _).drew).mono ?_; rintro e wA ⟨rfl, hbA⟩; rw [HPS.out]; have gA := bfrom (Below.refl _ w).drew hbA; obtain ⟨a0, a1⟩ := K.out _ gA)))
      | fail
    all_goals
      go_wp2
      go_ret
      exact ⟨by rw [HP.out]; rfl, gA⟩
  | false =>
    rw [hp] at HP
    have HPS := Lib.hid hp
    clear hp
    cases hp2 : p (co n s)
    all_goals
      rw [hp2] at HP
      have HPC := Lib.hid hp2
      clear hp2
      go_enter Try.func247, Try.ntmps247
      go_wp2_with fail
      go_region_held3 (fun w' => w'.cell? ⟨g, 0, none⟩ = some (.func (.func k) first cap) ∧ w'.cell? ⟨h, 0, none⟩ = some (.int .i64 n))
        (first | exact ⟨c0, c1⟩ | exact ⟨b0, b1⟩ | exact ⟨a0, a1⟩ | go_keep)
        (first
          | (go_at_call 235; refine (allMembers_any n _ hn).mono ?_; rintro e w' ⟨rfl, rfl⟩)
          | (go_at_fn k; (with_reducible refine (HA.out.gives _ s HSL.out ?_).mono ?_); (first | exact (Below.refl _ _).drew | exact gA); rintro e wA ⟨rfl, hbA⟩; rw [HPS.out]; have gA := bfrom (Below.refl _ w).drew hbA; obtain ⟨a0, a1⟩ := K.out _ gA)
          | (rw [HE.out]; go_at_fn k; (with_reducible refine (HA.out.gives _ (co n s) HCL.out ?_).mono ?_); (first | exact gA | exact (Below.refl _ _).drew); rintro e wB ⟨rfl, hbB⟩; rw [HPC.out]; have gB := bfrom gA hbB; obtain ⟨b0, b1⟩ := K.out _ gB))
      go_wp2
      go_ret
      exact ⟨by rw [HP.out]; rfl, gB⟩
end Go.Proofs.Ytnldodnpakpeeaa
