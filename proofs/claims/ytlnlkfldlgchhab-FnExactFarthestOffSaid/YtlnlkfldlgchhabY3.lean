/- Contract of the program's FarthestOff. -/
import Derived.Test.YtlnlkfldlgchhabQ2
import Derived.Test.YtlnlkfldlgchhabN2
import Derived.Deep.RegionHeld3
import Derived.Outline
import Derived.Test.YtlnlkfldlgchhabZ12
import Derived.Test.YtlnlkfldlgchhabW2
import Derived.Test.YtlnlkfldlgchhabS2
namespace Go.Proofs.Ytlnlkfldlgchhab
open Go.RowKit Vo

def scanB (q : Int) (ws : List Int) (n : Nat) : Bool := goodB q ws n && decide (sumK ws n ≤ 60)
theorem scanB_parts {q : Int} {ws : List Int} {n : Nat} (h : scanB q ws n = true) : Vo.Good q ws n ∧ sumK ws n ≤ 60 := by
  unfold scanB at h
  simp at h
  exact ⟨by have := h.1; unfold goodB at this; exact of_decide_eq_true this, h.2⟩

set_option maxHeartbeats 1000000 in
theorem isScanned_any (q : Int) (A : Option Addr) (n cap : Nat) (ws : List Int) (w : World) (hm : n ≤ 9223372036854775807) (hk : Known w A n ws) :
    Calls Try.prog 71 #[.agg #[.int .i64 q, .slice A n cap]] w fun e w' => e = .returned (.bool (scanB q ws n)) ∧ Below w.heap.size w w' := by
  have HK := Lib.hid hk
  clear hk
  have hx := Box.new w (.int .i64 q) (.slice A n cap)
  have hb0 := below1 w (.cells #[.int .i64 q, .slice A n cap] 29)
  by_cases hg : Vo.Good q ws n
  · have HG := Lib.hid (goodB_true hg)
    obtain ⟨b, off, rfl, hsl⟩ := HK.out.get hg.lo
    have HSL := Lib.hid hsl
    have HIN := Lib.hid hg.ok
    have hn9 := hg.hi
    have HS := Lib.hid (show scanB q ws n = decide (sumK ws n ≤ 60) from by unfold scanB; rw [goodB_true hg, Bool.true_and])
    clear hg hsl
    go_enter Try.func71, Try.ntmps71
    go_wp2_with fail
    refine (isCommittee_any q _ n cap ws _ hm (HK.out.now hb0)).mono ?_
    rintro e w1 ⟨rfl, hb1⟩
    rw [HG.out]
    obtain ⟨c0, c1⟩ := (hx.now hb1).cells
    have g1 := bfrom hb0 hb1
    go_wp2_with (go_at_call 66; refine (total_any q b off n cap ws _ (by omega) HIN.out (HSL.out.now g1)).mono ?_; rintro e w2 ⟨rfl, hb2⟩)
    go_ret
    exact ⟨by rw [HS.out]; rfl, bfrom g1 hb2⟩
  · have HG := Lib.hid (goodB_false hg)
    have HS := Lib.hid (show scanB q ws n = false from by unfold scanB; rw [goodB_false hg]; rfl)
    clear hg
    go_enter Try.func71, Try.ntmps71
    go_wp2_with fail
    refine (isCommittee_any q _ n cap ws _ hm (HK.out.now hb0)).mono ?_
    rintro e w1 ⟨rfl, hb1⟩
    rw [HG.out]
    go_wp2
    go_ret
    exact ⟨by rw [HS.out]; rfl, bfrom hb0 hb1⟩

set_option maxHeartbeats 1000000 in
theorem shScanned_any (q : Int) (A : Option Addr) (n cap : Nat) (ws : List Int) (w : World) (hm : n ≤ 9223372036854775807) (hk : Known w A n ws) :
    Calls Try.prog 68 #[.agg #[.int .i64 q, .slice A n cap]] w fun e w' => e = .returned (.bool (scanB q ws n)) ∧ Below w.heap.size w w' := by
  have HK := Lib.hid hk
  clear hk
  have hx := Box.new w (.int .i64 q) (.slice A n cap)
  have hb0 := below1 w (.cells #[.int .i64 q, .slice A n cap] 29)
  by_cases hg : Vo.Good q ws n
  · have HG := Lib.hid (goodB_true hg)
    obtain ⟨b, off, rfl, hsl⟩ := HK.out.get hg.lo
    have HSL := Lib.hid hsl
    have HIN := Lib.hid hg.ok
    have hn9 := hg.hi
    have HS := Lib.hid (show scanB q ws n = decide (sumK ws n ≤ 60) from by unfold scanB; rw [goodB_true hg, Bool.true_and])
    clear hg hsl
    go_enter Try.func68, Try.ntmps68
    go_wp2_with fail
    refine (voGood_any q _ n cap ws _ hm (HK.out.now hb0)).mono ?_
    rintro e w1 ⟨rfl, hb1⟩
    rw [HG.out]
    obtain ⟨c0, c1⟩ := (hx.now hb1).cells
    have g1 := bfrom hb0 hb1
    go_wp2_with (go_at_call 53; refine (voSum_any b off n cap ws _ (by omega) HIN.out (HSL.out.now g1)).mono ?_; rintro e w2 ⟨rfl, rfl⟩)
    go_ret
    exact ⟨by rw [HS.out]; rfl, g1⟩
  · have HG := Lib.hid (goodB_false hg)
    have HS := Lib.hid (show scanB q ws n = false from by unfold scanB; rw [goodB_false hg]; rfl)
    clear hg
    go_enter Try.func68, Try.ntmps68
    go_wp2_with fail
    refine (voGood_any q _ n cap ws _ hm (HK.out.now hb0)).mono ?_
    rintro e w1 ⟨rfl, hb1⟩
    rw [HG.out]
    go_wp2
    go_ret
    exact ⟨by rw [HS.out]; rfl, bfrom hb0 hb1⟩
end Go.Proofs.Ytlnlkfldlgchhab

namespace Go.Proofs.Ytlnlkfldlgchhab
open Go.RowKit Vo

def maxZ (f : Nat → Int) : Nat → Int
  | 0 => f 0
  | k+1 => max (maxZ f k) (f k)
def minZ (f : Nat → Int) : Nat → Int
  | 0 => f 0
  | k+1 => min (minZ f k) (f k)
theorem minZ_bd {f : Nat → Int} {n : Nat} {B : Int} (h : ∀ k, k < n → -B ≤ f k ∧ f k ≤ B) (hn : 0 < n) : ∀ k, k ≤ n → -B ≤ minZ f k ∧ minZ f k ≤ B := by
  intro k hk
  induction k with
  | zero => exact h 0 hn
  | succ k ih => have := ih (by omega); have := h k (by omega); simp only [minZ]; omega
theorem maxZ_bd {f : Nat → Int} {n : Nat} {B : Int} (h : ∀ k, k < n → -B ≤ f k ∧ f k ≤ B) (hn : 0 < n) : ∀ k, k ≤ n → -B ≤ maxZ f k ∧ maxZ f k ≤ B := by
  intro k hk
  induction k with
  | zero => exact h 0 hn
  | succ k ih => have := ih (by omega); have := h k (by omega); simp only [maxZ]; omega

set_option maxHeartbeats 1000000 in
theorem minI_any (f : Nat → Int) (g n cap : Nat) (w : World) (h1 : 1 ≤ n) (hn : n ≤ 1048576) (hr : ∀ j, j < n → w.cell? ⟨g, j, none⟩ = some (.int .i64 (f j))) :
    Calls Try.prog 130 #[.slice (some ⟨g, 0, none⟩) n cap] w fun e w' => e = .returned (.int .i64 (minZ f n)) ∧ w = w' := by
  have HR := Lib.hid hr
  have hc0 := hr 0 (by omega)
  have H1 := Lib.hid (show minZ f 1 = f 0 from by simp [minZ])
  have h0 : ¬ (n : Int) < 1 := by omega
  clear hr
  go_enter Try.func130, Try.ntmps130
  go_wp2
  go_loop [3, 4] (fun m i => ∃ k : Nat, 1 ≤ k ∧ k ≤ n ∧ i = .int .i64 k ∧ m = .int .i64 (minZ f k)) (fun _ i => n - (intOf i).toNat)
  case atStart => exact ⟨1, by omega, h1, rfl, by rw [H1.out]⟩
  case round =>
    obtain ⟨k, hk1, hk, rfl, rfl⟩ := hrel
    by_cases hlt : k < n
    · have hcell := HR.out k hlt
      have HS := Lib.hid (show minZ f (k+1) = min (minZ f k) (f k) from rfl)
      generalize minZ f k = m at *
      generalize f k = x at *
      go_wp2
      go_round
      case rel => exact ⟨k + 1, by omega, by omega, by go_num, by rw [HS.out]; first | rfl | (congr 1; omega) | (simp; omega)⟩
      case measure => simp [intOf]; omega
    · obtain rfl : n = k := by omega
      go_wp2
      go_ret
      exact ⟨rfl, rfl⟩
set_option maxHeartbeats 1000000 in
theorem maxI_any (f : Nat → Int) (g n cap : Nat) (w : World) (h1 : 1 ≤ n) (hn : n ≤ 1048576) (hr : ∀ j, j < n → w.cell? ⟨g, j, none⟩ = some (.int .i64 (f j))) :
    Calls Try.prog 129 #[.slice (some ⟨g, 0, none⟩) n cap] w fun e w' => e = .returned (.int .i64 (maxZ f n)) ∧ w = w' := by
  have HR := Lib.hid hr
  have hc0 := hr 0 (by omega)
  have H1 := Lib.hid (show maxZ f 1 = f 0 from by simp [maxZ])
  have h0 : ¬ (n : Int) < 1 := by omega
  clear hr
  go_enter Try.func129, Try.ntmps129
  go_wp2
  go_loop [3, 4] (fun m i => ∃ k : Nat, 1 ≤ k ∧ k ≤ n ∧ i = .int .i64 k ∧ m = .int .i64 (maxZ f k)) (fun _ i => n - (intOf i).toNat)
  case atStart => exact ⟨1, by omega, h1, rfl, by rw [H1.out]⟩
  case round =>
    obtain ⟨k, hk1, hk, rfl, rfl⟩ := hrel
    by_cases hlt : k < n
    · have hcell := HR.out k hlt
      have HS := Lib.hid (show maxZ f (k+1) = max (maxZ f k) (f k) from rfl)
      generalize maxZ f k = m at *
      generalize f k = x at *
      go_wp2
      go_round
      case rel => exact ⟨k + 1, by omega, by omega, by go_num, by rw [HS.out]; first | rfl | (congr 1; omega) | (simp; omega)⟩
      case measure => simp [intOf]; omega
    · obtain rfl : n = k := by omega
      go_wp2
      go_ret
      exact ⟨rfl, rfl⟩

/-- How far the powers and the weights are off, in parts. -/
def farZ (q : Int) (ws : List Int) (n : Nat) : Int := max (maxZ (leadZ q ws n) n) (-(minZ (leadZ q ws n) n))

set_option maxHeartbeats 1000000 in
theorem farthestOff_any (q : Int) (b off n cap : Nat) (ws : List Int) (w : World) (h1 : 1 ≤ n) (hn : n < 10) (hok : InK 0 1000 ws n) (hsl : Sl w b off n ws) :
    Calls Try.prog 73 #[.agg #[.int .i64 q, .slice (some ⟨b, off, none⟩) n cap]] w fun e w' => e = .returned (.int .i64 (farZ q ws n)) ∧ Below w.heap.size w w' := by
  have hbd : ∀ k, k < n → -606800000000000000 ≤ leadZ q ws n k ∧ leadZ q ws n k ≤ 606800000000000000 := fun k hk => by
    have := lead_bd (q := q) (show n ≤ 9 by omega) hok hk
    unfold leadZ; omega
  have hb0 := below1 w (.cells #[.int .i64 q, .slice (some ⟨b, off, none⟩) n cap] 29)
  have hmn := minZ_bd hbd (by omega) n (Nat.le_refl _)
  have HV := Lib.hid (show farZ q ws n = max (maxZ (leadZ q ws n) n) (-(minZ (leadZ q ws n) n)) from rfl)
  have HP := Lib.hid (fun W (h : Sl W b off n ws) => powerLeads_any q b off n cap ws W hn hok h)
  have HSL := Lib.hid hsl
  have HL := Lib.hid (perZ_len (leadZ q ws n) n)
  have HG := Lib.hid (fun j (hj : j < n) => perZ_get (f := leadZ q ws n) hj)
  clear hbd hok hsl
  generalize leadZ q ws n = f at *
  go_enter Try.func73, Try.ntmps73
  go_wp2_with fail
  refine (HP.out _ (HSL.out.now hb0)).mono ?_
  rintro e w1 ⟨A, cp, rfl, hown, hb1⟩
  rw [HL.out] at hown ⊢
  obtain ⟨g, cp', hv, hg, _, _⟩ := owns_head hown (by omega)
  obtain ⟨rfl, rfl⟩ : A = some ⟨g, 0, none⟩ ∧ cp = cp' := by simpa using hv
  have HR := Lib.hid (show ∀ j, j < n → w1.cell? ⟨g, j, none⟩ = some (.int .i64 (f j)) from fun j hj => by
    have hI : Ints w1 g n (perZ f n) := Own.of_own hown fun i hi => by simp [perZ, hi]
    rw [Own.cell hI hj, HG.out j hj])
  clear hv hown
  go_wp2_with (first
    | (go_at_call 129; refine (maxI_any f g n cp _ h1 (by omega) HR.out).mono ?_; rintro e w2 ⟨rfl, rfl⟩)
    | (go_at_call 130; refine (minI_any f g n cp _ h1 (by omega) HR.out).mono ?_; rintro e w3 ⟨rfl, rfl⟩))
  · go_ret
    exact ⟨by rw [HV.out, show max (maxZ f n) (-minZ f n) = -minZ f n by omega]; rfl, bfrom hb0 hb1⟩
  · go_ret
    exact ⟨by rw [HV.out, show max (maxZ f n) (-minZ f n) = maxZ f n by omega]; rfl, bfrom hb0 hb1⟩

set_option maxHeartbeats 1000000 in
theorem offParts_any (q : Int) (b off n cap : Nat) (ws : List Int) (w : World) (hn : n < 10) (hok : InK 0 1000 ws n) (hsl : Sl w b off n ws) :
    Calls Try.prog 74 #[.agg #[.int .i64 q, .slice (some ⟨b, off, none⟩) n cap]] w fun e w' => e = .returned (.int .i64 ((fact n : Int) * sumK ws n)) ∧ Below w.heap.size w w' := by
  have h4 := fact_le (n := n) (by omega)
  have h5 := sumK_bd hok
  have hx := Box.new w (.int .i64 q) (.slice (some ⟨b, off, none⟩) n cap)
  have hb0 := below1 w (.cells #[.int .i64 q, .slice (some ⟨b, off, none⟩) n cap] 29)
  have HSL := Lib.hid hsl
  have HOK := Lib.hid hok
  have HW := Lib.hid (show IntKind.i64.wrap ((fact n : Int) * sumK ws n) = (fact n : Int) * sumK ws n from by
    have h6 := Int.mul_le_mul (show (fact n : Int) ≤ 362880 by omega) (show sumK ws n ≤ 9000 by omega) h5.1 (by omega)
    have h7 := Int.mul_nonneg (show (0 : Int) ≤ (fact n : Int) by omega) h5.1
    exact IntWalk.i64_in _ (by omega))
  clear hok hsl h4 h5
  go_enter Try.func74, Try.ntmps74
  obtain ⟨c0, c1⟩ := hx.cells
  go_wp2_with fail
  go_region_held3 (fun w' => w'.cell? ⟨w.heap.size, 0, none⟩ = some (.int .i64 q) ∧ w'.cell? ⟨w.heap.size, 1, none⟩ = some (.slice (some ⟨b, off, none⟩) n cap))
    (first | exact ⟨c0, c1⟩ | exact hc1 | exact hc2 | go_keep)
    (first
      | (go_at_call 131; refine (allOrders_any q _ n cap _ hn).mono ?_; rintro e w1 ⟨rfl, hb1⟩; have hc1 := (hx.drew.now hb1).cells)
      | (go_at_call 66; refine (total_any q b off n cap ws _ hn HOK.out ((HSL.out.alloc _).drew.now hb1)).mono ?_; rintro e w2 ⟨rfl, hb2⟩; have hc2 := ((hx.drew.now hb1).now hb2).cells))
  go_wp2
  go_ret
  exact ⟨ret_int HW.out, bfrom ((below1 w _).drew) (bfrom hb1 hb2)⟩
end Go.Proofs.Ytlnlkfldlgchhab

namespace Go.Proofs.Ytlnlkfldlgchhab
open Go.RowKit Vo

def farF (q : Int) (ws : List Int) (n : Nat) : Nat := (farZ q ws n).toNat
def parF (ws : List Int) (n : Nat) : Nat := fact n * (sumK ws n).toNat
theorem farF_eq {q : Int} {ws : List Int} {n : Nat} (h1 : 1 ≤ n) (hn : n ≤ 9) (hok : InK 0 1000 ws n) : farZ q ws n = (farF q ws n : Nat) ∧ farF q ws n < 4611686018427387904 := by
  have hbd : ∀ k, k < n → -606800000000000000 ≤ leadZ q ws n k ∧ leadZ q ws n k ≤ 606800000000000000 := fun k hk => by
    have := lead_bd (q := q) hn hok hk
    unfold leadZ; omega
  have h2 := minZ_bd hbd (by omega) n (Nat.le_refl _)
  have h3 := maxZ_bd hbd (by omega) n (Nat.le_refl _)
  have h4 : minZ (leadZ q ws n) n ≤ maxZ (leadZ q ws n) n := by
    have : ∀ k, minZ (leadZ q ws n) k ≤ maxZ (leadZ q ws n) k := by
      intro k
      induction k with
      | zero => simp [minZ, maxZ]
      | succ k ih => simp only [minZ, maxZ]; omega
    exact this n
  unfold farF farZ
  omega
theorem parF_eq {ws : List Int} {n : Nat} (hn : n ≤ 9) (hok : InK 0 1000 ws n) : (fact n : Int) * sumK ws n = (parF ws n : Nat) ∧ parF ws n < 4611686018427387904 := by
  have h4 := fact_le hn
  have h5 := sumK_bd hok
  obtain ⟨t, ht⟩ : ∃ t : Nat, sumK ws n = t := ⟨(sumK ws n).toNat, by omega⟩
  unfold parF
  rw [ht, Int.toNat_natCast]
  refine ⟨by simp, ?_⟩
  have h6 : t ≤ 9000 := by omega
  have := Nat.mul_le_mul h4 h6
  omega
theorem farthestOffN_any (q : Int) (b off n cap : Nat) (ws : List Int) (w : World) (h1 : 1 ≤ n) (hn : n < 10) (hok : InK 0 1000 ws n) (hsl : Sl w b off n ws) :
    Calls Try.prog 73 #[.agg #[.int .i64 q, .slice (some ⟨b, off, none⟩) n cap]] w fun e w' => e = .returned (.int .i64 (farF q ws n : Nat)) ∧ Below w.heap.size w w' :=
  (farthestOff_any q b off n cap ws w h1 hn hok hsl).mono fun e w' h => ⟨by rw [← (farF_eq h1 (by omega) hok).1]; exact h.1, h.2⟩
theorem offPartsN_any (q : Int) (b off n cap : Nat) (ws : List Int) (w : World) (hn : n < 10) (hok : InK 0 1000 ws n) (hsl : Sl w b off n ws) :
    Calls Try.prog 74 #[.agg #[.int .i64 q, .slice (some ⟨b, off, none⟩) n cap]] w fun e w' => e = .returned (.int .i64 (parF ws n : Nat)) ∧ Below w.heap.size w w' :=
  (offParts_any q b off n cap ws w hn hok hsl).mono fun e w' h => ⟨by rw [← (parF_eq (by omega) hok).1]; exact h.1, h.2⟩
theorem frozenY {t : TypeId} {w : World} {g : Nat} {u v : Value} (h : BoxT t w g u v) : w.frozen? ⟨g, 0, none⟩ = false ∧ w.frozen? ⟨g, 1, none⟩ = false := by
  unfold BoxT at h; exact ⟨by simp [World.frozen?, h], by simp [World.frozen?, h]⟩
theorem box_putY {t : TypeId} {w : World} {g : Nat} {u v : Value} (h : BoxT t w g u v) (a b : Value) : BoxT t ((w.setCell ⟨g, 0, none⟩ a).setCell ⟨g, 1, none⟩ b) g a b := by
  unfold BoxT at *
  simp [World.setCell, Array.getElem?_modify, h]

def offX0 (q : Int) (ws : List Int) (n : Nat) : Nat := farF q ws n / Nat.gcd (farF q ws n) (parF ws n)
def offY0 (q : Int) (ws : List Int) (n : Nat) : Nat := parF ws n / Nat.gcd (farF q ws n) (parF ws n)
def offOk (q : Int) (ws : List Int) (n : Nat) : Bool := scanB q ws n && sgB (offX0 q ws n) (offY0 q ws n)
def offX (q : Int) (ws : List Int) (n : Nat) : Int := if offOk q ws n then offX0 q ws n else 0
def offY (q : Int) (ws : List Int) (n : Nat) : Int := if offOk q ws n then offY0 q ws n else 0

set_option maxRecDepth 20000 in
set_option maxHeartbeats 8000000 in
theorem farthest_any (q : Int) (A : Option Addr) (n cap : Nat) (ws : List Int) (w : World) (hm : n ≤ 9223372036854775807) (hk : Known w A n ws) :
    Calls Try.prog 38 #[.agg #[.int .i64 q, .slice A n cap]] w fun e w' => e = .returned (.tuple #[.agg #[.int .i64 (offX q ws n), .int .i64 (offY q ws n)], .bool (offOk q ws n)]) ∧ Below w.heap.size w w' := by
  have HK := Lib.hid hk
  clear hk
  have hb0 : Below w.heap.size w ((w.alloc (.cells #[.int .i64 q, .slice A n cap] 29)).alloc (.cells #[.int .i64 0, .int .i64 0] 45)) := (below1 w _).alloc (by simp) _
  have hx := (Box.new w (.int .i64 q) (.slice A n cap)).alloc (.cells #[.int .i64 0, .int .i64 0] 45)
  have hr := BoxT.new 45 (w.alloc (.cells #[.int .i64 q, .slice A n cap] 29)) (.int .i64 0) (.int .i64 0)
  simp only [World.size_alloc] at hr
  cases hsc : scanB q ws n with
  | false =>
    have HS := Lib.hid hsc
    have HO := Lib.hid (show offOk q ws n = false from by unfold offOk; rw [hsc]; rfl)
    clear hsc
    go_enter Try.func38, Try.ntmps38
    obtain ⟨a0, a1⟩ := hx.cells
    go_wp2_with fail
    refine (isScanned_any q _ n cap ws _ hm (HK.out.now hb0)).mono ?_
    rintro e w1 ⟨rfl, hb1⟩
    rw [HS.out]
    have hr1 := hr.now hb1
    obtain ⟨d0, d1⟩ := hr1.cells
    obtain ⟨f0, f1⟩ := frozenY hr1
    have g1 := bfrom hb0 hb1
    go_wp2
    refine bodyPost_ret (v := .tuple #[.agg #[.int .i64 0, .int .i64 0], .bool false]) (by simp [results, Try.results38, go_sem, d0, d1]) rfl ?_
    unfold offX offY
    rw [HO.out]
    exact ⟨rfl, (g1.setCell (by simp) _).setCell (by simp) _⟩
  | true =>
    obtain ⟨hg, hs60⟩ := scanB_parts hsc
    have HS := Lib.hid hsc
    obtain ⟨b, off, rfl, hsl⟩ := HK.out.get hg.lo
    have HOK := Lib.hid hg.ok
    have h1 := hg.lo
    have hn : n < 10 := by have := hg.hi; omega
    have HF1 := Lib.hid (farF_eq (q := q) h1 (by omega) hg.ok)
    have HD1 := Lib.hid (parF_eq (n := n) (by omega) hg.ok)
    have hDp : 0 < parF ws n := by
      have := fact_pos n; have h2 := hg.q1; have h3 := hg.q2
      unfold parF; exact Nat.mul_pos this (by omega)
    have HO := Lib.hid (show offOk q ws n = sgB (offX0 q ws n) (offY0 q ws n) from by unfold offOk; rw [hsc, Bool.true_and])
    have HX0 := Lib.hid (show offX0 q ws n = farF q ws n / Nat.gcd (farF q ws n) (parF ws n) from rfl)
    have HY0 := Lib.hid (show offY0 q ws n = parF ws n / Nat.gcd (farF q ws n) (parF ws n) from rfl)
    have HSL := Lib.hid hsl
    obtain ⟨F, hF⟩ : ∃ F, F = farF q ws n := ⟨_, rfl⟩
    obtain ⟨D, hD0⟩ : ∃ D, D = parF ws n := ⟨_, rfl⟩
    have hF1 : F < 4611686018427387904 := by rw [hF]; exact HF1.out.2
    have hD1 : D < 4611686018427387904 := by rw [hD0]; exact HD1.out.2
    have hD : 0 < D := by rw [hD0]; exact hDp
    have HF := Lib.hid hF
    have HDD := Lib.hid hD0
    clear hg hs60 hsc hsl hDp hF hD0
    go_enter Try.func38, Try.ntmps38
    obtain ⟨a0, a1⟩ := hx.cells
    go_wp2_with fail
    refine (isScanned_any q _ n cap ws _ hm (HK.out.now hb0)).mono ?_
    rintro e w1 ⟨rfl, hb1⟩
    rw [HS.out]
    have hr1 := hr.now hb1
    have hx1 := hx.now hb1
    have g1 := bfrom hb0 hb1
    have hs1 := Lib.hid (HSL.out.now g1)
    have hrl := hr1.lt
    obtain ⟨c0, c1⟩ := hx1.cells
    clear a0 a1
    go_wp2_with fail
    go_region_held3 (fun w' => w'.cell? ⟨w.heap.size, 0, none⟩ = some (.int .i64 q) ∧ w'.cell? ⟨w.heap.size, 1, none⟩ = some (.slice (some ⟨b, off, none⟩) n cap))
      (first | exact ⟨c0, c1⟩ | exact ⟨k20, k21⟩ | exact ⟨k30, k31⟩ | exact ⟨k40, k41⟩ | exact (hx1.drew.alloc _).cells | exact (hx2.alloc _).cells | exact (hx3.alloc _).cells | exact (hx4.alloc _).cells | exact ((hx4.far (p := ⟨w3.heap.size, 0, none⟩) (show w.heap.size ≠ w3.heap.size from Nat.ne_of_lt hx3.lt) _).far (p := ⟨w3.heap.size, 1, none⟩) (show w.heap.size ≠ w3.heap.size from Nat.ne_of_lt hx3.lt) _).cells | exact ((hx4.far (p := ⟨w2.heap.size, 0, none⟩) (show w.heap.size ≠ w2.heap.size from Nat.ne_of_lt hx2.lt) _).far (p := ⟨w2.heap.size, 1, none⟩) (show w.heap.size ≠ w2.heap.size from Nat.ne_of_lt hx2.lt) _).cells | exact ((hx4.far (p := ⟨w1.heap.size, 0, none⟩) (show w.heap.size ≠ w1.heap.size from Nat.ne_of_lt hx1.lt) _).far (p := ⟨w1.heap.size, 1, none⟩) (show w.heap.size ≠ w1.heap.size from Nat.ne_of_lt hx1.lt) _).cells | go_keep)
      (first
        | (go_at_call 73; refine (farthestOffN_any q b off n cap ws w1.drew h1 hn HOK.out (hs1.out.drew)).mono ?_; rintro e w2 ⟨rfl, hb2⟩; rw [← HF.out]; have hx2 := (hx1.drew).now hb2; have hr2 := (hr1.drew).now hb2; have hs2 := Lib.hid ((hs1.out.drew).now hb2); have g2 := bfrom (g1.drew) hb2; have hn2 : True := trivial; obtain ⟨k20, k21⟩ := hx2.cells)
        | (go_at_call 73; refine (farthestOffN_any q b off n cap ws (w1.drew.alloc (.cells #[.int .i64 0, .int .i64 0] 45)) h1 hn HOK.out ((hs1.out.drew).alloc (.cells #[.int .i64 0, .int .i64 0] 45))).mono ?_; rintro e w2 ⟨rfl, hb2⟩; rw [← HF.out]; have hx2 := ((hx1.drew).alloc (.cells #[.int .i64 0, .int .i64 0] 45)).now hb2; have hr2 := ((hr1.drew).alloc (.cells #[.int .i64 0, .int .i64 0] 45)).now hb2; have hs2 := Lib.hid (((hs1.out.drew).alloc (.cells #[.int .i64 0, .int .i64 0] 45)).now hb2); have g2 := bfrom ((g1.drew).alloc g1.drew.size (.cells #[.int .i64 0, .int .i64 0] 45)) hb2; have hn2 : BoxT 45 w2 w1.heap.size (.int .i64 0) (.int .i64 0) := (BoxT.new 45 w1.drew (.int .i64 0) (.int .i64 0)).now hb2; obtain ⟨k20, k21⟩ := hx2.cells)
        | (go_at_call 74; refine (offPartsN_any q b off n cap ws w2 hn HOK.out (hs2.out)).mono ?_; rintro e w3 ⟨rfl, hb3⟩; rw [← HDD.out]; have hx3 := (hx2).now hb3; have hr3 := (hr2).now hb3; have hs3 := Lib.hid ((hs2.out).now hb3); have g3 := bfrom (g2) hb3; (first | have hn3 := hn2.now hb3 | have hn3 : True := trivial); obtain ⟨k30, k31⟩ := hx3.cells)
        | (go_at_call 74; refine (offPartsN_any q b off n cap ws (w2.alloc (.cells #[.int .i64 0, .int .i64 0] 45)) hn HOK.out ((hs2.out).alloc (.cells #[.int .i64 0, .int .i64 0] 45))).mono ?_; rintro e w3 ⟨rfl, hb3⟩; rw [← HDD.out]; have hx3 := ((hx2).alloc (.cells #[.int .i64 0, .int .i64 0] 45)).now hb3; have hr3 := ((hr2).alloc (.cells #[.int .i64 0, .int .i64 0] 45)).now hb3; have hs3 := Lib.hid (((hs2.out).alloc (.cells #[.int .i64 0, .int .i64 0] 45)).now hb3); have g3 := bfrom ((g2).alloc g2.size (.cells #[.int .i64 0, .int .i64 0] 45)) hb3; have hn3 := (BoxT.new 45 w2 (.int .i64 0) (.int .i64 0)).now hb3; obtain ⟨k30, k31⟩ := hx3.cells)
        | (go_at_call 72; refine (lowestTerms_any F D w3 hD hF1 hD1).mono ?_; rintro e w4 ⟨rfl, hb4⟩; have hx4 := (hx3).now hb4; have hr4 := (hr3).now hb4; have g4 := bfrom (g3) hb4; (first | have hn4 := hn3.now hb4 | have hn4 : True := trivial); obtain ⟨k40, k41⟩ := hx4.cells; (first | (obtain ⟨p0, p1⟩ := hn4.cells; obtain ⟨q0, q1⟩ := frozenY hn4) | skip))
        | (go_at_call 72; refine (lowestTerms_any F D (w3.alloc (.cells #[.int .i64 0, .int .i64 0] 45)) hD hF1 hD1).mono ?_; rintro e w4 ⟨rfl, hb4⟩; have hx4 := ((hx3).alloc (.cells #[.int .i64 0, .int .i64 0] 45)).now hb4; have hr4 := ((hr3).alloc (.cells #[.int .i64 0, .int .i64 0] 45)).now hb4; have g4 := bfrom ((g3).alloc g3.size (.cells #[.int .i64 0, .int .i64 0] 45)) hb4; have hn4 := (BoxT.new 45 w3 (.int .i64 0) (.int .i64 0)).now hb4; obtain ⟨k40, k41⟩ := hx4.cells; (first | (obtain ⟨p0, p1⟩ := hn4.cells; obtain ⟨q0, q1⟩ := frozenY hn4) | skip)))
    all_goals (first
      | (have hb9 := BoxT.new 45 w4 (.int .i64 ((F : Int) / ((Nat.gcd F D : Nat) : Int))) (.int .i64 ((D : Int) / ((Nat.gcd F D : Nat) : Int)))
         have hr9 := hr4.alloc (.cells #[(.int .i64 ((F : Int) / ((Nat.gcd F D : Nat) : Int))), (.int .i64 ((D : Int) / ((Nat.gcd F D : Nat) : Int)))] 45)
         have g9 := g4.alloc g4.size (.cells #[(.int .i64 ((F : Int) / ((Nat.gcd F D : Nat) : Int))), (.int .i64 ((D : Int) / ((Nat.gcd F D : Nat) : Int)))] 45)
         obtain ⟨W9, hW9⟩ : ∃ W9, W9 = w4.alloc (.cells #[(.int .i64 ((F : Int) / ((Nat.gcd F D : Nat) : Int))), (.int .i64 ((D : Int) / ((Nat.gcd F D : Nat) : Int)))] 45) := ⟨_, rfl⟩
         rw [← hW9] at hb9 hr9 g9 ⊢
         clear hW9
         generalize w4.heap.size = nb at hb9 ⊢)
      | (have hb9 := box_putY (show BoxT 45 w4 w3.heap.size (.int .i64 0) (.int .i64 0) from hn4) (.int .i64 ((F : Int) / ((Nat.gcd F D : Nat) : Int))) (.int .i64 ((D : Int) / ((Nat.gcd F D : Nat) : Int)))
         have hlt9 : w.heap.size + 1 < w3.heap.size := hr3.lt
         have hr9 := (hr4.far (p := ⟨w3.heap.size, 0, none⟩) (Nat.ne_of_lt hlt9) (.int .i64 ((F : Int) / ((Nat.gcd F D : Nat) : Int)))).far (p := ⟨w3.heap.size, 1, none⟩) (Nat.ne_of_lt hlt9) (.int .i64 ((D : Int) / ((Nat.gcd F D : Nat) : Int)))
         have g9 := (g4.setCell (p := ⟨w3.heap.size, 0, none⟩) (by dsimp only; omega) (.int .i64 ((F : Int) / ((Nat.gcd F D : Nat) : Int)))).setCell (p := ⟨w3.heap.size, 1, none⟩) (by dsimp only; omega) (.int .i64 ((D : Int) / ((Nat.gcd F D : Nat) : Int)))
         obtain ⟨W9, hW9⟩ : ∃ W9, W9 = (w4.setCell ⟨w3.heap.size, 0, none⟩ (.int .i64 ((F : Int) / ((Nat.gcd F D : Nat) : Int)))).setCell ⟨w3.heap.size, 1, none⟩ (.int .i64 ((D : Int) / ((Nat.gcd F D : Nat) : Int))) := ⟨_, rfl⟩
         rw [← hW9] at hb9 hr9 g9 ⊢
         clear hW9 hlt9
         generalize w3.heap.size = nb at hb9 ⊢)
      | (have hb9 := box_putY (show BoxT 45 w4 w2.heap.size (.int .i64 0) (.int .i64 0) from hn4) (.int .i64 ((F : Int) / ((Nat.gcd F D : Nat) : Int))) (.int .i64 ((D : Int) / ((Nat.gcd F D : Nat) : Int)))
         have hlt9 : w.heap.size + 1 < w2.heap.size := hr2.lt
         have hr9 := (hr4.far (p := ⟨w2.heap.size, 0, none⟩) (Nat.ne_of_lt hlt9) (.int .i64 ((F : Int) / ((Nat.gcd F D : Nat) : Int)))).far (p := ⟨w2.heap.size, 1, none⟩) (Nat.ne_of_lt hlt9) (.int .i64 ((D : Int) / ((Nat.gcd F D : Nat) : Int)))
         have g9 := (g4.setCell (p := ⟨w2.heap.size, 0, none⟩) (by dsimp only; omega) (.int .i64 ((F : Int) / ((Nat.gcd F D : Nat) : Int)))).setCell (p := ⟨w2.heap.size, 1, none⟩) (by dsimp only; omega) (.int .i64 ((D : Int) / ((Nat.gcd F D : Nat) : Int)))
         obtain ⟨W9, hW9⟩ : ∃ W9, W9 = (w4.setCell ⟨w2.heap.size, 0, none⟩ (.int .i64 ((F : Int) / ((Nat.gcd F D : Nat) : Int)))).setCell ⟨w2.heap.size, 1, none⟩ (.int .i64 ((D : Int) / ((Nat.gcd F D : Nat) : Int))) := ⟨_, rfl⟩
         rw [← hW9] at hb9 hr9 g9 ⊢
         clear hW9 hlt9
         generalize w2.heap.size = nb at hb9 ⊢)
      | (have hb9 := box_putY (show BoxT 45 w4 w1.heap.size (.int .i64 0) (.int .i64 0) from hn4) (.int .i64 ((F : Int) / ((Nat.gcd F D : Nat) : Int))) (.int .i64 ((D : Int) / ((Nat.gcd F D : Nat) : Int)))
         have hlt9 : w.heap.size + 1 < w1.heap.size := hr1.lt
         have hr9 := (hr4.far (p := ⟨w1.heap.size, 0, none⟩) (Nat.ne_of_lt hlt9) (.int .i64 ((F : Int) / ((Nat.gcd F D : Nat) : Int)))).far (p := ⟨w1.heap.size, 1, none⟩) (Nat.ne_of_lt hlt9) (.int .i64 ((D : Int) / ((Nat.gcd F D : Nat) : Int)))
         have g9 := (g4.setCell (p := ⟨w1.heap.size, 0, none⟩) (by dsimp only; omega) (.int .i64 ((F : Int) / ((Nat.gcd F D : Nat) : Int)))).setCell (p := ⟨w1.heap.size, 1, none⟩) (by dsimp only; omega) (.int .i64 ((D : Int) / ((Nat.gcd F D : Nat) : Int)))
         obtain ⟨W9, hW9⟩ : ∃ W9, W9 = (w4.setCell ⟨w1.heap.size, 0, none⟩ (.int .i64 ((F : Int) / ((Nat.gcd F D : Nat) : Int)))).setCell ⟨w1.heap.size, 1, none⟩ (.int .i64 ((D : Int) / ((Nat.gcd F D : Nat) : Int))) := ⟨_, rfl⟩
         rw [← hW9] at hb9 hr9 g9 ⊢
         clear hW9 hlt9
         generalize w1.heap.size = nb at hb9 ⊢))
    all_goals
      have HR9 := Lib.hid hr9
      have HPX := Lib.hid (show (F : Int) / ((Nat.gcd F D : Nat) : Int) = (offX0 q ws n : Nat) from by rw [HX0.out, ← HF.out, ← HDD.out]; simp)
      have HRY := Lib.hid (show (D : Int) / ((Nat.gcd F D : Nat) : Int) = (offY0 q ws n : Nat) from by rw [HY0.out, ← HF.out, ← HDD.out]; simp)
      rw [HPX.out, HRY.out] at hb9 ⊢
      obtain ⟨X, hX⟩ : ∃ X : Int, X = (offX0 q ws n : Nat) := ⟨_, rfl⟩
      obtain ⟨Y, hY⟩ : ∃ Y : Int, Y = (offY0 q ws n : Nat) := ⟨_, rfl⟩
      rw [← hX, ← hY] at hb9 ⊢
      have HOK9 := Lib.hid (show offOk q ws n = sgB X Y from by rw [HO.out, hX, hY])
      have HX9 := Lib.hid (show offX q ws n = if offOk q ws n then X else 0 from by rw [hX]; rfl)
      have HY9 := Lib.hid (show offY q ws n = if offOk q ws n then Y else 0 from by rw [hY]; rfl)
      have HB9 := Lib.hid hb9
      clear hX hY hb9 c0 c1
      obtain ⟨e0, e1⟩ := HB9.out.cells
      cases hsg : sgB X Y with
      | true =>
        rw [hsg] at HOK9
        have HSG := Lib.hid hsg
        clear hsg
        go_wp2_with (go_at_call 75; refine (isShare_any X Y _).mono ?_; rintro e w8 ⟨rfl, hb8⟩; rw [HSG.out]; obtain ⟨q5, q6⟩ := (HB9.out.now hb8).cells; obtain ⟨d0, d1⟩ := (HR9.out.now hb8).cells; obtain ⟨f0, f1⟩ := frozenY (HR9.out.now hb8))
        have g8 := bfrom g9 hb8
        refine bodyPost_ret (v := .tuple #[.agg #[.int .i64 X, .int .i64 Y], .bool true]) (by simp [results, Try.results38, go_sem, d0, d1]) rfl ?_
        rw [HX9.out, HY9.out, HOK9.out]
        exact ⟨rfl, (g8.setCell (by simp) _).setCell (by simp) _⟩
      | false =>
        rw [hsg] at HOK9
        have HSG := Lib.hid hsg
        clear hsg
        go_wp2_with (go_at_call 75; refine (isShare_any X Y _).mono ?_; rintro e w8 ⟨rfl, hb8⟩; rw [HSG.out]; obtain ⟨d0, d1⟩ := (HR9.out.now hb8).cells; obtain ⟨f0, f1⟩ := frozenY (HR9.out.now hb8))
        have g8 := bfrom g9 hb8
        refine bodyPost_ret (v := .tuple #[.agg #[.int .i64 0, .int .i64 0], .bool false]) (by simp [results, Try.results38, go_sem, d0, d1]) rfl ?_
        rw [HX9.out, HY9.out, HOK9.out]
        exact ⟨rfl, (g8.setCell (by simp) _).setCell (by simp) _⟩
end Go.Proofs.Ytlnlkfldlgchhab
