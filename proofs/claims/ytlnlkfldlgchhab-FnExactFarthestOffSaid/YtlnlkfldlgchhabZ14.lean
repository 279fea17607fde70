/- Contracts of the model's powers by orders as shares, and of its PowerSigns. -/
import Derived.Test.YtlnlkfldlgchhabZ9
import Derived.Test.YtlnlkfldlgchhabZ3
import Derived.Test.YtlnlkfldlgchhabN7
import Derived.Deep.AppendLies
import Derived.Outline
import Derived.Test.YtlnlkfldlgchhabZ12
import Derived.Test.YtlnlkfldlgchhabQ0
namespace Go.Proofs.Ytlnlkfldlgchhab
open Go.RowKit Vo

theorem leads_lists (q : Int) (A : Option Addr) (n cap : Nat) (ws : List Int) (w : World) (hk : Known w A n ws) (hg : Vo.Good q ws n) :
    Lists (perZ (leadZ q ws n) n) 128 (.agg #[.int .i64 q, .slice A n cap]) w := by
  obtain ⟨b, off, rfl, hsl⟩ := hk.get hg.lo
  exact ⟨enters_of Try.func128 (by kernel_rfl) rfl, fun W hb => powerLeads_any q b off n cap ws W (by have := hg.hi; omega) hg.ok (hsl.now hb)⟩

set_option maxHeartbeats 1000000 in
theorem compare0_any (x : Int) (w : World) : Calls Try.prog 95 #[.int .i64 x, .int .i64 0] w fun e w' => e = .returned (.int .i64 (sgn x)) ∧ w = w' := by
  rcases Int.lt_trichotomy x 0 with h | h | h
  · have HV := Lib.hid (sgn_neg h)
    go_enter Try.func95, Try.ntmps95
    go_wp2
    go_ret
    exact ⟨by rw [HV.out]; rfl, rfl⟩
  · subst h
    go_enter Try.func95, Try.ntmps95
    go_wp2
    go_ret
    exact ⟨rfl, rfl⟩
  · have HV := Lib.hid (sgn_pos h)
    have hd : decide (x < 0) = false := by simp; omega
    go_enter Try.func95, Try.ntmps95
    go_wp2
    go_ret
    exact ⟨by rw [HV.out]; rfl, rfl⟩

def signsL (q : Int) (ws : List Int) (n : Nat) : List Int := okL (goodB q ws n) (perZ (fun k => sgn (leadZ q ws n k)) n)
theorem signsL_len (q : Int) (ws : List Int) (n : Nat) : (signsL q ws n).length ≤ 1048576 := by
  by_cases hg : Vo.Good q ws n
  · exact okL_len (by rw [perZ_len]; have := hg.hi; omega)
  · unfold signsL; rw [okL_no (goodB_false hg)]; simp

end Go.Proofs.Ytlnlkfldlgchhab

namespace Go.Proofs.Ytlnlkfldlgchhab
open Go.RowKit Vo

set_option maxRecDepth 20000 in
set_option maxHeartbeats 4000000 in
theorem shPowers_any (q : Int) (b off n cap : Nat) (ws : List Int) (w : World) (h1 : 1 ≤ n) (hn : n < 10) (hok : InK 0 1000 ws n) (hsl : Sl w b off n ws) :
    Calls Try.prog 124 #[.agg #[.int .i64 q, .slice (some ⟨b, off, none⟩) n cap]] w fun e w' =>
      ∃ A cp, e = .returned (.slice A n cp) ∧ w'.ownsRow w.heap.size 45 2 (.slice A n cp) n (shV (shL (pivotN q ws n) (fact n) n)) ∧ Below w.heap.size w w' := by
  obtain ⟨i0, hi0, hz0, hz1, hz2⟩ := info_parts infoShare
  have hb0 := below1 w (.cells #[.int .i64 q, .slice (some ⟨b, off, none⟩) n cap] 29)
  have HSL := Lib.hid (hsl.now hb0)
  have HOK := Lib.hid hok
  have hx := Box.new w (.int .i64 q) (.slice (some ⟨b, off, none⟩) n cap)
  have hD0 := fact_pos n
  have hD1 := fact_le (n := n) (by omega)
  have HPT := Lib.hid (fun W => pwTimes_any n W (by omega))
  have hfb : ∀ j, pivotN q ws n j ≤ 131681894400 * 512 := fun j => pivN_le (by omega) (pow_lt (by omega))
  have HPV := Lib.hid (show ∀ (g cap2 : Nat) (W : World), WinsIn (winB q ws n) n g W → Calls Try.prog 142 #[.slice (some ⟨g, 0, none⟩) (2^n : Nat) cap2, .int .i64 n] W fun e w' => IntsAt (perL (pivotN q ws n) n) W w' e from fun g cap2 W h => pwPivots_any (winB q ws n) n g cap2 W hn h)
  obtain ⟨f, hf⟩ : ∃ f, f = pivotN q ws n := ⟨_, rfl⟩
  rw [← hf] at hfb HPV ⊢
  have HFF := Lib.hid hfb
  obtain ⟨D, hD⟩ : ∃ D, D = fact n := ⟨_, rfl⟩
  rw [← hD] at hD0 hD1 HPT ⊢
  clear hok hsl hf hfb hD
  go_enter Try.func124, Try.ntmps124
  obtain ⟨c0, c1⟩ := hx.cells
  go_wp2_with (first
    | (go_at_call 59; refine (voWins_any q b off n cap ws _ hn HOK.out HSL.out).mono ?_; rintro e w2 ⟨g, cap2, rfl, hg, hown, hb2⟩; have HO := Lib.hid hown; clear hown)
    | (go_at_call 142; refine (HPV.out g cap2 _ HO.out).mono ?_; rintro e w3 ⟨A3, cap3, rfl, hown3, hb3⟩; rw [perL_len] at hown3 ⊢))
  obtain ⟨gA, cp', hv, hgA, _, _⟩ := owns_head hown3 (by omega)
  obtain ⟨rfl, rfl⟩ : A3 = some ⟨gA, 0, none⟩ ∧ cap3 = cp' := by simpa using hv
  have hO3 : Own w3 gA 3 n (fun j => .int .i64 (f j : Nat)) := Own.of_own hown3 fun i hi => by simp [perL, hi]
  have HRD := Lib.hid (show ∀ W, Below w3.heap.size w3 W → ∀ j, j < n → W.cell? ⟨gA, j, none⟩ = some (.int .i64 (f j : Nat)) from fun W h j hj => (Own.below hO3 h hO3.lt).cell hj)
  have g3 := bfrom hb0 (bfrom hb2 hb3)
  have hz3 := g3.size
  clear hown3 hv hO3
  go_loopw [4, 6, 15] (fun v _ i wr => ∃ (j : Nat) (B : Option Addr) (cp : Nat), j ≤ n ∧ i = .int .i64 j ∧ v = .slice B j cp ∧ wr.ownsRow w3.heap.size 45 2 (.slice B j cp) j (shV (shL f D j)) ∧ Below w3.heap.size w3 wr) (fun _ _ i _ => n - (intOf i).toNat)
  case atStart => exact ⟨0, none, 0, Nat.zero_le _, rfl, rfl, World.ownsRow_nil _ _ _ _, Below.refl _ _⟩
  case round =>
    obtain ⟨j, B, cp, hj, rfl, rfl, hown, hbr⟩ := hrel
    have HO2 := Lib.hid hown
    have hszr := hbr.size
    clear hown
    by_cases hlt : j < n
    · have hcell := HRD.out wr hbr j hlt
      have HS := Lib.hid (shL_succ f D j)
      have hfj := HFF.out j
      have HLT := Lib.hid (fun W => pwShare_any (f j) D W hD0 (by omega) (by omega))
      have HSH := Lib.hid (show share1 (f j) D = (((f j / Nat.gcd (f j) D : Nat) : Int), ((D / Nat.gcd (f j) D : Nat) : Int)) from rfl)
      generalize f j / Nat.gcd (f j) D = a at *
      generalize D / Nat.gcd (f j) D = bb at *
      go_wp2_with (first
        | (go_at_call 162; refine (HPT.out _).mono ?_; rintro e w4 ⟨rfl, rfl⟩)
        | (go_at_call 52; refine (HLT.out _).mono ?_; rintro e w5 ⟨rfl, hb5⟩; have HO5 := Lib.hid (owns_now HO2.out hb5); have b5 := hbr.trans (hb5.mono (by omega)); have hsz5 := b5.size)
        | (at_builtin; refine wpList_append_lies _ rfl _ _ _ rfl w3.heap.size 45 i0 _ 2 16 Try.underlying26 hi0 hz0 hz1 hz2 rfl (by decide) (.slice B j cp) j (shV (shL f D j)) rfl (HO5.out.alloc _) ⟨w5.heap.size, 0, none⟩ 1 1 [.int .i64 a, .int .i64 bb] rfl rfl (World.news_of_block (cs := #[.int .i64 a, .int .i64 bb]) (t := 45) (fr := (0, 0)) (heap_alloc_new w5 _)) (by simp [Value.oneCell']) (by omega) (by unfold maxLen; omega) (by omega) (by simp; omega) (w5.heap.size + 1) (by simp) ?_; intro gg cap4 w6 hown6 hgrow6 hat hlt6))
      have b6 : Below w3.heap.size w3 w6 := (b5.alloc (by omega) (.cells #[.int .i64 a, .int .i64 bb] 45)).grown hgrow6 (by simp; omega) fun i hi => owns_le HO5.out hi
      go_roundw
      case rel => exact ⟨j + 1, some ⟨gg, 0, none⟩, cap4, by omega, by go_num, by simp, by rw [HS.out, shV_append, HSH.out]; simpa [shV] using hown6, b6⟩
      case measure => simp [intOf]; omega
    · obtain rfl : n = j := by omega
      go_wp2
      go_ret
      exact ⟨B, cp, rfl, owns_less HO2.out hz3, bfrom g3 hbr⟩

/-- The cells of a row of the call's own that holds shares, at all later worlds. -/
theorem shRow_reads {L : List (Int × Int)} {w : World} {base : Nat} {A : Option Addr} {n cap : Nat} (hL : L.length = n) (h : w.ownsRow base 45 2 (.slice A n cap) n (shV L)) (hn : 1 ≤ n) :
    ∃ g, A = some ⟨g, 0, none⟩ ∧ base ≤ g ∧ g < w.heap.size ∧ ∀ W, Below w.heap.size w W → ∀ j, j < n → (W.cell? ⟨g, j * 2, none⟩ = some (.int .i64 (L.getD j (0, 0)).1) ∧ W.cell? ⟨g, j * 2 + 1, none⟩ = some (.int .i64 (L.getD j (0, 0)).2)) := by
  subst hL
  obtain ⟨A', cap', hv, h2⟩ := RSh.of_own h
  injection hv with hA _ _
  subst hA
  rcases h2 with h2 | ⟨g, hA, hg, hgl, ho⟩
  · omega
  · refine ⟨g, hA, hg, hgl, fun W hW j hj => ?_⟩
    have e1 := (ho.below hW hgl).cell (i := j * 2) (by omega)
    have e2 := (ho.below hW hgl).cell (i := j * 2 + 1) (by omega)
    rw [shF_num] at e1
    rw [shF_den] at e2
    exact ⟨e1, e2⟩
theorem shL_get {f : Nat → Nat} {D n j : Nat} (h : j < n) : (shL f D n).getD j (0, 0) = share1 (f j) D := by
  simp [shL, List.getD_eq_getElem?_getD, h]

theorem cell_same {w w' : World} {g : Nat} (h : w'.heap[g]? = w.heap[g]?) (o : Nat) : w'.cell? ⟨g, o, none⟩ = w.cell? ⟨g, o, none⟩ := by simp [World.cell?, h]

end Go.Proofs.Ytlnlkfldlgchhab
