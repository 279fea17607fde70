/- Contracts of the least quota at a border; a committee as a rule; the program's SpareOf. -/
import Derived.Test.YtipplbcjdcdapabGreatWg
import Derived.OwnWalk
namespace Go.Proofs.YtipplbcjdcdapabGreat
open Go.RowKit Vo


theorem comRule (q : Int) (b off n cap : Nat) (ws : List Int) (w : World) (hn : n < 10) (hok : InK 0 1000 ws n) (hsl : Sl w b off n ws) :
    Rule (winB q ws n) n 58 (.agg #[.int .i64 q, .slice (some ⟨b, off, none⟩) n cap]) 114 115 w :=
  ⟨⟨enters_of Tryz.func115 (by kernel_rfl) rfl, fun _ => by kernel_rfl, fun W s hs hb => wins_any q b off n cap ws s W hn (by have := pow_lt (n := n) (by omega); omega) hok (hsl.now hb)⟩,
    enters_of Tryz.func114 (by kernel_rfl) rfl, fun _ => by kernel_rfl, fun W _ => everybody_any _ _ n cap W hn⟩

theorem winL_512 (p : Nat → Bool) (n : Nat) (hn : n ≤ 9) : (winL p n).length ≤ 512 ∧ ∀ j, j < (winL p n).length → (winL p n).getD j 0 < 512 := filt_get hn
theorem loseL_512 (p : Nat → Bool) (n : Nat) (hn : n ≤ 9) : (loseL p n).length ≤ 512 ∧ ∀ j, j < (loseL p n).length → (loseL p n).getD j 0 < 512 := filt_get hn

set_option maxRecDepth 20000 in
set_option maxHeartbeats 1000000 in
theorem quotaFor_any (p : Nat → Bool) (b off n cap : Nat) (ws : List Int) (A B : Option Addr) (c1 c2 : Nat) (w : World) (hn : n < 10) (hok : InK 0 1000 ws n) (hsl : Sl w b off n ws) (h1 : 1 ≤ (winL p n).length)
    (hA : SetsIn w A (winL p n)) (hc : (winL p n).length ≤ c1 ∧ c1 ≤ maxLen) (hB : SetsIn w B (loseL p n)) :
    Calls Tryz.prog 20 #[.slice (some ⟨b, off, none⟩) n cap, .agg #[.slice A (winL p n).length c1, .slice B (loseL p n).length c2]] w fun e w' =>
      e = .returned (.tuple #[.int .i64 (quoQ (lowS p ws n) (highS p ws n)), .bool (quoOk (lowS p ws n) (highS p ws n))]) ∧ Below w.heap.size w w' := by
  have HOK := Lib.hid hok
  have HA := Lib.hid hA
  have HB := Lib.hid hB
  have HSL := Lib.hid hsl
  have hw5 := winL_512 p n (by omega)
  have hl5 := loseL_512 p n (by omega)
  have HBD := Lib.hid (highK_bd hok (by omega) (loseL p n) (loseL p n).length)
  have hb0 := below1 w (.cells #[.slice A (winL p n).length c1, .slice B (loseL p n).length c2] 51)
  have hx := BoxT.new 51 w (.slice A (winL p n).length c1) (.slice B (loseL p n).length c2)
  obtain ⟨c0, d0⟩ := hx.cells
  clear hok hA hB hsl
  have HLE : lowS p ws n ≤ highS p ws n ∨ ¬ lowS p ws n ≤ highS p ws n := Classical.em _
  rcases HLE with hle | hle
  all_goals
    first
      | (have HQ := Lib.hid (show quoQ (lowS p ws n) (highS p ws n) = 0 from if_pos hle); have HK := Lib.hid (show quoOk (lowS p ws n) (highS p ws n) = false from by unfold quoOk; rw [decide_eq_true hle]; rfl))
      | (have HQ := Lib.hid (show quoQ (lowS p ws n) (highS p ws n) = highS p ws n + 1 from if_neg hle); have HK := Lib.hid (show quoOk (lowS p ws n) (highS p ws n) = true from by unfold quoOk; rw [decide_eq_false hle]; rfl))
    rw [HQ.out, HK.out]
    obtain ⟨lo, hlo⟩ : ∃ lo, lo = lowS p ws n := ⟨_, rfl⟩
    obtain ⟨hi, hhi⟩ : ∃ hi, hi = highS p ws n := ⟨_, rfl⟩
    have HLO := Lib.hid (show lowK ws n (winL p n) ((winL p n).length - 1) = lo from hlo.symm)
    have HHI := Lib.hid (show highK ws n (loseL p n) (loseL p n).length = hi from hhi.symm)
    rw [HHI.out] at HBD
    have hbd := HBD.out
    rw [← hlo, ← hhi] at hle
    try rw [← hhi]
    clear HQ HK hlo hhi
    go_enter Tryz.func20, Tryz.ntmps20
    go_wp2_with (first
      | (go_at_call 34; refine (greatestOf_any b off n cap ws B c2 (loseL p n) _ hn HOK.out (HSL.out.now hb0) hl5.1 hl5.2 (HB.out.now hb0)).mono ?_; rintro e w' ⟨rfl, rfl⟩; rw [HHI.out])
      | (go_at_call 35; refine (lowOf_any b off n cap ws A c1 (winL p n) _ hn HOK.out (HSL.out.now hb0) h1 hw5.1 hc.1 hc.2 hw5.2 (HA.out.now hb0)).mono ?_; rintro e w' ⟨rfl, rfl⟩; rw [HLO.out]))
    go_ret2
    first | exact ⟨rfl, hb0⟩ | exact ⟨by rw [IntWalk.i64_in (hi + 1) (by omega)], hb0⟩

def spareX (q : Int) (ws : List Int) (n : Nat) : Int := if goodB q ws n then lowS (winB q ws n) ws n - q else 0
def spareY (q : Int) (ws : List Int) (n : Nat) : Int := if goodB q ws n then q - highS (winB q ws n) ws n else 0
theorem spareX_yes {q ws n} (h : goodB q ws n = true) : spareX q ws n = lowS (winB q ws n) ws n - q := if_pos h
theorem spareX_no {q ws n} (h : goodB q ws n = false) : spareX q ws n = 0 := if_neg (by rw [h]; simp)
theorem spareY_yes {q ws n} (h : goodB q ws n = true) : spareY q ws n = q - highS (winB q ws n) ws n := if_pos h
theorem spareY_no {q ws n} (h : goodB q ws n = false) : spareY q ws n = 0 := if_neg (by rw [h]; simp)
theorem win_full {q : Int} {ws : List Int} {n : Nat} (hg : Vo.Good q ws n) : winB q ws n (2^n - 1) = true := by unfold winB; rw [hg.all]; exact decide_eq_true hg.q2
theorem win_nil {q : Int} {ws : List Int} {n : Nat} (hg : Vo.Good q ws n) : winB q ws n 0 = false := by unfold winB; rw [wtK_nil]; exact decide_eq_false (by have := hg.q1; omega)
end Go.Proofs.YtipplbcjdcdapabGreat
