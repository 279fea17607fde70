/- Contracts of the least quota at a border; a committee as a rule; the program's SpareOf. -/
import Derived.Test.YtipplbcjdcdapabWg
import Derived.OwnWalk
namespace Go.Proofs.Ytipplbcjdcdapab
open Go.RowKit Vo


theorem comRule (q : Int) (b off n cap : Nat) (ws : List Int) (w : World) (hn : n < 10) (hok : InK 0 1000 ws n) (hsl : Sl w b off n ws) :
    Rule (winB q ws n) n 41 (.agg #[.int .i64 q, .slice (some ⟨b, off, none⟩) n cap]) 69 68 w :=
  ⟨⟨enters_of Try.func68 (by kernel_rfl) rfl, fun _ => by kernel_rfl, fun W s hs hb => wins_any q b off n cap ws s W hn (by have := pow_lt (n := n) (by omega); omega) hok (hsl.now hb)⟩,
    enters_of Try.func69 (by kernel_rfl) rfl, fun _ => by kernel_rfl, fun W _ => everybody_any _ _ n cap W hn⟩

theorem winL_512 (p : Nat → Bool) (n : Nat) (hn : n ≤ 9) : (winL p n).length ≤ 512 ∧ ∀ j, j < (winL p n).length → (winL p n).getD j 0 < 512 := filt_get hn
theorem loseL_512 (p : Nat → Bool) (n : Nat) (hn : n ≤ 9) : (loseL p n).length ≤ 512 ∧ ∀ j, j < (loseL p n).length → (loseL p n).getD j 0 < 512 := filt_get hn

def spareX (q : Int) (ws : List Int) (n : Nat) : Int := if goodB q ws n then lowS (winB q ws n) ws n - q else 0
def spareY (q : Int) (ws : List Int) (n : Nat) : Int := if goodB q ws n then q - highS (winB q ws n) ws n else 0
theorem spareX_yes {q ws n} (h : goodB q ws n = true) : spareX q ws n = lowS (winB q ws n) ws n - q := if_pos h
theorem spareX_no {q ws n} (h : goodB q ws n = false) : spareX q ws n = 0 := if_neg (by rw [h]; simp)
theorem spareY_yes {q ws n} (h : goodB q ws n = true) : spareY q ws n = q - highS (winB q ws n) ws n := if_pos h
theorem spareY_no {q ws n} (h : goodB q ws n = false) : spareY q ws n = 0 := if_neg (by rw [h]; simp)
theorem win_full {q : Int} {ws : List Int} {n : Nat} (hg : Vo.Good q ws n) : winB q ws n (2^n - 1) = true := by unfold winB; rw [hg.all]; exact decide_eq_true hg.q2
theorem win_nil {q : Int} {ws : List Int} {n : Nat} (hg : Vo.Good q ws n) : winB q ws n 0 = false := by unfold winB; rw [wtK_nil]; exact decide_eq_false (by have := hg.q1; omega)
end Go.Proofs.Ytipplbcjdcdapab
