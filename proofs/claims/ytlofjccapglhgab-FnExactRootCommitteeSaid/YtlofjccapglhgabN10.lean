/- Contracts of the model's functions that answer with shares of each member. -/
import Derived.Test.YtlofjccapglhgabN9
import Derived.Test.YtlofjccapglhgabN7
import Derived.Outline
namespace Go.Proofs.Ytlofjccapglhgab
open Go.RowKit Vo

theorem cnt_not (p : Nat → Bool) (N : Nat) : cnt (fun s => !p s) N + cnt p N = N := by
  induction N with
  | zero => rfl
  | succ N ih => 
    simp only [cnt]
    by_cases h : p N = true
    · simp [h]; omega
    · simp at h; simp [h]; omega

end Go.Proofs.Ytlofjccapglhgab
