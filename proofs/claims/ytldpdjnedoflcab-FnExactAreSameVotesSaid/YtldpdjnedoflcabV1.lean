/- Contracts of AreSameVotes, the program's and the model's. -/
import Derived.Test.YtldpdjnedoflcabS3
import Derived.Deep.RegionWith
namespace Go.Proofs.Ytldpdjnedoflcab
open Go.RowKit Vo

def sameP (q : Int) (ws : List Int) (q2 : Int) (ws2 : List Int) (n : Nat) (s : Nat) : Bool := winB q ws n s == winB q2 ws2 n s
def bothB (q : Int) (ws : List Int) (n : Nat) (q2 : Int) (ws2 : List Int) (n2 : Nat) : Bool := goodB q ws n && goodB q2 ws2 n2
def votesB (q : Int) (ws : List Int) (n : Nat) (q2 : Int) (ws2 : List Int) (n2 : Nat) : Bool := bothB q ws n q2 ws2 n2 && (decide (n = n2) && allK (sameP q ws q2 ws2 n) (2^n))

theorem votesB_no1 {q ws n q2 ws2 n2} (h : bothB q ws n q2 ws2 n2 = false) : votesB q ws n q2 ws2 n2 = false := by unfold votesB; rw [h]; rfl
theorem votesB_no2 {q ws n q2 ws2 n2} (h : n ≠ n2) : votesB q ws n q2 ws2 n2 = false := by unfold votesB; rw [decide_eq_false h]; simp
theorem votesB_yes {q ws n q2 ws2} (h : bothB q ws n q2 ws2 n = true) : votesB q ws n q2 ws2 n = allK (sameP q ws q2 ws2 n) (2^n) := by unfold votesB; rw [h]; simp

end Go.Proofs.Ytldpdjnedoflcab
