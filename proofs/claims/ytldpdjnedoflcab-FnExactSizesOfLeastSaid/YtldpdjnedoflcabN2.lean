/- Contracts of greatest common divisors, lowest terms and factorials, the program's and the model's. -/
import Derived.Test.YtldpdjnedoflcabBase
import Derived.Test.YtldpdjnedoflcabN1
import Derived.Lib.Hide
import Derived.Outline
namespace Go.Proofs.Ytldpdjnedoflcab
open Go.RowKit Vo

theorem rem_nat (a b : Nat) : Int.tmod (a : Int) (b : Int) = ((a % b : Nat) : Int) := by
  rw [Int.tmod_eq_emod_of_nonneg (Int.natCast_nonneg a)]; simp
theorem quo_nat (a b : Nat) : Int.tdiv (a : Int) (b : Int) = ((a / b : Nat) : Int) := by
  rw [Int.tdiv_eq_ediv_of_nonneg (Int.natCast_nonneg a)]; simp

theorem frozen2 {t : TypeId} {w : World} {g : Nat} {u v : Value} (h : BoxT t w g u v) : w.frozen? ⟨g, 0, none⟩ = false ∧ w.frozen? ⟨g, 1, none⟩ = false := by
  unfold BoxT at h; exact ⟨by simp [World.frozen?, h], by simp [World.frozen?, h]⟩


end Go.Proofs.Ytldpdjnedoflcab
