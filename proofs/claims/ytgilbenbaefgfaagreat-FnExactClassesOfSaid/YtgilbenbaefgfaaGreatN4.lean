/- Contracts of the model's swings: lists of swings, their counts, pivots. -/
import Derived.Test.YtgilbenbaefgfaaGreatS3
import Derived.Test.YtgilbenbaefgfaaGreatN2
import Derived.Test.YtgilbenbaefgfaaGreatO2
import Derived.Test.YtgilbenbaefgfaaGreatP1
import Derived.Deep.AppendLies
import Derived.Outline
import Derived.Test.YtgilbenbaefgfaaGreatW5
import Derived.Test.YtgilbenbaefgfaaGreatC1
import Derived.Test.YtgilbenbaefgfaaGreatB1
import Derived.Deep.RegionWith
namespace Go.Proofs.YtgilbenbaefgfaaGreat
open Go.RowKit Vo

/-- The function value (k, first, cap), called with a member, answers a number; it writes nothing that was there. -/
structure Nums (f : Nat → Nat) (k : Nat) (first cap : Array Value) (n : Nat) (w : World) : Prop where
  enters : ∀ args W, (callFunc k args).run Tryz.prog W = .ok (.enter k args) W
  gives : ∀ (W : World) (j : Nat), j < n → Below w.heap.size w W → Calls Tryz.prog k (first.push (.int .i64 j) ++ cap) W fun e W' => e = .returned (.int .i64 (f j : Nat)) ∧ Below W.heap.size W W'
theorem Nums.now {f k first cap n} {w w' : World} (h : Nums f k first cap n w) (hb : Below w.heap.size w w') : Nums f k first cap n w' :=
  ⟨h.enters, fun W j hj hb' => h.gives W j hj (bfrom hb hb')⟩
end Go.Proofs.YtgilbenbaefgfaaGreat

namespace Go.Proofs.YtgilbenbaefgfaaGreat
open Go.RowKit Vo

/-- Block g holds who wins, of all sets. -/
abbrev WinsIn (p : Nat → Bool) (n g : Nat) (w : World) : Prop := Own w g 4 (2^n) (fun j => .bool (p j))

/-- Numbers as integers. -/
def natsL (L : List Nat) : List Int := L.map fun s => ((s : Nat) : Int)
theorem natsL_len (L : List Nat) : (natsL L).length = L.length := by simp [natsL]
theorem natsL_append (L M : List Nat) : natsL (L ++ M) = natsL L ++ natsL M := by simp [natsL]
theorem swL_le (p : Nat → Bool) (k N : Nat) : (swL p k N).length ≤ N := by rw [swL_len]; exact cnt_le _ _

theorem bit_mod0 (s k : Nat) : ((s : Int) / 2 ^ k % 2 == 0) = !s.testBit k := by
  have h := bit_mod s k
  have h0 := div_nn s k
  generalize (s : Int) / 2 ^ k = x at *
  cases hb : s.testBit k
  · rw [hb] at h; simp at h ⊢; omega
  · rw [hb] at h; simp at h ⊢; omega
theorem shl_pow (k : Nat) (hk : k < 10) : wrap64 ((2 : Int) ^ k) = ((2 ^ k : Nat) : Int) := by
  have h1 : (2:Nat)^k ≤ 2^10 := Nat.pow_le_pow_right (by omega) (by omega)
  rw [show ((2 : Int) ^ k) = ((2 ^ k : Nat) : Int) from by simp]
  generalize 2 ^ k = x at *
  exact IntWalk.wrap64_in _ (by omega)

end Go.Proofs.YtgilbenbaefgfaaGreat
