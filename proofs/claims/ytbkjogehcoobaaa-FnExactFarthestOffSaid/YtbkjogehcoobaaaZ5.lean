/- Contracts of parts of a whole where the numbers may lie anywhere, and of parts of their sum. -/
import Derived.Test.YtbkjogehcoobaaaN8
import Derived.Test.YtbkjogehcoobaaaN11
import Derived.Test.YtbkjogehcoobaaaZ4
import Derived.Test.YtbkjogehcoobaaaU1
import Derived.Test.YtbkjogehcoobaaaZ2
import Derived.Outline
namespace Go.Proofs.Ytbkjogehcoobaaa
open Go.RowKit Vo

theorem lwL_ne {q : Int} {ws : List Int} {n : Nat} (hg : Vo.Good q ws n) : 0 < (lwL q ws n).length := by
  have hf : winB q ws n (2^n - 1) = true := by unfold winB; rw [hg.all]; exact decide_eq_true hg.q2
  obtain ⟨t, h1, h2, _⟩ := least_under hg.hi (2^n - 1) (by have := Nat.two_pow_pos n; omega) hf
  exact List.length_pos_of_mem (List.mem_filter.2 ⟨mem_inOrder.2 h1, h2⟩)
theorem ones_pos {q : Int} {ws : List Int} {n : Nat} (hg : Vo.Good q ws n) : 0 < sumN (gainL (fun _ => 1) (lwL q ws n)) n := by
  rw [gainL_sum _ hg.hi _ fun _ h => (lwL_mem h).1]
  have h0 := lwL_ne hg
  have hp : ∀ s ∈ lwL q ws n, 1 ≤ sz s := fun _ h => sz_pos hg.hi (lwL_mem h).1 (lwL_pos hg.q1 h)
  revert h0 hp
  generalize lwL q ws n = L
  cases L with
  | nil => simp
  | cons a L => intro _ hp; have := hp a (by simp); simp; omega
theorem parts_all {q : Int} {ws : List Int} {n : Nat} (hg : Vo.Good q ws n) : sumN (gainL partOf (lwL q ws n)) n = 2520 * (lwL q ws n).length :=
  parts_sum hg.hi _ fun _ h => ⟨(lwL_mem h).1, lwL_pos hg.q1 h⟩

def leastSetSharesL (q : Int) (ws : List Int) (n : Nat) : List (Int × Int) := okSh (goodB q ws n) (shL (gainL (fun _ => 1) (lwL q ws n)) (sumN (gainL (fun _ => 1) (lwL q ws n)) n) n)
def evenSetPowersL (q : Int) (ws : List Int) (n : Nat) : List (Int × Int) := okSh (goodB q ws n) (shL (gainL partOf (lwL q ws n)) (sumN (gainL partOf (lwL q ws n)) n) n)
/-- The weights as numbers. -/
def wtN (ws : List Int) (k : Nat) : Nat := (ws.getD k 0).toNat
def weightSharesL (q : Int) (ws : List Int) (n : Nat) : List (Int × Int) := okSh (goodB q ws n) (shL (fun k => if k < n then wtN ws k else 0) (sumN (fun k => if k < n then wtN ws k else 0) n) n)
theorem okSh_len2 {ok : Bool} {f : Nat → Nat} {D n : Nat} (h : ok = true → n ≤ 9) : 2 * (okSh ok (shL f D n)).length ≤ 1048576 := by
  cases ok with
  | true => rw [okSh_yes rfl, shL_len]; have := h rfl; omega
  | false => rw [okSh_no rfl]; simp
theorem goodB_hi {q : Int} {ws : List Int} {n : Nat} (h : goodB q ws n = true) : n ≤ 9 := (of_decide_eq_true h : Vo.Good q ws n).hi
theorem leastSetSharesL_len (q : Int) (ws : List Int) (n : Nat) : 2 * (leastSetSharesL q ws n).length ≤ 1048576 := okSh_len2 goodB_hi
theorem evenSetPowersL_len (q : Int) (ws : List Int) (n : Nat) : 2 * (evenSetPowersL q ws n).length ≤ 1048576 := okSh_len2 goodB_hi
theorem weightSharesL_len (q : Int) (ws : List Int) (n : Nat) : 2 * (weightSharesL q ws n).length ≤ 1048576 := okSh_len2 goodB_hi
theorem wtN_le {ws : List Int} {n : Nat} (h : InK 0 1000 ws n) (k : Nat) : (if k < n then wtN ws k else 0) ≤ 1000 := by
  split
  · have := h k (by assumption); unfold wtN; omega
  · omega
theorem sumN_wt {ws : List Int} {n k : Nat} (h : InK 0 1000 ws n) (hk : k ≤ n) : ((sumN (fun k => if k < n then wtN ws k else 0) k : Nat) : Int) = sumK ws k := by
  induction k with
  | zero => rfl
  | succ k ih =>
    have h1 := h k (by omega)
    simp only [sumN, sumK]
    rw [← ih (by omega), if_pos (show k < n by omega)]
    unfold wtN; omega
end Go.Proofs.Ytbkjogehcoobaaa
