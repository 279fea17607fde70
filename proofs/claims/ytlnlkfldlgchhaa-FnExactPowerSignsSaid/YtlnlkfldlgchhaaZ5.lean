/- Contracts of parts of a whole where the numbers may lie anywhere, and of parts of their sum. -/
import Derived.Test.YtlnlkfldlgchhaaN8
import Derived.Test.YtlnlkfldlgchhaaN11
import Derived.Test.YtlnlkfldlgchhaaZ4
import Derived.Test.YtlnlkfldlgchhaaW3
import Derived.Test.YtlnlkfldlgchhaaZ2
import Derived.Outline
namespace Go.Proofs.Ytlnlkfldlgchhaa
open Go.RowKit Vo

/-- The whole is the sum of the numbers. -/
theorem sumWhole_any (f : Nat → Nat) (k gc : Nat) (q : Int) (A : Option Addr) (n cap : Nat) (w : World) (hn : n < 10) (hf : ∀ j, f j ≤ 1000000000000) (hr : Reads (perL f n) k (.agg #[.int .i64 q, .slice A n cap]) w) (hb : Box1 53 w gc (.func (.func k) #[] #[])) :
    Calls Try.prog 105 #[.agg #[.int .i64 q, .slice A n cap], .pointer (some ⟨gc, 0, none⟩)] w fun e w' => e = .returned (.int .i64 (sumN f n : Nat)) ∧ Below w.heap.size w w' := by
  have eg := hr.enters
  have hb0 := below1 w (.cells #[.int .i64 q, .slice A n cap] 28)
  have HR := Lib.hid (hr.now hb0)
  have hc := (hb.now hb0).cell
  have hgc := hb.lt
  have HIN := Lib.hid (show InK 0 1000000000000 (perL f n) n from fun j hj => by rw [perL_get hj]; have := hf j; omega)
  have HSK := Lib.hid (sumK_perL f (Nat.le_refl n))
  clear hr hb hf
  go_enter Try.func105, Try.ntmps105
  go_wp2_with (first
    | (go_at_fn k; refine (HR.out.gives _ (Below.refl _ _)).mono ?_; rintro e w1 ⟨b1, off1, cap1, rfl, hs1, hb1⟩; rw [perL_len] at hs1 ⊢; have HS1 := Lib.hid hs1; clear hs1)
    | (go_at_call 106; refine (sumOf_any b1 off1 n cap1 (perL f n) _ hn HIN.out HS1.out).mono ?_; rintro e w2 ⟨rfl, rfl⟩; rw [HSK.out]))
  go_ret
  exact ⟨rfl, bfrom hb0 hb1⟩
set_option maxHeartbeats 1000000 in
theorem partsOfSum_any (f : Nat → Nat) (k : Nat) (q : Int) (A : Option Addr) (n cap : Nat) (ws : List Int) (w : World) (hm : n ≤ 9223372036854775807) (hk : Known w A n ws)
    (hr : Vo.Good q ws n → Reads (perL f n) k (.agg #[.int .i64 q, .slice A n cap]) w)
    (hf : Vo.Good q ws n → (∀ j, f j ≤ 1000000000000) ∧ 0 < sumN f n) :
    Calls Try.prog 73 #[.agg #[.int .i64 q, .slice A n cap], .func (.func k) #[] #[]] w fun e w' => ShAt (okSh (goodB q ws n) (shL f (sumN f n) n)) (goodB q ws n) w w' e := by
  have HK := Lib.hid hk
  have HR := Lib.hid hr
  have HF := Lib.hid hf
  clear hk hr hf
  have hb0 : Below w.heap.size w ((w.alloc (.cells #[.int .i64 q, .slice A n cap] 28)).alloc (.cells #[.func (.func k) #[] #[]] 53)) := (below1 w _).alloc (by simp) _
  have hbx := Box1.new 53 (w.alloc (.cells #[.int .i64 q, .slice A n cap] 28)) (.func (.func k) #[] #[])
  simp only [World.size_alloc] at hbx
  have HW := Lib.hid (show ∀ W, Below w.heap.size w W → Vo.Good q ws n → Box1 53 W (w.heap.size + 1) (.func (.func k) #[] #[]) → Whole (sumN f n) 105 #[.pointer (some ⟨w.heap.size + 1, 0, none⟩)] (.agg #[.int .i64 q, .slice A n cap]) W from fun W hW hg hbW =>
    ⟨enters_of Try.func105 (by kernel_rfl) rfl, fun W2 hW2 => sumWhole_any f k (w.heap.size + 1) q A n cap W2 (by have := hg.hi; omega) (HF.out hg).1 ((HR.out hg).now (bfrom hW hW2)) (hbW.now hW2)⟩)
  have HFF := Lib.hid (show Vo.Good q ws n → (∀ j, j < n → f j < 4611686018427387904) ∧ 0 < sumN f n ∧ sumN f n < 4611686018427387904 from fun hg => by
    obtain ⟨h1, h2⟩ := HF.out hg
    have h3 := sumN_le2 (n := 9) h1 (show n ≤ 9 from hg.hi)
    exact ⟨fun j _ => by have := h1 j; omega, h2, by omega⟩)
  go_enter Try.func73, Try.ntmps73
  go_wp2_with fail
  refine (partsOfR_any f (sumN f n) k _ #[.pointer (some ⟨w.heap.size + 1, 0, none⟩)] q A n cap ws _ hm (HK.out.now hb0) (fun hg => (HR.out hg).now hb0) (fun hg => HW.out _ hb0 hg hbx) HFF.out).mono ?_
  rintro e w1 ⟨A2, cap2, rfl, hown, hb⟩
  have HO := Lib.hid hown
  clear hown
  go_wp2
  go_ret2
  exact ⟨A2, cap2, rfl, owns_less HO.out hb0.size, bfrom hb0 hb⟩

/- The program's shares by least winning sets, by even ones, and by weights. -/
theorem lwL_ne {q : Int} {ws : List Int} {n : Nat} (hg : Vo.Good q ws n) : 0 < (lwL q ws n).length := by
  have hf : winB q ws n (2^n - 1) = true := by unfold winB; rw [hg.all]; exact decide_eq_true hg.q2
  obtain ⟨t, h1, h2, _⟩ := least_under hg.hi (2^n - 1) (by have := Nat.two_pow_pos n; omega) hf
  exact List.length_pos_of_mem (List.mem_filter.2 ⟨mem_inOrder.2 h1, h2⟩)
theorem ones_pos {q : Int} {ws : List Int} {n : Nat} (hg : Vo.Good q ws n) : 0 < sumN (gainL (fun _ => 1) (lwL q ws n)) n := by
  rw [gainL_sum _ hg.hi _ fun _ h => (lwL_mem h).1]
  have h0 := lwL_ne hg
  have hp : ∀ s ∈ lwL q ws n, 1 ≤ sz s := fun _ h => sz_pos hg.hi (lwL_mem h).1 (lwL_pos hg.q1 h)
  revert h0 hp
  generalize lwL q ws n = L
  cases L with
  | nil => simp
  | cons a L => intro _ hp; have := hp a (by simp); simp; omega
theorem parts_all {q : Int} {ws : List Int} {n : Nat} (hg : Vo.Good q ws n) : sumN (gainL partOf (lwL q ws n)) n = 2520 * (lwL q ws n).length :=
  parts_sum hg.hi _ fun _ h => ⟨(lwL_mem h).1, lwL_pos hg.q1 h⟩

def leastSetSharesL (q : Int) (ws : List Int) (n : Nat) : List (Int × Int) := okSh (goodB q ws n) (shL (gainL (fun _ => 1) (lwL q ws n)) (sumN (gainL (fun _ => 1) (lwL q ws n)) n) n)
def evenSetPowersL (q : Int) (ws : List Int) (n : Nat) : List (Int × Int) := okSh (goodB q ws n) (shL (gainL partOf (lwL q ws n)) (sumN (gainL partOf (lwL q ws n)) n) n)
/-- The weights as numbers. -/
def wtN (ws : List Int) (k : Nat) : Nat := (ws.getD k 0).toNat
def weightSharesL (q : Int) (ws : List Int) (n : Nat) : List (Int × Int) := okSh (goodB q ws n) (shL (fun k => if k < n then wtN ws k else 0) (sumN (fun k => if k < n then wtN ws k else 0) n) n)
theorem okSh_len2 {ok : Bool} {f : Nat → Nat} {D n : Nat} (h : ok = true → n ≤ 9) : 2 * (okSh ok (shL f D n)).length ≤ 1048576 := by
  cases ok with
  | true => rw [okSh_yes rfl, shL_len]; have := h rfl; omega
  | false => rw [okSh_no rfl]; simp
theorem goodB_hi {q : Int} {ws : List Int} {n : Nat} (h : goodB q ws n = true) : n ≤ 9 := (of_decide_eq_true h : Vo.Good q ws n).hi
theorem leastSetSharesL_len (q : Int) (ws : List Int) (n : Nat) : 2 * (leastSetSharesL q ws n).length ≤ 1048576 := okSh_len2 goodB_hi
theorem evenSetPowersL_len (q : Int) (ws : List Int) (n : Nat) : 2 * (evenSetPowersL q ws n).length ≤ 1048576 := okSh_len2 goodB_hi
theorem weightSharesL_len (q : Int) (ws : List Int) (n : Nat) : 2 * (weightSharesL q ws n).length ≤ 1048576 := okSh_len2 goodB_hi
theorem wtN_le {ws : List Int} {n : Nat} (h : InK 0 1000 ws n) (k : Nat) : (if k < n then wtN ws k else 0) ≤ 1000 := by
  split
  · have := h k (by assumption); unfold wtN; omega
  · omega
theorem sumN_wt {ws : List Int} {n k : Nat} (h : InK 0 1000 ws n) (hk : k ≤ n) : ((sumN (fun k => if k < n then wtN ws k else 0) k : Nat) : Int) = sumK ws k := by
  induction k with
  | zero => rfl
  | succ k ih =>
    have h1 := h k (by omega)
    simp only [sumN, sumK]
    rw [← ih (by omega), if_pos (show k < n by omega)]
    unfold wtN; omega
end Go.Proofs.Ytlnlkfldlgchhaa
