/- Contracts of the program's functions that answer with shares of each member. -/
import Derived.Test.YtlnlkfldlgchhaaN8
import Derived.Test.YtlnlkfldlgchhaaN7
import Derived.Outline
namespace Go.Proofs.Ytlnlkfldlgchhaa
open Go.RowKit Vo

/-- A member agrees with what is decided. -/
def agreeP (p : Nat → Bool) (k s : Nat) : Bool := s.testBit k == p s
def agreeN (q : Int) (ws : List Int) (n : Nat) (k : Nat) : Nat := cnt (agreeP (winB q ws n) k) (2^n)

set_option maxHeartbeats 1000000 in
theorem agree1_any (q : Int) (b off n cap g g2 : Nat) (ws : List Int) (s k : Nat) (w : World) (hn : n < 10) (hs : s < 2^n) (hk : k < n) (hok : InK 0 1000 ws n) (hsl : Sl w b off n ws) (hx : Box w g (.int .i64 q) (.slice (some ⟨b, off, none⟩) n cap)) (hi : BoxI w g2 (.int .i64 k)) :
    Calls Try.prog 121 #[.int .u64 s, .pointer (some ⟨g2, 0, none⟩), .pointer (some ⟨g, 0, none⟩)] w fun e w' => e = .returned (.bool (agreeP (winB q ws n) k s)) ∧ Below w.heap.size w w' := by
  have HOK := Lib.hid hok
  have HSL := Lib.hid hsl
  have h512 : s < 512 := by have := pow_lt (n := n) (by omega); omega
  have HP := Lib.hid (show agreeP (winB q ws n) k s = (s.testBit k == decide (q ≤ wtK ws s n)) from rfl)
  clear hok hsl
  have hglt := hx.lt
  have hglt2 := hi.lt
  obtain ⟨hc0, hc1⟩ := hx.cells
  have hci := hi.cell
  go_enter Try.func121, Try.ntmps121
  go_wp2_with fail
  go_region_held3 (fun w' => w'.cell? ⟨g, 0, none⟩ = some (.int .i64 q) ∧ w'.cell? ⟨g, 1, none⟩ = some (.slice (some ⟨b, off, none⟩) n cap) ∧ w'.cell? ⟨g2, 0, none⟩ = some (.int .i64 k))
    (first | exact ⟨hd.1, hd.2, hd3⟩ | exact ⟨hc0, hc1, hci⟩ | go_keep)
    (first
      | (go_at_call 122; refine (has_any s k _ (by omega) h512).mono ?_; rintro e w2 ⟨rfl, rfl⟩)
      | (go_at_call 94; refine (wins_any q b off n cap ws s _ hn h512 HOK.out HSL.out.drew).mono ?_; rintro e w3 ⟨rfl, hb3⟩; have hd := (hx.drew.now hb3).cells; have hd3 := (hi.drew.now hb3).cell))
  all_goals
    go_wp2
    go_ret
    exact ⟨by rw [HP.out]; rfl, bfrom (Below.refl _ _).drew hb3⟩
theorem agree_asks (q : Int) (b off n cap g g2 : Nat) (ws : List Int) (k : Nat) (w : World) (hn : n < 10) (hk : k < n) (hok : InK 0 1000 ws n) (hsl : Sl w b off n ws) (hx : Box w g (.int .i64 q) (.slice (some ⟨b, off, none⟩) n cap)) (hi : BoxI w g2 (.int .i64 k)) :
    Asks (agreeP (winB q ws n) k) 121 #[] #[.pointer (some ⟨g2, 0, none⟩), .pointer (some ⟨g, 0, none⟩)] n w :=
  ⟨enters_of Try.func121 (by kernel_rfl) rfl, fun W s hs hb => agree1_any q b off n cap g g2 ws s k W hn hs hk hok (hsl.now hb) (hx.now hb) (hi.now hb)⟩
set_option maxHeartbeats 1000000 in
theorem countAgreeing_any (q : Int) (b off n cap : Nat) (ws : List Int) (k : Nat) (w : World) (hn : n < 10) (hk : k < n) (hok : InK 0 1000 ws n) (hsl : Sl w b off n ws) :
    Calls Try.prog 109 #[.agg #[.int .i64 q, .slice (some ⟨b, off, none⟩) n cap], .int .i64 k] w fun e w' => e = .returned (.int .i64 (agreeN q ws n k : Nat)) ∧ Below w.heap.size w w' := by
  have HOK := Lib.hid hok
  have HSL := Lib.hid hsl
  clear hok hsl
  have hb0 : Below w.heap.size w ((w.alloc (.cells #[.int .i64 q, .slice (some ⟨b, off, none⟩) n cap] 28)).alloc (.cells #[.int .i64 k] 3)) := (below1 w _).alloc (by simp) _
  have hx := (Box.new w (.int .i64 q) (.slice (some ⟨b, off, none⟩) n cap)).alloc (.cells #[.int .i64 k] 3)
  have hi := BoxI.new (w.alloc (.cells #[.int .i64 q, .slice (some ⟨b, off, none⟩) n cap] 28)) (.int .i64 k)
  simp only [World.size_alloc] at hi
  go_enter Try.func109, Try.ntmps109
  go_wp2_with fail
  refine (members_any _ _ n cap _).mono ?_
  rintro e w1 ⟨rfl, hb1⟩
  go_wp2_with fail
  refine (countSets_any (agreeP (winB q ws n) k) _ _ _ n _ hn (agree_asks q b off n cap w.heap.size (w.heap.size + 1) ws k _ hn hk HOK.out ((HSL.out.now hb0).now hb1) (hx.now hb1) (hi.now hb1))).mono ?_
  rintro e w2 ⟨rfl, hb2⟩
  go_wp2
  go_ret
  exact ⟨rfl, bfrom hb0 (bfrom hb1 hb2)⟩
theorem countAgreeing_nums (q : Int) (b off n cap : Nat) (ws : List Int) (w : World) (hn : n < 10) (hok : InK 0 1000 ws n) (hsl : Sl w b off n ws) :
    Nums (agreeN q ws n) 109 #[.agg #[.int .i64 q, .slice (some ⟨b, off, none⟩) n cap]] #[] n w :=
  ⟨enters_of Try.func109 (by kernel_rfl) rfl, fun W k hk hb => countAgreeing_any q b off n cap ws k W hn hk hok (hsl.now hb)⟩
set_option maxHeartbeats 1000000 in
theorem agreements_any (q : Int) (b off n cap : Nat) (ws : List Int) (w : World) (hn : n < 10) (hok : InK 0 1000 ws n) (hsl : Sl w b off n ws) :
    Calls Try.prog 77 #[.agg #[.int .i64 q, .slice (some ⟨b, off, none⟩) n cap]] w fun e w' => IntsAt (perL (agreeN q ws n) n) w w' e := by
  have HOK := Lib.hid hok
  have HSL := Lib.hid hsl
  clear hok hsl
  have hb0 := below1 w (.cells #[.int .i64 q, .slice (some ⟨b, off, none⟩) n cap] 28)
  go_enter Try.func77, Try.ntmps77
  go_wp2_with fail
  refine (forEachMember_any _ _ _ _ _ _ n cap _ hn (countAgreeing_nums q b off n cap ws _ hn HOK.out (HSL.out.now hb0))).mono ?_
  rintro e w1 ⟨A, cap2, rfl, hown, hb1⟩
  have HO := Lib.hid hown
  clear hown
  go_wp2
  go_ret
  exact ⟨A, cap2, rfl, owns_less HO.out hb0.size, bfrom hb0 hb1⟩
theorem agreements_lists (q : Int) (A : Option Addr) (n cap : Nat) (ws : List Int) (w : World) (hk : Known w A n ws) (hg : Vo.Good q ws n) :
    Lists (perL (agreeN q ws n) n) 77 (.agg #[.int .i64 q, .slice A n cap]) w := by
  obtain ⟨b, off, rfl, hsl⟩ := hk.get hg.lo
  exact ⟨enters_of Try.func77 (by kernel_rfl) rfl, fun W hb => agreements_any q b off n cap ws W (by have := hg.hi; omega) hg.ok (hsl.now hb)⟩

/- Each whole is more than 0. -/
theorem cnt_pos {p : Nat → Bool} {k j : Nat} (hj : j < k) (h : p j = true) : 0 < cnt p k := by
  induction k with
  | zero => omega
  | succ k ih =>
    simp only [cnt]
    by_cases e : j = k
    · subst e; rw [h]; simp
    · have := ih (by omega); omega
theorem wtK_zero (ws : List Int) (k : Nat) : wtK ws 0 k = 0 := by
  induction k with
  | zero => rfl
  | succ k ih => simp only [wtK]; rw [ih]; simp
theorem Vo.Good.none {q ws n} (h : Vo.Good q ws n) : winB q ws n 0 = false := by
  unfold winB; rw [wtK_zero]; have := h.q1; simp; omega
theorem Vo.Good.every {q ws n} (h : Vo.Good q ws n) : winB q ws n (2^n - 1) = true := by
  unfold winB; rw [h.all]; have := h.q2; simpa using this
theorem turns {P : Nat → Bool} (h0 : P 0 = false) (n : Nat) (hn : P n = true) : ∃ j, j < n ∧ P j = false ∧ P (j+1) = true := by
  induction n with
  | zero => rw [h0] at hn; cases hn
  | succ n ih =>
    cases h : P n with
    | false => exact ⟨n, by omega, h, hn⟩
    | true => obtain ⟨j, h1, h2⟩ := ih h; exact ⟨j, by omega, h2⟩
theorem sumN_pos {f : Nat → Nat} {n j : Nat} (hj : j < n) (h : 0 < f j) : 0 < sumN f n := by
  induction n with
  | zero => omega
  | succ n ih =>
    simp only [sumN]
    by_cases e : j = n
    · subst e; omega
    · have := ih (by omega); omega
theorem swings_pos {q ws n} (h : Vo.Good q ws n) : 0 < sumN (swingN q ws n) n := by
  obtain ⟨j, hj, h1, h2⟩ := turns (P := fun j => winB q ws n (2^j - 1)) (by simpa using h.none) n h.every
  have hp := Nat.two_pow_pos j
  have hlt : 2^j - 1 < 2^n := by have := Nat.pow_lt_pow_right (show 1 < 2 by omega) hj; omega
  have hb : (2^j - 1).testBit j = false := by rw [Nat.testBit_two_pow_sub_one]; simp
  have hor : (2^j - 1) ||| 2^j = 2^(j+1) - 1 := by rw [← add_pow hlt hj hb, Nat.pow_succ]; omega
  refine sumN_pos hj (cnt_pos (j := 2^j - 1) hlt ?_)
  unfold swP
  rw [hb, hor, h1, h2]; rfl
theorem winning_pos {q ws n} (h : Vo.Good q ws n) : 0 < cnt (winB q ws n) (2^n) := cnt_pos (j := 2^n - 1) (by have := Nat.two_pow_pos n; omega) h.every
theorem losing_pos {q ws n} (h : Vo.Good q ws n) : 0 < cnt (fun s => !winB q ws n s) (2^n) := cnt_pos (j := 0) (Nat.two_pow_pos n) (by rw [h.none]; rfl)

def swingPowersL (q : Int) (ws : List Int) (n : Nat) : List (Int × Int) := okSh (goodB q ws n) (shL (swingN q ws n) (2^(n-1)) n)
theorem swingPowers_ok {q ws n} (hg : Vo.Good q ws n) : (∀ j, j < n → swingN q ws n j < 4611686018427387904) ∧ 0 < 2^(n-1) ∧ 2^(n-1) < 4611686018427387904 :=
  ⟨fun _ _ => Nat.lt_of_le_of_lt (Nat.le_trans (cnt_le _ _) (pow_lt hg.hi)) (by omega), Nat.two_pow_pos _, Nat.lt_of_le_of_lt (pow_lt (n := n - 1) (by have := hg.hi; omega)) (by omega)⟩
theorem swingPowersL_len (q : Int) (ws : List Int) (n : Nat) : 2 * (swingPowersL q ws n).length ≤ 1048576 := by
  by_cases hg : Vo.Good q ws n
  · unfold swingPowersL; rw [okSh_yes (goodB_true hg), shL_len]; have := hg.hi; omega
  · unfold swingPowersL; rw [okSh_no (goodB_false hg)]; simp
theorem swingPowers_whole (q : Int) (A : Option Addr) (n cap : Nat) (ws : List Int) (w : World) (hk : Known w A n ws) (hg : Vo.Good q ws n) :
    Whole (2^(n-1)) 71 #[] (.agg #[.int .i64 q, .slice A n cap]) w := by
  obtain ⟨b, off, rfl, hsl⟩ := hk.get hg.lo
  exact ⟨enters_of Try.func71 (by kernel_rfl) rfl, fun W hb => setsWithoutOne_any q _ n cap W (by have := hg.hi; omega) hg.lo⟩
set_option maxHeartbeats 1000000 in
theorem swingPowers_any (q : Int) (A : Option Addr) (n cap : Nat) (ws : List Int) (w : World) (hm : n ≤ 9223372036854775807) (hk : Known w A n ws) :
    Calls Try.prog 32 #[.agg #[.int .i64 q, .slice A n cap]] w fun e w' => ShAt (swingPowersL q ws n) (goodB q ws n) w w' e := by
  have HK := Lib.hid hk
  have hb0 := below1 w (.cells #[.int .i64 q, .slice A n cap] 28)
  clear hk
  go_enter Try.func32, Try.ntmps32
  go_wp2_with fail
  refine (partsOf_any (swingN q ws n) (2^(n-1)) _ _ q A n cap ws _ hm (HK.out.now hb0) (fun hg => swings_lists q A n cap ws _ (HK.out.now hb0) hg) (fun hg => swingPowers_whole q A n cap ws _ (HK.out.now hb0) hg) (fun hg => swingPowers_ok hg)).mono ?_
  rintro e w1 ⟨A2, cap2, rfl, hown, hb⟩
  have HO := Lib.hid hown
  clear hown
  go_wp2
  go_ret2
  exact ⟨A2, cap2, rfl, owns_less HO.out hb0.size, bfrom hb0 hb⟩
theorem swingPowers_ans (q : Int) (A : Option Addr) (n cap : Nat) (ws : List Int) (w : World) (hm : n ≤ 9223372036854775807) (hk : Known w A n ws) :
    Calls Try.prog 32 #[.agg #[.int .i64 q, .slice A n cap]] w fun e w' => Ans (RSh (swingPowersL q ws n)) (goodB q ws n) w w' e := (swingPowers_any q A n cap ws w hm hk).mono fun _ _ h => h.ans

def swingSharesL (q : Int) (ws : List Int) (n : Nat) : List (Int × Int) := okSh (goodB q ws n) (shL (swingN q ws n) (sumN (swingN q ws n) n) n)
theorem swingShares_ok {q ws n} (hg : Vo.Good q ws n) : (∀ j, j < n → swingN q ws n j < 4611686018427387904) ∧ 0 < sumN (swingN q ws n) n ∧ sumN (swingN q ws n) n < 4611686018427387904 :=
  ⟨fun _ _ => Nat.lt_of_le_of_lt (Nat.le_trans (cnt_le _ _) (pow_lt hg.hi)) (by omega), swings_pos hg, Nat.lt_of_le_of_lt (sumN_le2 (B := 512) (n := 9) (fun k => Nat.le_trans (cnt_le _ _) (pow_lt hg.hi)) hg.hi) (by omega)⟩
theorem swingSharesL_len (q : Int) (ws : List Int) (n : Nat) : 2 * (swingSharesL q ws n).length ≤ 1048576 := by
  by_cases hg : Vo.Good q ws n
  · unfold swingSharesL; rw [okSh_yes (goodB_true hg), shL_len]; have := hg.hi; omega
  · unfold swingSharesL; rw [okSh_no (goodB_false hg)]; simp
def orderPowersL (q : Int) (ws : List Int) (n : Nat) : List (Int × Int) := okSh (goodB q ws n) (shL (pivotN q ws n) (fact n) n)
theorem orderPowers_ok {q ws n} (hg : Vo.Good q ws n) : (∀ j, j < n → pivotN q ws n j < 4611686018427387904) ∧ 0 < fact n ∧ fact n < 4611686018427387904 :=
  ⟨fun _ _ => Nat.lt_of_le_of_lt (pivN_le hg.hi (pow_lt hg.hi)) (by omega), fact_pos n, Nat.lt_of_le_of_lt (fact_le hg.hi) (by omega)⟩
theorem orderPowersL_len (q : Int) (ws : List Int) (n : Nat) : 2 * (orderPowersL q ws n).length ≤ 1048576 := by
  by_cases hg : Vo.Good q ws n
  · unfold orderPowersL; rw [okSh_yes (goodB_true hg), shL_len]; have := hg.hi; omega
  · unfold orderPowersL; rw [okSh_no (goodB_false hg)]; simp
theorem orderPowers_whole (q : Int) (A : Option Addr) (n cap : Nat) (ws : List Int) (w : World) (hk : Known w A n ws) (hg : Vo.Good q ws n) :
    Whole (fact n) 75 #[] (.agg #[.int .i64 q, .slice A n cap]) w := by
  obtain ⟨b, off, rfl, hsl⟩ := hk.get hg.lo
  exact ⟨enters_of Try.func75 (by kernel_rfl) rfl, fun W hb => allOrders_any q _ n cap W (by have := hg.hi; omega)⟩
set_option maxHeartbeats 1000000 in
theorem orderPowers_any (q : Int) (A : Option Addr) (n cap : Nat) (ws : List Int) (w : World) (hm : n ≤ 9223372036854775807) (hk : Known w A n ws) :
    Calls Try.prog 39 #[.agg #[.int .i64 q, .slice A n cap]] w fun e w' => ShAt (orderPowersL q ws n) (goodB q ws n) w w' e := by
  have HK := Lib.hid hk
  have hb0 := below1 w (.cells #[.int .i64 q, .slice A n cap] 28)
  clear hk
  go_enter Try.func39, Try.ntmps39
  go_wp2_with fail
  refine (partsOf_any (pivotN q ws n) (fact n) _ _ q A n cap ws _ hm (HK.out.now hb0) (fun hg => pivots_lists q A n cap ws _ (HK.out.now hb0) hg) (fun hg => orderPowers_whole q A n cap ws _ (HK.out.now hb0) hg) (fun hg => orderPowers_ok hg)).mono ?_
  rintro e w1 ⟨A2, cap2, rfl, hown, hb⟩
  have HO := Lib.hid hown
  clear hown
  go_wp2
  go_ret2
  exact ⟨A2, cap2, rfl, owns_less HO.out hb0.size, bfrom hb0 hb⟩
theorem orderPowers_ans (q : Int) (A : Option Addr) (n cap : Nat) (ws : List Int) (w : World) (hm : n ≤ 9223372036854775807) (hk : Known w A n ws) :
    Calls Try.prog 39 #[.agg #[.int .i64 q, .slice A n cap]] w fun e w' => Ans (RSh (orderPowersL q ws n)) (goodB q ws n) w w' e := (orderPowers_any q A n cap ws w hm hk).mono fun _ _ h => h.ans

def blockPowersL (q : Int) (ws : List Int) (n : Nat) : List (Int × Int) := okSh (goodB q ws n) (shL (swingN q ws n) (cnt (winB q ws n) (2^n)) n)
theorem blockPowers_ok {q ws n} (hg : Vo.Good q ws n) : (∀ j, j < n → swingN q ws n j < 4611686018427387904) ∧ 0 < cnt (winB q ws n) (2^n) ∧ cnt (winB q ws n) (2^n) < 4611686018427387904 :=
  ⟨fun _ _ => Nat.lt_of_le_of_lt (Nat.le_trans (cnt_le _ _) (pow_lt hg.hi)) (by omega), winning_pos hg, Nat.lt_of_le_of_lt (Nat.le_trans (cnt_le _ _) (pow_lt hg.hi)) (by omega)⟩
theorem blockPowersL_len (q : Int) (ws : List Int) (n : Nat) : 2 * (blockPowersL q ws n).length ≤ 1048576 := by
  by_cases hg : Vo.Good q ws n
  · unfold blockPowersL; rw [okSh_yes (goodB_true hg), shL_len]; have := hg.hi; omega
  · unfold blockPowersL; rw [okSh_no (goodB_false hg)]; simp
theorem blockPowers_whole (q : Int) (A : Option Addr) (n cap : Nat) (ws : List Int) (w : World) (hk : Known w A n ws) (hg : Vo.Good q ws n) :
    Whole (cnt (winB q ws n) (2^n)) 68 #[] (.agg #[.int .i64 q, .slice A n cap]) w := by
  obtain ⟨b, off, rfl, hsl⟩ := hk.get hg.lo
  exact ⟨enters_of Try.func68 (by kernel_rfl) rfl, fun W hb => winningSets_any q b off n cap ws W (by have := hg.hi; omega) hg.ok (hsl.now hb)⟩
set_option maxHeartbeats 1000000 in
theorem blockPowers_any (q : Int) (A : Option Addr) (n cap : Nat) (ws : List Int) (w : World) (hm : n ≤ 9223372036854775807) (hk : Known w A n ws) :
    Calls Try.prog 41 #[.agg #[.int .i64 q, .slice A n cap]] w fun e w' => ShAt (blockPowersL q ws n) (goodB q ws n) w w' e := by
  have HK := Lib.hid hk
  have hb0 := below1 w (.cells #[.int .i64 q, .slice A n cap] 28)
  clear hk
  go_enter Try.func41, Try.ntmps41
  go_wp2_with fail
  refine (partsOf_any (swingN q ws n) (cnt (winB q ws n) (2^n)) _ _ q A n cap ws _ hm (HK.out.now hb0) (fun hg => swings_lists q A n cap ws _ (HK.out.now hb0) hg) (fun hg => blockPowers_whole q A n cap ws _ (HK.out.now hb0) hg) (fun hg => blockPowers_ok hg)).mono ?_
  rintro e w1 ⟨A2, cap2, rfl, hown, hb⟩
  have HO := Lib.hid hown
  clear hown
  go_wp2
  go_ret2
  exact ⟨A2, cap2, rfl, owns_less HO.out hb0.size, bfrom hb0 hb⟩
theorem blockPowers_ans (q : Int) (A : Option Addr) (n cap : Nat) (ws : List Int) (w : World) (hm : n ≤ 9223372036854775807) (hk : Known w A n ws) :
    Calls Try.prog 41 #[.agg #[.int .i64 q, .slice A n cap]] w fun e w' => Ans (RSh (blockPowersL q ws n)) (goodB q ws n) w w' e := (blockPowers_any q A n cap ws w hm hk).mono fun _ _ h => h.ans

def startPowersL (q : Int) (ws : List Int) (n : Nat) : List (Int × Int) := okSh (goodB q ws n) (shL (swingN q ws n) (cnt (fun s => !winB q ws n s) (2^n)) n)
theorem startPowers_ok {q ws n} (hg : Vo.Good q ws n) : (∀ j, j < n → swingN q ws n j < 4611686018427387904) ∧ 0 < cnt (fun s => !winB q ws n s) (2^n) ∧ cnt (fun s => !winB q ws n s) (2^n) < 4611686018427387904 :=
  ⟨fun _ _ => Nat.lt_of_le_of_lt (Nat.le_trans (cnt_le _ _) (pow_lt hg.hi)) (by omega), losing_pos hg, Nat.lt_of_le_of_lt (Nat.le_trans (cnt_le _ _) (pow_lt hg.hi)) (by omega)⟩
theorem startPowersL_len (q : Int) (ws : List Int) (n : Nat) : 2 * (startPowersL q ws n).length ≤ 1048576 := by
  by_cases hg : Vo.Good q ws n
  · unfold startPowersL; rw [okSh_yes (goodB_true hg), shL_len]; have := hg.hi; omega
  · unfold startPowersL; rw [okSh_no (goodB_false hg)]; simp
theorem startPowers_whole (q : Int) (A : Option Addr) (n cap : Nat) (ws : List Int) (w : World) (hk : Known w A n ws) (hg : Vo.Good q ws n) :
    Whole (cnt (fun s => !winB q ws n s) (2^n)) 76 #[] (.agg #[.int .i64 q, .slice A n cap]) w := by
  obtain ⟨b, off, rfl, hsl⟩ := hk.get hg.lo
  exact ⟨enters_of Try.func76 (by kernel_rfl) rfl, fun W hb => losingSets_any q b off n cap ws W (by have := hg.hi; omega) hg.ok (hsl.now hb)⟩
set_option maxHeartbeats 1000000 in
theorem startPowers_any (q : Int) (A : Option Addr) (n cap : Nat) (ws : List Int) (w : World) (hm : n ≤ 9223372036854775807) (hk : Known w A n ws) :
    Calls Try.prog 43 #[.agg #[.int .i64 q, .slice A n cap]] w fun e w' => ShAt (startPowersL q ws n) (goodB q ws n) w w' e := by
  have HK := Lib.hid hk
  have hb0 := below1 w (.cells #[.int .i64 q, .slice A n cap] 28)
  clear hk
  go_enter Try.func43, Try.ntmps43
  go_wp2_with fail
  refine (partsOf_any (swingN q ws n) (cnt (fun s => !winB q ws n s) (2^n)) _ _ q A n cap ws _ hm (HK.out.now hb0) (fun hg => swings_lists q A n cap ws _ (HK.out.now hb0) hg) (fun hg => startPowers_whole q A n cap ws _ (HK.out.now hb0) hg) (fun hg => startPowers_ok hg)).mono ?_
  rintro e w1 ⟨A2, cap2, rfl, hown, hb⟩
  have HO := Lib.hid hown
  clear hown
  go_wp2
  go_ret2
  exact ⟨A2, cap2, rfl, owns_less HO.out hb0.size, bfrom hb0 hb⟩
theorem startPowers_ans (q : Int) (A : Option Addr) (n cap : Nat) (ws : List Int) (w : World) (hm : n ≤ 9223372036854775807) (hk : Known w A n ws) :
    Calls Try.prog 43 #[.agg #[.int .i64 q, .slice A n cap]] w fun e w' => Ans (RSh (startPowersL q ws n)) (goodB q ws n) w w' e := (startPowers_any q A n cap ws w hm hk).mono fun _ _ h => h.ans

def agreeChancesL (q : Int) (ws : List Int) (n : Nat) : List (Int × Int) := okSh (goodB q ws n) (shL (agreeN q ws n) (2^n) n)
theorem agreeChances_ok {q ws n} (hg : Vo.Good q ws n) : (∀ j, j < n → agreeN q ws n j < 4611686018427387904) ∧ 0 < 2^n ∧ 2^n < 4611686018427387904 :=
  ⟨fun _ _ => Nat.lt_of_le_of_lt (Nat.le_trans (cnt_le _ _) (pow_lt hg.hi)) (by omega), Nat.two_pow_pos _, Nat.lt_of_le_of_lt (pow_lt hg.hi) (by omega)⟩
theorem agreeChancesL_len (q : Int) (ws : List Int) (n : Nat) : 2 * (agreeChancesL q ws n).length ≤ 1048576 := by
  by_cases hg : Vo.Good q ws n
  · unfold agreeChancesL; rw [okSh_yes (goodB_true hg), shL_len]; have := hg.hi; omega
  · unfold agreeChancesL; rw [okSh_no (goodB_false hg)]; simp
theorem agreeChances_whole (q : Int) (A : Option Addr) (n cap : Nat) (ws : List Int) (w : World) (hk : Known w A n ws) (hg : Vo.Good q ws n) :
    Whole (2^n) 69 #[] (.agg #[.int .i64 q, .slice A n cap]) w := by
  obtain ⟨b, off, rfl, hsl⟩ := hk.get hg.lo
  exact ⟨enters_of Try.func69 (by kernel_rfl) rfl, fun W hb => allSets_any q _ n cap W (by have := hg.hi; omega)⟩
set_option maxHeartbeats 1000000 in
theorem agreeChances_any (q : Int) (A : Option Addr) (n cap : Nat) (ws : List Int) (w : World) (hm : n ≤ 9223372036854775807) (hk : Known w A n ws) :
    Calls Try.prog 45 #[.agg #[.int .i64 q, .slice A n cap]] w fun e w' => ShAt (agreeChancesL q ws n) (goodB q ws n) w w' e := by
  have HK := Lib.hid hk
  have hb0 := below1 w (.cells #[.int .i64 q, .slice A n cap] 28)
  clear hk
  go_enter Try.func45, Try.ntmps45
  go_wp2_with fail
  refine (partsOf_any (agreeN q ws n) (2^n) _ _ q A n cap ws _ hm (HK.out.now hb0) (fun hg => agreements_lists q A n cap ws _ (HK.out.now hb0) hg) (fun hg => agreeChances_whole q A n cap ws _ (HK.out.now hb0) hg) (fun hg => agreeChances_ok hg)).mono ?_
  rintro e w1 ⟨A2, cap2, rfl, hown, hb⟩
  have HO := Lib.hid hown
  clear hown
  go_wp2
  go_ret2
  exact ⟨A2, cap2, rfl, owns_less HO.out hb0.size, bfrom hb0 hb⟩
theorem agreeChances_ans (q : Int) (A : Option Addr) (n cap : Nat) (ws : List Int) (w : World) (hm : n ≤ 9223372036854775807) (hk : Known w A n ws) :
    Calls Try.prog 45 #[.agg #[.int .i64 q, .slice A n cap]] w fun e w' => Ans (RSh (agreeChancesL q ws n)) (goodB q ws n) w w' e := (agreeChances_any q A n cap ws w hm hk).mono fun _ _ h => h.ans
end Go.Proofs.Ytlnlkfldlgchhaa
