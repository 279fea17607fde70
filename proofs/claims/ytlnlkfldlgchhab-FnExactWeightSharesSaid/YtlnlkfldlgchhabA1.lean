/- Contract of the program's least winning sets of a committee. -/
import Derived.Test.YtlnlkfldlgchhabR3
import Derived.Test.YtlnlkfldlgchhabW5
import Derived.Outline
namespace Go.Proofs.Ytlnlkfldlgchhab
open Go.RowKit Vo

/-- The least winning sets, in order. -/
def lwL (q : Int) (ws : List Int) (n : Nat) : List Nat := (inOrder n).filter (leastP (winB q ws n) n)
theorem lwL_len {q : Int} {ws : List Int} {n : Nat} (hn : n ≤ 9) : (lwL q ws n).length ≤ 512 := by
  have h1 := List.length_filter_le (leastP (winB q ws n) n) (inOrder n)
  have h2 := inOrder_len n
  have h3 := pow_lt hn
  unfold lwL; omega
theorem lwL_mem {q : Int} {ws : List Int} {n s : Nat} (h : s ∈ lwL q ws n) : s < 2^n ∧ winB q ws n s = true := by
  obtain ⟨h1, h2⟩ := List.mem_filter.1 h
  exact ⟨mem_inOrder.1 h1, by unfold leastP at h2; simp at h2; exact h2.1⟩
theorem wtK_none (ws : List Int) (k : Nat) : wtK ws 0 k = 0 := by
  induction k with
  | zero => rfl
  | succ k ih => simp [wtK, ih]
theorem lwL_pos {q : Int} {ws : List Int} {n s : Nat} (hq : 1 ≤ q) (h : s ∈ lwL q ws n) : s ≠ 0 := by
  intro e
  have h2 := (lwL_mem h).2
  subst e
  unfold winB at h2
  rw [wtK_none] at h2
  simp at h2; omega
theorem lwL_at {q : Int} {ws : List Int} {n j : Nat} (h : j < (lwL q ws n).length) : (lwL q ws n).getD j 0 ∈ lwL q ws n := by
  rw [List.getD_eq_getElem?_getD, List.getElem?_eq_getElem h]; exact List.getElem_mem h

set_option maxHeartbeats 1000000 in
theorem leastWinning_any (q : Int) (b off n cap : Nat) (ws : List Int) (w : World) (hn : n < 10) (hok : InK 0 1000 ws n) (hsl : Sl w b off n ws) :
    Calls Try.prog 151 #[.agg #[.int .i64 q, .slice (some ⟨b, off, none⟩) n cap]] w fun e w' => SetsAt w.heap.size (lwL q ws n) w w' e := by
  have HOK := Lib.hid hok
  have hb0 := below1 w (.cells #[.int .i64 q, .slice (some ⟨b, off, none⟩) n cap] 29)
  have HSL := Lib.hid (hsl.now hb0)
  have hx := Box.new w (.int .i64 q) (.slice (some ⟨b, off, none⟩) n cap)
  clear hok hsl
  go_enter Try.func151, Try.ntmps151
  go_wp2_with fail
  go_region_held3 (fun w' => w'.cell? ⟨w.heap.size, 0, none⟩ = some (.int .i64 q) ∧ w'.cell? ⟨w.heap.size, 1, none⟩ = some (.slice (some ⟨b, off, none⟩) n cap))
    (first | exact hd | exact hd2 | exact hx.cells | go_keep)
    (first
      | (go_at_call 135; refine (members_any _ _ n cap _).mono ?_; rintro e w2 ⟨rfl, hb2⟩; have hd := (hx.drew.now hb2).cells)
      | (go_at_call 173; refine (leastSets_any (winB q ws n) _ _ _ n _ hn (wins_asks q b off n cap ws _ hn HOK.out (HSL.out.drew.now hb2))).mono ?_; rintro e w3 ⟨A3, cap3, rfl, hown3, hb3⟩; have HO3 := Lib.hid hown3; clear hown3; have hd2 := ((hx.drew.now hb2).now hb3).cells))
  all_goals
    have hz2 := (bfrom hb0.drew hb2).size
    go_wp2
    go_ret
    exact ⟨A3, cap3, rfl, owns_less HO3.out hz2, bfrom hb0.drew (bfrom hb2 hb3)⟩

end Go.Proofs.Ytlnlkfldlgchhab
