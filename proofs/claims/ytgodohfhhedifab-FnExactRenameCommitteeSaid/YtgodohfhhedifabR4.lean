/- Contract of the program's DummiesOf. -/
import Derived.Test.YtgodohfhhedifabR3
namespace Go.Proofs.Ytgodohfhhedifab
open Go.RowKit Vo

/-- What is left of a set when these sets' members leave. -/
def strip (d : Nat) (L : List Nat) : Nat := L.foldl (fun d s => d &&& (18446744073709551615 - s)) d
theorem strip_succ (d : Nat) (L : List Nat) (j : Nat) (h : j < L.length) : strip d (L.take (j+1)) = strip d (L.take j) &&& (18446744073709551615 - L.getD j 0) := by
  unfold strip
  rw [List.take_add_one, List.foldl_append, List.getElem?_eq_getElem h, List.getD_eq_getElem?_getD, List.getElem?_eq_getElem h]
  rfl
theorem strip_le (d : Nat) (L : List Nat) : strip d L ≤ d := by
  induction L generalizing d with
  | nil => exact Nat.le_refl _
  | cons a L ih => exact Nat.le_trans (ih _) Nat.and_le_left
def dummyL (q : Int) (ws : List Int) (n : Nat) : List Int := if goodB q ws n then mem (strip (2^n - 1) ((inOrder n).filter (leastP (winB q ws n) n))) 9 else []
theorem dummyL_yes {q ws n} (h : goodB q ws n = true) : dummyL q ws n = mem (strip (2^n - 1) ((inOrder n).filter (leastP (winB q ws n) n))) 9 := if_pos h
theorem dummyL_no {q ws n} (h : goodB q ws n = false) : dummyL q ws n = [] := if_neg (by rw [h]; simp)

set_option maxRecDepth 20000 in
set_option maxHeartbeats 4000000 in
theorem dummiesOf_any (q : Int) (A : Option Addr) (n cap : Nat) (ws : List Int) (w : World) (hm : n ≤ 9223372036854775807) (hk : Known w A n ws) :
    Calls Try.prog 17 #[.agg #[.int .i64 q, .slice A n cap]] w fun e w' => PairAt (dummyL q ws n) (goodB q ws n) w w' e := by
  have HK := Lib.hid hk
  clear hk
  have hx := Box.new w (.int .i64 q) (.slice A n cap)
  have hb0 := below1 w (.cells #[.int .i64 q, .slice A n cap] 28)
  by_cases hg : Vo.Good q ws n
  · obtain ⟨b, off, rfl, hsl⟩ := HK.out.get hg.lo
    have HSL := Lib.hid hsl
    have HOK := Lib.hid hg.ok
    have HGB := Lib.hid (goodB_true hg)
    have hn9 := hg.hi
    have hn10 : n < 10 := by omega
    clear hg hsl
    go_enter Try.func17, Try.ntmps17
    go_wp2_with fail
    refine (isCommittee_any q _ n cap ws _ hm (HK.out.now hb0)).mono ?_
    rintro e w1 ⟨rfl, hb⟩
    rw [HGB.out]
    have hx1 := hx.now hb
    have hs1 := Lib.hid ((HSL.out.now hb0).now hb)
    obtain ⟨hc0, hc1⟩ := hx1.cells
    go_wp2_with fail
    refine (everybody_any _ _ n cap _ hn10).mono ?_
    rintro e w2 ⟨rfl, hb2⟩
    have hx2 := hx1.now hb2
    have hs2 := Lib.hid (hs1.out.now hb2)
    have g2 := bfrom hb0 (bfrom hb hb2)
    clear hc0 hc1
    obtain ⟨hc0, hc1⟩ := hx2.cells
    go_wp2_with fail
    go_region_held3 (fun w' => w'.cell? ⟨w.heap.size, 0, none⟩ = some (.int .i64 q) ∧ w'.cell? ⟨w.heap.size, 1, none⟩ = some (.slice (some ⟨b, off, none⟩) n cap))
      (first | exact hd | exact hd2 | go_keep)
      (first
        | (go_at_call 57; refine (members_any _ _ n cap _).mono ?_; rintro e w3 ⟨rfl, hb3⟩; have hd := (hx2.drew.now hb3).cells)
        | (go_at_call 56; refine (leastSets_any (winB q ws n) _ _ _ n _ hn10 (wins_asks q b off n cap ws _ hn10 HOK.out (hs2.out.drew.now hb3))).mono ?_; rintro e w4 ⟨A4, cap4, rfl, hown4, hb4⟩; have HO4 := Lib.hid hown4; clear hown4; have hd2 := ((hx2.drew.now hb3).now hb4).cells))
    all_goals
      go_wp2_with fail
      have g4 := Lib.hid (bfrom g2.drew (bfrom hb3 hb4))
      have h34 := Lib.hid (show w.heap.size ≤ w3.heap.size from (bfrom g2.drew hb3).size)
      have HV := Lib.hid (dummyL_yes HGB.out)
      obtain ⟨L, hL⟩ : ∃ L, L = (inOrder n).filter (leastP (winB q ws n) n) := ⟨_, rfl⟩
      have HIn := Lib.hid (show ∀ j, j < L.length → L.getD j 0 < 512 from fun j hj => by
        have h1 : L.getD j 0 ∈ L := by rw [List.getD_eq_getElem?_getD, List.getElem?_eq_getElem hj]; exact List.getElem_mem hj
        have h2 := mem_inOrder.1 (List.mem_filter.1 (show L.getD j 0 ∈ (inOrder n).filter (leastP (winB q ws n) n) from by rw [← hL]; exact h1)).1
        have := pow_lt hn9
        omega)
      have hL512 : L.length ≤ 512 := by
        have h1 := List.length_filter_le (leastP (winB q ws n) n) (inOrder n)
        rw [← hL] at h1
        have h2 := inOrder_len n
        have := pow_lt hn9
        omega
      rw [← hL] at HO4 HV ⊢
      clear hL
      have HD := Lib.hid (show ∀ j, strip (2^n-1) (L.take j) < 512 from fun j => by
        have := strip_le (2^n-1) (L.take j)
        have := pow_lt hn9
        omega)
      go_loopw [4, 6, 18] (fun v _ i wr => ∃ j : Nat, j ≤ L.length ∧ i = .int .i64 j ∧ v = .int .u64 (strip (2^n-1) (L.take j) : Nat) ∧ wr = w4) (fun _ _ i _ => L.length - (intOf i).toNat)
      case atStart => exact ⟨0, Nat.zero_le _, rfl, rfl, rfl⟩
      case round =>
        obtain ⟨j, hj, rfl, rfl, rfl⟩ := hrel
        have hdj := HD.out j
        by_cases hlt : j < L.length
        · obtain ⟨g, cp, hv, hg, hc1', hc2'⟩ := owns_head HO4.out (by omega)
          obtain ⟨rfl, rfl⟩ : A4 = some ⟨g, 0, none⟩ ∧ cap4 = cp := by simpa using hv
          have hOwn : Own wr g 65 L.length (fun i => .int .u64 (L.getD i 0 : Nat)) := Own.of_own HO4.out (fun i hi => by simp [setsV, List.getD_eq_getElem?_getD, hi])
          have hcell : wr.cell? ⟨g, j, none⟩ = some (.int .u64 (L.getD j 0 : Nat)) := hOwn.cell hlt
          have hs512 := HIn.out j hlt
          have HST := Lib.hid (show bits BinOp.andNot IntKind.u64 (strip (2^n-1) (L.take j) : Nat) (L.getD j 0 : Nat) = (strip (2^n-1) (L.take (j+1)) : Nat) from by
            rw [strip_succ _ _ _ hlt, u64_andNot_nat _ _ (by omega) (by omega)])
          clear hOwn hv
          obtain ⟨d', hd'⟩ : ∃ d', d' = strip (2^n-1) (L.take (j+1)) := ⟨_, rfl⟩
          rw [← hd'] at HST
          have HD' := Lib.hid hd'
          clear hd'
          generalize L.getD j 0 = s at *
          generalize strip (2^n-1) (L.take j) = d at *
          go_wp2
          go_roundw
          case rel => exact ⟨j + 1, by omega, by go_num, by rw [HST.out, HD'.out], trivial⟩
          case measure => simp [intOf]; omega
        · have HT := Lib.hid (show strip (2^n-1) (L.take j) = strip (2^n-1) L from by rw [show j = L.length by omega, List.take_length])
          have HLE := Lib.hid (Nat.le_trans h34.out hb4.size)
          generalize strip (2^n-1) (L.take j) = d at *
          have HV2 := Lib.hid (show dummyL q ws n = mem d 9 from by rw [HV.out, HT.out])
          clear HT HV HD HIn HO4
          obtain rfl : j = L.length := by omega
          go_wp2_with fail
          refine (list_any d _ hdj).mono ?_
          rintro e w5 ⟨A5, cap5, rfl, hown5, hb5⟩
          have HO5 := Lib.hid hown5
          clear hown5
          go_wp2
          go_ret2
          exact ⟨A5, cap5, by rw [HV2.out, HGB.out]; rfl, by rw [HV2.out]; exact owns_less HO5.out HLE.out, bfrom g4.out hb5⟩
  · have HGB := Lib.hid (goodB_false hg)
    clear hg
    go_enter Try.func17, Try.ntmps17
    go_wp2_with fail
    refine (isCommittee_any q A n cap ws _ hm (HK.out.now hb0)).mono ?_
    rintro e w1 ⟨rfl, hb⟩
    rw [HGB.out]
    go_wp2
    go_ret2
    rw [dummyL_no HGB.out, HGB.out]
    exact PairAt.none_ (bfrom hb0 hb)
end Go.Proofs.Ytgodohfhhedifab
