/- Contracts of slices.Repeat of a single one, and of what it multiplies by. -/
import Derived.Test.YtkeiojfnjgjliaaBase
import Derived.Test.YtkeiojfnjgjliaaO2
import Derived.Laws.CopyOwn
import Derived.Deep.RegionWith
import Derived.Deep.RegionLaw
namespace Go.Proofs.Ytkeiojfnjgjliaa
open Go.RowKit Vo

set_option maxRecDepth 20000 in
set_option maxHeartbeats 2000000 in
theorem mul64_any (n : Nat) (w : World) (hn : 1 ≤ n ∧ n ≤ 9) :
    Calls Try.prog 143 #[.int .u64 1, .int .u64 n] w fun e w' => e = .returned (.tuple #[.int .u64 0, .int .u64 n]) ∧ w = w' := by
  have : n = 1 ∨ n = 2 ∨ n = 3 ∨ n = 4 ∨ n = 5 ∨ n = 6 ∨ n = 7 ∨ n = 8 ∨ n = 9 := by omega
  rcases this with h | h | h | h | h | h | h | h | h <;> subst h
  all_goals
    go_enter Try.func143, Try.ntmps143
    go_wp2
    go_ret2
    exact ⟨by kernel_rfl, rfl⟩

set_option maxRecDepth 20000 in
set_option maxHeartbeats 2000000 in
theorem mul_any (n : Nat) (w : World) (hn : 1 ≤ n ∧ n ≤ 9) :
    Calls Try.prog 110 #[.int .u64 1, .int .u64 n] w fun e w' => e = .returned (.tuple #[.int .u64 0, .int .u64 n]) ∧ w = w' := by
  go_enter Try.func110, Try.ntmps110
  go_wp2_with (go_at_call 143; refine (mul64_any n w hn).mono ?_; rintro e w' ⟨rfl, rfl⟩)
  go_ret2
  exact ⟨rfl, rfl⟩

theorem copy_same {w : World} {g z d : Nat} {cz : List Value} {t : TypeId} (hg : w.heap[g]? = some (.cells cz.toArray t (0, 0))) (ho : ∀ i, i < z → cz[i]? = some (.int .i64 1)) (hd : d ≤ z) : ∀ j v, (List.replicate d (Value.int .i64 1))[j]? = some v → w.cell? ((⟨g, 0, none⟩ : Addr).add j) = some v := by
  intro j v hv
  obtain ⟨hj, hv⟩ := List.getElem?_eq_some_iff.1 hv
  simp at hj hv
  have h1 := ho j (by omega)
  subst hv
  rcases j with _ | j
  · simp [Addr.add, World.cell?, hg, h1]
  · simp [Addr.add, World.cell?, hg, h1]
theorem splice_ones {cz : List Value} {z d : Nat} (h : z + d ≤ cz.length) (ho : ∀ i, i < z → cz[i]? = some (.int .i64 1)) : ∀ i, i < z + d → (splice cz z (List.replicate d (Value.int .i64 1)))[i]? = some (.int .i64 1) := by
  intro i hi
  unfold splice
  by_cases hz : i < z
  · rw [List.getElem?_append_left (by simp; omega), List.getElem?_take_of_lt hz]
    exact ho i hz
  · rw [List.getElem?_append_right (by simp; omega), List.getElem?_append_left (by simp; omega), List.getElem?_replicate, if_pos (by simp; omega)]
theorem splice_len {cz : List Value} {z d : Nat} (h : z + d ≤ cz.length) : (splice cz z (List.replicate d (Value.int .i64 1))).length = cz.length := by
  unfold splice; simp; omega
theorem one_cell1 {x : Int} : ∀ v ∈ [Value.int .i64 x], v.oneCell' = true := by intro v hv; simp at hv; subst hv; rfl
theorem copy_one {w : World} {b : Nat} {x : Value} (h : w.cell? ⟨b, 0, none⟩ = some x) : ∀ j v, [x][j]? = some v → w.cell? ((⟨b, 0, none⟩ : Addr).add j) = some v := by
  intro j v hv
  rcases j with _ | j
  · simp at hv
    subst hv
    simpa [Addr.add] using h
  · simp at hv

set_option maxRecDepth 20000 in
set_option maxHeartbeats 4000000 in
theorem repeat_any (b n cap : Nat) (w : World) (h1 : 1 ≤ n) (h9 : n ≤ 9) (hb : b < w.heap.size) (hc : w.cell? ⟨b, 0, none⟩ = some (.int .i64 1)) :
    Calls Try.prog 79 #[.slice (some ⟨b, 0, none⟩) 1 cap, .int .i64 n] w fun e w' => ∃ g, e = .returned (.slice (some ⟨g, 0, none⟩) n n) ∧ w.heap.size ≤ g ∧ Ints w' g n (List.replicate n 1) ∧ Below w.heap.size w w' := by
  have hmk := run_make_row' (P := Try.prog) 22 3 (.int .i64 0) 8 Try.underlying22 infoInt rfl .i64 .i64 n (by omega) (by omega)
  have hsz1 : (Try.prog.info? 3).map (·.size) = some 1 := by kernel_rfl
  obtain ⟨cur, hcur⟩ : ∃ cur : List Value, cur = (madeCells #[.int .i64 0] n).toList := ⟨_, rfl⟩
  have HCUR := Lib.hid hcur
  have HCURL := Lib.hid (show cur.length = n from by rw [hcur]; simp [size_madeCells])
  have hcur0 : (madeCells #[.int .i64 0] n) = cur.toArray := by rw [hcur]
  clear hcur
  go_enter Try.func79, Try.ntmps79
  have hb1 := below1 w (.cells cur.toArray 3)
  have hg1 := heap_alloc_new w (.cells cur.toArray 3)
  have hc1 := (hb1.cell (p := ⟨b, 0, none⟩) hb).trans hc
  have HMIN := Lib.hid (show [Value.int .i64 1].length = Nat.min 1 n from by show 1 = Nat.min 1 n; simp only [Nat.min_def]; split <;> omega)
  have HFIT := Lib.hid (show 0 + [Value.int .i64 1].length ≤ cur.length from by rw [HCURL.out]; simpa using h1)
  go_wp2_with (first
    | (go_at_call 110; refine (mul_any n w ⟨h1, h9⟩).mono ?_; rintro e w' ⟨rfl, rfl⟩)
    | (with_reducible refine wpList_copy_splice rfl _ _ 22 22 rfl 3 Try.underlying22 hsz1 (some ⟨w.heap.size, 0, none⟩) (some ⟨b, 0, none⟩) n n 1 cap rfl rfl w.heap.size 0 cur 3 hg1 [.int .i64 1] HMIN.out (fun _ => ⟨rfl, ⟨b, 0, none⟩, rfl, copy_one hc1⟩) HFIT.out one_cell1 w.heap.size w hb1 (Nat.le_refl _) ?_; intro w4 hg4 hb4))
  have hl4 : (splice cur 0 [Value.int .i64 1]).length = n := by unfold splice; have := HCURL.out; simp; omega
  obtain ⟨c4, hc4⟩ : ∃ c4, c4 = splice cur 0 [Value.int .i64 1] := ⟨_, rfl⟩
  have hone : ∀ i, i < 1 → c4[i]? = some (.int .i64 1) := fun i hi => by
    obtain rfl : i = 0 := by omega
    rw [hc4]; simp [splice]
  have HG4 := Lib.hid (show w4.heap[w.heap.size]? = some (.cells c4.toArray 3 (0, 0)) from by rw [hc4]; exact hg4.out)
  have HL4 := Lib.hid (show c4.length = n from by rw [hc4]; exact hl4)
  have HONE := Lib.hid hone
  clear hg4 hl4 hone hc4 hcur0 hmk
  go_loopw [8] (fun m wr => ∃ (z : Nat) (cz : List Value), 1 ≤ z ∧ z ≤ n ∧ m = .int .i64 z ∧ wr.heap[w.heap.size]? = some (.cells cz.toArray 3 (0, 0)) ∧ cz.length = n ∧ (∀ i, i < z → cz[i]? = some (.int .i64 1)) ∧ Below w.heap.size w wr) (fun m _ => n - (intOf m).toNat)
  case atStart => exact ⟨1, c4, by omega, h1, rfl, HG4.out, HL4.out, HONE.out, hb4⟩
  case round =>
    obtain ⟨z, cz, hz1, hzn, rfl, hgz, hlz, hoz, hbz⟩ := hrel
    have HGZ := Lib.hid hgz
    have HOZ := Lib.hid hoz
    have HLZ := Lib.hid hlz
    clear hgz hoz hlz
    by_cases hlt : z < n
    · obtain ⟨d, hd⟩ : ∃ d, d = Nat.min z (n - z) := ⟨_, rfl⟩
      have hd1 : 1 ≤ d ∧ z + d ≤ n ∧ d ≤ z := by rw [hd]; simp only [Nat.min_def]; split <;> omega
      have HD := Lib.hid hd
      clear hd
      go_wp2_with fail
      have HSRC := Lib.hid (copy_same (w := wr) (g := w.heap.size) (z := z) (d := d) HGZ.out HOZ.out hd1.2.2)
      have HLEN := Lib.hid (show (List.replicate d (Value.int .i64 1)).length = Nat.min z (n - z) from by rw [List.length_replicate]; exact HD.out)
      have HFI := Lib.hid (show z + (List.replicate d (Value.int .i64 1)).length ≤ cz.length from by rw [List.length_replicate, HLZ.out]; omega)
      have HON := Lib.hid (show ∀ v ∈ List.replicate d (Value.int .i64 1), v.oneCell' = true from by intro v hv; rw [List.eq_of_mem_replicate hv]; rfl)
      have hzn2 : (z : Int) ≤ n := by omega
      have hne : ¬ n = z := by omega
      go_region_law (refine step_copy_splice rfl (.tmp 41) (.tmp 44) 22 22 rfl 3 Try.underlying22 hsz1 (some ⟨w.heap.size, z, none⟩) (some ⟨w.heap.size, 0, none⟩) (n - z) (n - z) z n ?_ ?_ w.heap.size z cz 3 HGZ.out (List.replicate d (.int .i64 1)) HLEN.out (fun _ => ⟨rfl, ⟨w.heap.size, 0, none⟩, rfl, HSRC.out⟩) HFI.out HON.out w.heap.size w hbz.drew (Nat.le_refl _) ?_; (first | with_reducible rfl | rfl); (first | with_reducible rfl | rfl); intro w6 hg6 hb6)
      have HG6 := Lib.hid hg6.out
      have HO6 := Lib.hid (splice_ones (cz := cz) (z := z) (d := d) (by rw [HLZ.out]; omega) HOZ.out)
      have HL6 := Lib.hid ((splice_len (cz := cz) (z := z) (d := d) (by rw [HLZ.out]; omega)).trans HLZ.out)
      clear hg6
      have HWR : IntKind.i64.wrap ((z : Int) + d) = ((z + d : Nat) : Int) := (IntWalk.i64_in _ (by omega)).trans (by omega)
      simp only [Act.put, List.setIfInBounds_toArray, List.set_cons_zero, List.set_cons_succ, List.getElem_toArray, List.getElem_cons_zero, List.getElem_cons_succ]
      rw [HWR]
      go_wp2
      go_roundw
      case rel => exact ⟨z + d, _, by omega, by omega, by go_num, HG6.out, HL6.out, HO6.out, (by first | exact hb6 | exact hb6.drew)⟩
      case measure => simp [intOf]; omega
    · obtain rfl : z = n := by omega
      have hI : Ints _ w.heap.size z (List.replicate z 1) := ⟨_, HGZ.out, by simp [HLZ.out], fun i hi => by
        rw [List.getElem?_toArray, HOZ.out i hi]
        simp [List.getD_eq_getElem?_getD, hi]⟩
      have HI := Lib.hid hI
      clear hI
      go_wp2
      go_ret
      exact ⟨w.heap.size, rfl, Nat.le_refl _, HI.out, hbz⟩
end Go.Proofs.Ytkeiojfnjgjliaa
