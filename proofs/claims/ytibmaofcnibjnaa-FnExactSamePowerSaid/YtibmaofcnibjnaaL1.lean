/- Contracts of what the laws use: sizes, copies, comparisons. -/
import Derived.Test.YtibmaofcnibjnaaW2
namespace Go.Proofs.Ytibmaofcnibjnaa
open Go.RowKit Vo

set_option maxHeartbeats 400000 in
theorem szIntS_yes (A : Option Addr) (n cap : Nat) (l : Int) (w : World) (h0 : (n : Int) ≤ l) (h1 : l ≤ 1048576) :
    Calls Try.prog 62 #[.slice A n cap, .int .i64 l] w fun e w' => e = .returned (.int .i64 (l - n)) ∧ w = w' := by
  go_enter Try.func62, Try.ntmps62
  go_wp2
  go_ret
  exact ⟨rfl, rfl⟩
set_option maxHeartbeats 400000 in
theorem szIntS_no (A : Option Addr) (n cap : Nat) (l : Int) (w : World) (hm : n ≤ 9223372036854775807) (hl : 0 ≤ l) (h0 : l < (n : Int)) (h1 : l ≤ 1048576) :
    Calls Try.prog 62 #[.slice A n cap, .int .i64 l] w fun e w' => e = .returned (.int .i64 (-1)) ∧ w = w' := by
  go_enter Try.func62, Try.ntmps62
  go_wp2
  go_ret
  exact ⟨rfl, rfl⟩

set_option maxHeartbeats 400000 in
theorem szCommittee_yes (v : Value) (A : Option Addr) (n cap : Nat) (w : World) (h0 : n ≤ 1048576) :
    Calls Try.prog 31 #[.agg #[v, .slice A n cap], .int .i64 1048576] w fun e w' => e = .returned (.int .i64 (1048576 - n)) ∧ Below w.heap.size w w' := by
  go_enter Try.func31, Try.ntmps31
  go_wp2_with fail
  refine (szIntS_yes A n cap 1048576 _ (by omega) (by omega)).mono ?_
  rintro e w1 ⟨rfl, rfl⟩
  go_wp2
  go_ret
  exact ⟨rfl, below1 _ _⟩
set_option maxHeartbeats 400000 in
theorem szCommittee_no (v : Value) (A : Option Addr) (n cap : Nat) (w : World) (hm : n ≤ 9223372036854775807) (h0 : 1048576 < n) :
    Calls Try.prog 31 #[.agg #[v, .slice A n cap], .int .i64 1048576] w fun e w' => e = .returned (.int .i64 (-1)) ∧ Below w.heap.size w w' := by
  go_enter Try.func31, Try.ntmps31
  go_wp2_with fail
  refine (szIntS_no A n cap 1048576 _ hm (by omega) (by omega) (by omega)).mono ?_
  rintro e w1 ⟨rfl, rfl⟩
  go_wp2
  go_ret
  exact ⟨rfl, below1 _ _⟩

set_option maxHeartbeats 1000000 in
theorem toIntS_any (A : Option Addr) (n cap : Nat) (xs : List Int) (w : World) (hn : n ≤ 1048576) (hk : Known w A n xs) :
    Calls Try.prog 65 #[.slice A n cap] w fun e w' => e = .returned (.slice (some ⟨w.heap.size, 0, none⟩) n n) ∧ Ints w' w.heap.size n xs ∧ Below w.heap.size w w' := by
  have hmk := run_make_row' (P := Try.prog) 22 3 (.int .i64 0) 8 Try.underlying22 infoInt rfl .i64 .i64 n (by omega) (by omega)
  have HK := Lib.hid hk
  clear hk
  go_enter Try.func65, Try.ntmps65
  go_wp2
  go_loopw [4] (fun i wr => ∃ k : Nat, k ≤ n ∧ i = .int .i64 k ∧ Own wr w.heap.size 3 n (fun j => .int .i64 (if j < k then xs.getD j 0 else 0)) ∧ Below w.heap.size w wr) (fun i _ => n - (intOf i).toNat)
  case atStart =>
    refine ⟨0, Nat.zero_le _, rfl, ?_, below1 _ _⟩
    refine (Own.of_row (World.rowIs_made w (.int .i64 0) n 3)).congr fun i _ => ?_
    simp
  case round =>
    obtain ⟨k, hk, rfl, hown, hb⟩ := hrel
    have HO := Lib.hid hown
    clear hown
    by_cases hlt : k < n
    · obtain ⟨b, off, rfl, hsl⟩ := HK.out.get (by omega)
      have hcell := (hsl.now hb).cell k hlt
      have hbl := hsl.lt
      have hold := HO.out.cell hlt
      have hfr := HO.out.frozen k
      have HS := Lib.hid (HO.out.set k (.int .i64 (xs.getD k 0)))
      clear hsl
      simp only [Nat.lt_irrefl, if_false] at hold
      obtain ⟨x, hxe⟩ : ∃ x, x = xs.getD k 0 := ⟨_, rfl⟩
      rw [← hxe] at hcell HS
      have HX := Lib.hid hxe
      clear hxe
      go_wp2
      go_roundw
      case rel =>
        refine ⟨k + 1, by omega, by go_num, ?_, hb.setCell (Nat.le_refl _) _⟩
        refine HS.out.congr fun i hi => ?_
        by_cases e : i = k
        · subst e; rw [if_pos rfl, if_pos (by omega), HX.out]
        · rw [if_neg e]
          by_cases h : i < k
          · rw [if_pos h, if_pos (by omega)]
          · rw [if_neg h, if_neg (by omega)]
      case measure => simp [intOf]; omega
    · obtain rfl : k = n := by omega
      go_wp2
      go_ret
      refine ⟨rfl, HO.out.congr fun i hi => by simp [hi], hb⟩

set_option maxHeartbeats 1000000 in
theorem toCommittee_any (q : Int) (A : Option Addr) (n cap : Nat) (xs : List Int) (w : World) (hn : n ≤ 1048576) (hk : Known w A n xs) :
    Calls Try.prog 33 #[.agg #[.int .i64 q, .slice A n cap]] w fun e w' => e = .returned (.agg #[.int .i64 q, .slice (some ⟨w.heap.size + 3, 0, none⟩) n n]) ∧ Ints w' (w.heap.size + 3) n xs ∧ Below w.heap.size w w' := by
  have HK := Lib.hid hk
  clear hk
  go_enter Try.func33, Try.ntmps33
  go_wp2_with fail
  refine (toIntS_any A n cap xs _ hn (((HK.out.now (below1 _ _)).now (below1 _ _)).now (below1 _ _))).mono ?_
  rintro e w4 ⟨rfl, hI, hb⟩
  have HI := Lib.hid hI
  clear hI
  obtain ⟨hc, hf⟩ := bcell hb
  have hz := hb.size
  simp only [World.size_alloc] at hc hf hz
  go_wp2
  have hI := HI.out
  simp only [World.size_alloc] at hI
  refine bodyPost_ret (v := .agg #[.int .i64 q, .slice (some ⟨w.heap.size + 3, 0, none⟩) n n]) (by simp [results, Try.results33, go_sem, hc]) rfl ⟨rfl, ?_, ?_⟩
  · exact ((hI.far (by simp) _).far (by simp; omega) _).far (by simp; omega) _
  · exact (((bfrom (((below1 w _).alloc (by simp) _).alloc (by simp; omega) _) hb).setCell (by simp; omega) _).setCell (by simp) _).setCell (by simp) _

/-- The first n of two lists are the same. -/
def sameB (xs ys : List Int) (n : Nat) : Bool := decide (∀ j, j < n → xs.getD j 0 = ys.getD j 0)
theorem sameB_yes {xs ys : List Int} {n : Nat} (h : ∀ j, j < n → xs.getD j 0 = ys.getD j 0) : sameB xs ys n = true := decide_eq_true h
theorem sameB_no {xs ys : List Int} {n : Nat} (h : ¬ ∀ j, j < n → xs.getD j 0 = ys.getD j 0) : sameB xs ys n = false := decide_eq_false h

set_option maxHeartbeats 1000000 in
theorem eqIntS_in (b off n c b2 off2 c2 : Nat) (xs ys : List Int) (w : World) (hm : n ≤ 9223372036854775807) (hx : Sl w b off n xs) (hy : Sl w b2 off2 n ys) :
    Calls Try.prog 69 #[.slice (some ⟨b, off, none⟩) n c, .slice (some ⟨b2, off2, none⟩) n c2] w fun e w' => e = .returned (.bool (sameB xs ys n)) ∧ Below w.heap.size w w' := by
  have HX := Lib.hid hx
  have HY := Lib.hid hy
  clear hx hy
  go_enter Try.func69, Try.ntmps69
  go_wp2
  go_loopw [5] (fun i wr => ∃ k : Nat, k ≤ n ∧ i = .int .i64 k ∧ (∀ j, j < k → xs.getD j 0 = ys.getD j 0) ∧ Below w.heap.size w wr) (fun i _ => n - (intOf i).toNat)
  case atStart => exact ⟨0, Nat.zero_le _, rfl, fun _ h => by omega, Below.refl _ _⟩
  case round =>
    obtain ⟨k, hk, rfl, hsame, hb⟩ := hrel
    have HS := Lib.hid hsame
    clear hsame
    by_cases hlt : k < n
    · have hcx := (HX.out.now hb).cell k hlt
      have hcy := (HY.out.now hb).cell k hlt
      by_cases he : xs.getD k 0 = ys.getD k 0
      · have HS2 := Lib.hid (show ∀ j, j < k + 1 → xs.getD j 0 = ys.getD j 0 from fun j hj => by
          by_cases e : j = k
          · subst e; exact he
          · exact HS.out j (by omega))
        rw [he] at hcx
        clear he
        generalize ys.getD k 0 = y at *
        have hlt' : (k : Int) < n := by omega
        go_wp2_with fail
        go_quiet (fail)
        go_wp2
        go_roundw
        case rel => exact ⟨k + 1, by omega, by go_num, HS2.out, below_drewN hb _⟩
        case measure => simp [intOf]; omega
      · have HN := Lib.hid (sameB_no (fun g => he (g k hlt)))
        have hne : (xs.getD k 0 == ys.getD k 0) = false := by simpa using he
        have hne2 : (xs.getD k 0 != ys.getD k 0) = true := by simpa using he
        generalize xs.getD k 0 = x at *
        generalize ys.getD k 0 = y at *
        have hlt' : (k : Int) < n := by omega
        go_wp2_with fail
        go_quiet (fail)
        go_wp2
        go_ret
        exact ⟨by rw [HN.out]; rfl, below_drewN hb _⟩
    · obtain rfl : k = n := by omega
      go_wp2
      go_ret
      exact ⟨by rw [sameB_yes HS.out]; rfl, hb⟩

set_option maxHeartbeats 1000000 in
theorem eqCommittee_same (q : Int) (b off n c b2 off2 c2 : Nat) (ws : List Int) (w : World) (hm : n ≤ 9223372036854775807) (hx : Sl w b off n ws) (hy : Sl w b2 off2 n ws) :
    Calls Try.prog 36 #[.agg #[.int .i64 q, .slice (some ⟨b, off, none⟩) n c], .agg #[.int .i64 q, .slice (some ⟨b2, off2, none⟩) n c2]] w fun e w' => e = .returned (.bool true) ∧ Below w.heap.size w w' := by
  have HX := Lib.hid hx
  have HY := Lib.hid hy
  clear hx hy
  have HS := Lib.hid (sameB_yes (xs := ws) (ys := ws) (n := n) (fun _ _ => rfl))
  go_enter Try.func36, Try.ntmps36
  go_wp2_with fail
  refine (eqIntS_in b off n c b2 off2 c2 ws ws _ hm ((HX.out.alloc _).alloc _) ((HY.out.alloc _).alloc _)).mono ?_
  rintro e w1 ⟨rfl, hb⟩
  rw [HS.out]
  go_wp2
  go_ret
  exact ⟨rfl, bfrom ((below1 w _).alloc (by simp) _) hb⟩
end Go.Proofs.Ytibmaofcnibjnaa
