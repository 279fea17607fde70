/- Games as arguments: how large they are, and how they are copied. -/
import Derived.Test.YtipplbcjdcdapabGreatK4
import Derived.Test.YtipplbcjdcdapabGreatR5
import Derived.Test.YtipplbcjdcdapabGreatL1
namespace Go.Proofs.YtipplbcjdcdapabGreat
open Go.RowKit Vo

/-- A slice of slices of integers that came in: what is known of it. -/
def KSS (w : World) (A : Option Addr) (n : Nat) (L : List (List Int)) : Prop :=
  L.length = n ∧ ∃ b off, (1 ≤ n → A = some ⟨b, off, none⟩ ∧ b < w.heap.size) ∧ ∀ i, i < n → ∃ A' cap, w.cell? ⟨b, off + i, none⟩ = some (.slice A' (L.getD i []).length cap) ∧ (L.getD i []).length ≤ 9223372036854775807 ∧ Known w A' (L.getD i []).length (L.getD i [])
theorem KSS.now {w w' : World} {A : Option Addr} {n : Nat} {L : List (List Int)} (h : KSS w A n L) (hb : Below w.heap.size w w') : KSS w' A n L := by
  obtain ⟨h1, b, off, h2, h3⟩ := h
  refine ⟨h1, b, off, fun hn => ⟨(h2 hn).1, Nat.lt_of_lt_of_le (h2 hn).2 hb.size⟩, fun i hi => ?_⟩
  obtain ⟨A', cap, hc, hm, hk⟩ := h3 i hi
  exact ⟨A', cap, (hb.cell (p := ⟨b, off + i, none⟩) (h2 (by omega)).2).trans hc, hm, hk.now hb⟩

theorem totK_succ (L : List (List Int)) (k : Nat) : totK L (k+1) = totK L k + (L.getD k []).length := rfl
theorem tot_row {L : List (List Int)} {n i : Nat} (hn : L.length = n) (hi : i < n) : totK L i + (L.getD i []).length ≤ tot L := by
  have h1 : totK L (i+1) ≤ totK L n := totK_le L (by omega)
  have h2 := totK_succ L i
  have h3 : totK L n = tot L := by rw [← hn]; rfl
  omega

set_option maxRecDepth 20000 in
set_option maxHeartbeats 2000000 in
theorem szIntSS_any (A : Option Addr) (n cap : Nat) (L : List (List Int)) (left : Int) (w : World) (h0 : 0 ≤ left) (h1 : left ≤ 1048576) (hm : n ≤ 9223372036854775807) (hk : KSS w A n L) :
    Calls Tryz.prog 11 #[.slice A n cap, .int .i64 left] w fun e w' => (e = .returned (.int .i64 (-1)) ∨ ((n : Int) + (tot L : Nat) ≤ left ∧ e = .returned (.int .i64 (left - n - (tot L : Nat))))) ∧ w = w' := by
  by_cases hn : left < n
  · go_enter Tryz.func11, Tryz.ntmps11
    go_wp2
    go_ret
    exact ⟨Or.inl rfl, rfl⟩
  · obtain ⟨hlen, b, off, hA, hrow⟩ := hk
    have HROW := Lib.hid hrow
    have HTOT := Lib.hid (show totK L n = tot L from by rw [← hlen]; rfl)
    have hn1 : (n : Int) ≤ left := by omega
    obtain ⟨T, hT⟩ : ∃ T, T = tot L := ⟨_, rfl⟩
    rw [← hT] at HTOT ⊢
    clear hT hrow
    have HA := Lib.hid hA
    have HLEN := Lib.hid hlen
    clear hA hlen
    have hge : ¬ left - (n : Int) < 0 := by omega
    go_enter Tryz.func11, Tryz.ntmps11
    go_wp2_with fail
    go_loop [1, 5] (fun q i => ∃ k : Nat, k ≤ n ∧ i = .int .i64 k ∧ q = .int .i64 (left - n - (totK L k : Nat)) ∧ (n : Int) + (totK L k : Nat) ≤ left) (fun _ i => n - (intOf i).toNat)
    case atStart => exact ⟨0, Nat.zero_le _, rfl, by simp [totK], by simp [totK]; omega⟩
    case round =>
      obtain ⟨k, hkn, rfl, rfl, hle⟩ := hrel
      by_cases hlt : k < n
      · obtain ⟨rfl, hbl⟩ := HA.out (by omega)
        obtain ⟨A', cap', hcell, hm', _⟩ := HROW.out k hlt
        have HS := Lib.hid (totK_succ L k)
        obtain ⟨p, hp⟩ : ∃ p, p = totK L k := ⟨_, rfl⟩
        rw [← hp] at HS hle ⊢
        have HPP := Lib.hid hp
        clear hp
        by_cases hr : left - n - (p : Int) < ((L.getD k []).length : Int)
        · generalize (L.getD k []).length = m at *
          go_wp2_with (go_at_call 23; refine (szIntS_no A' m cap' (left - n - (p : Nat)) _ hm' (by omega) hr (by omega)).mono ?_; rintro e w' ⟨rfl, rfl⟩)
          go_ret
          exact ⟨Or.inl rfl, rfl⟩
        · have hr2 : ((L.getD k []).length : Int) ≤ left - n - (p : Int) := by omega
          clear hr
          generalize (L.getD k []).length = m at *
          have hge2 : ¬ left - (n : Int) - (p : Int) - (m : Int) < 0 := by omega
          go_wp2_with (go_at_call 23; refine (szIntS_yes A' m cap' (left - n - (p : Nat)) _ hr2 (by omega)).mono ?_; rintro e w' ⟨rfl, rfl⟩)
          go_round
          case rel => exact ⟨k + 1, by omega, by go_num, by rw [HS.out]; first | (congr 1; omega) | (simp; omega), by rw [HS.out]; omega⟩
          case measure => simp [intOf]; omega
      · obtain rfl : k = n := by omega
        rw [HTOT.out] at hle ⊢
        go_wp2
        go_ret
        first | exact ⟨Or.inr ⟨hle, rfl⟩, rfl⟩ | exact ⟨Or.inr rfl, rfl⟩

set_option maxHeartbeats 1000000 in
theorem szGame_any (m : Int) (A : Option Addr) (n cap : Nat) (L : List (List Int)) (left : Int) (w : World) (h0 : 0 ≤ left) (h1 : left ≤ 1048576) (hm : n ≤ 9223372036854775807) (hk : KSS w A n L) :
    Calls Tryz.prog 4 #[.agg #[.int .i64 m, .slice A n cap], .int .i64 left] w fun e w' => (e = .returned (.int .i64 (-1)) ∨ ((n : Int) + (tot L : Nat) ≤ left ∧ e = .returned (.int .i64 (left - n - (tot L : Nat))))) ∧ Below w.heap.size w w' := by
  have HK := Lib.hid (hk.now (below1 w (.cells #[.int .i64 m, .slice A n cap] 24)))
  clear hk
  obtain ⟨T, hT⟩ : ∃ T, T = tot L := ⟨_, rfl⟩
  have HT := Lib.hid hT
  rw [← hT]
  clear hT
  go_enter Tryz.func4, Tryz.ntmps4
  go_wp2_with fail
  refine (szIntSS_any A n cap L left _ h0 h1 hm HK.out).mono ?_
  rw [← HT.out]
  rintro e w1 ⟨h, rfl⟩
  rcases h with rfl | ⟨hle, rfl⟩
  · go_wp2
    go_ret
    exact ⟨Or.inl rfl, below1 w _⟩
  · have hge : ¬ left - (n : Int) - (T : Int) < 0 := by omega
    go_wp2
    go_ret
    first | exact ⟨Or.inr ⟨hle, rfl⟩, below1 w _⟩ | exact ⟨Or.inr rfl, below1 w _⟩

set_option maxRecDepth 20000 in
set_option maxHeartbeats 4000000 in
theorem toIntSS_any (A : Option Addr) (n cap : Nat) (L : List (List Int)) (w : World) (hn : n + tot L ≤ 1048576) (hk : KSS w A n L) :
    Calls Tryz.prog 17 #[.slice A n cap] w fun e w' => e = .returned (.slice (some ⟨w.heap.size, 0, none⟩) n n) ∧ Lies (RSS L w.heap.size w'.heap.size (.slice (some ⟨w.heap.size, 0, none⟩) n n)) w.heap.size w'.heap.size w' ∧ Below w.heap.size w w' := by
  have hmk := run_make_row' (P := Tryz.prog) 22 25 (.slice none 0 0) 24 Tryz.underlying22 infoInts rfl .i64 .i64 n (by omega) (by omega)
  have HK := Lib.hid hk
  have HLEN := Lib.hid hk.1
  have HROW := Lib.hid (fun i (hi : i < n) => tot_row hk.1 hi)
  clear hk
  go_enter Tryz.func17, Tryz.ntmps17
  go_wp2
  go_loopw [4] (fun i wr => ∃ (k : Nat) (f : Nat → Value) (G : Nat → Nat), k ≤ n ∧ i = .int .i64 k ∧ Own wr w.heap.size 25 n (fun j => if j < k then f j else .slice none 0 0) ∧ (∀ i, i < k → RI (L.getD i []) (G i) (G i + 1) (f i) wr ∧ w.heap.size < G i ∧ G i < wr.heap.size ∧ ∀ j, j < i → G j < G i) ∧ Below w.heap.size w wr) (fun i _ => n - (intOf i).toNat)
  case atStart =>
    refine ⟨0, fun _ => .slice none 0 0, fun _ => 0, Nat.zero_le _, rfl, ?_, fun i hi => by omega, below1 _ _⟩
    refine (Own.of_row (World.rowIs_made w (.slice none 0 0) n 25)).congr fun i _ => ?_
    simp
  case round =>
    obtain ⟨k, f, G, hkn, rfl, hown, hrows, hb⟩ := hrel
    have HO := Lib.hid hown
    have HR := Lib.hid hrows
    have hgl := hown.lt
    clear hown hrows
    by_cases hlt : k < n
    · have hks := HK.out.now hb
      obtain ⟨_, b, off, hA, hrow⟩ := hks
      obtain ⟨rfl, hbl⟩ := hA (by omega)
      obtain ⟨A', cap', hcell, _, hkn'⟩ := hrow k hlt
      have hml : (L.getD k []).length ≤ 1048576 := by have := HROW.out k hlt; omega
      have HKN := Lib.hid hkn'
      clear hA hrow hkn'
      obtain ⟨row, hrw⟩ : ∃ row, row = L.getD k [] := ⟨_, rfl⟩
      rw [← hrw] at hcell hml HKN
      have HRW := Lib.hid hrw
      obtain ⟨m, hmm⟩ : ∃ m, m = row.length := ⟨_, rfl⟩
      rw [← hmm] at hcell hml HKN
      have HM := Lib.hid hmm
      clear hrw hmm
      have hold := HO.out.cell hlt
      simp only [Nat.lt_irrefl, if_false] at hold
      have hfr := HO.out.frozen k
      have K := Lib.hid (show ∀ W, Below wr.heap.size wr W → (W.cell? ⟨w.heap.size, k, none⟩ = some (.slice none 0 0) ∧ W.frozen? ⟨w.heap.size, k, none⟩ = false) from fun W hW => ⟨(hW.cell (p := ⟨w.heap.size, k, none⟩) hgl).trans hold, (hW.frozen (p := ⟨w.heap.size, k, none⟩) hgl).trans hfr⟩)
      clear hold hfr
      go_wp2_with (go_at_call 7; refine (toIntS_any A' m cap' row _ hml HKN.out).mono ?_; rintro e w2 ⟨rfl, hi2, hb2⟩; have HI2 := Lib.hid hi2; clear hi2; obtain ⟨q0, q1⟩ := K.out _ hb2)
      have hz2 : wr.heap.size < w2.heap.size := HI2.out.lt
      have HO2 := Lib.hid ((HO.out.below hb2 hgl).set k (.slice (some ⟨wr.heap.size, 0, none⟩) m m))
      have HR2 := Lib.hid (show ∀ i, i < k → RI (L.getD i []) (G i) (G i + 1) (f i) (w2.setCell ⟨w.heap.size, k, none⟩ (.slice (some ⟨wr.heap.size, 0, none⟩) m m)) from fun i hi => by
        obtain ⟨h1, h2, h3, _⟩ := HR.out i hi
        refine RS.keep h1 (Or.inr fun j j1 j2 => ?_)
        exact (Below.heap_setCell _ _ _ j (by simp; omega)).trans (hb2.block j (by omega)))
      have HN2 := Lib.hid (show RI row wr.heap.size (wr.heap.size + 1) (.slice (some ⟨wr.heap.size, 0, none⟩) m m) (w2.setCell ⟨w.heap.size, k, none⟩ (.slice (some ⟨wr.heap.size, 0, none⟩) m m)) from
        ⟨_, m, by rw [HM.out], Or.inr ⟨wr.heap.size, rfl, Nat.le_refl _, by omega, by rw [← HM.out]; exact Own.far HI2.out (by simp; omega) _⟩⟩)
      have HB2 := Lib.hid ((bfrom hb hb2).setCell (p := ⟨w.heap.size, k, none⟩) (by simp) (.slice (some ⟨wr.heap.size, 0, none⟩) m m))
      go_roundw
      case rel =>
        refine ⟨k + 1, fun i => if i = k then .slice (some ⟨wr.heap.size, 0, none⟩) m m else f i, fun i => if i = k then wr.heap.size else G i, by omega, by go_num, ?_, fun i hi => ?_, HB2.out⟩
        · refine HO2.out.congr fun i hi => ?_
          by_cases e : i = k
          · subst e; simp
          · rw [if_neg e]
            by_cases h : i < k
            · rw [if_pos h, if_pos (by omega)]; show f i = (if i = k then _ else f i); rw [if_neg e]
            · rw [if_neg h, if_neg (by omega)]
        · by_cases e : i = k
          · subst e
            simp only [if_true]
            rw [← HRW.out]
            refine ⟨HN2.out, hgl, by simpa using hz2, fun j hj => ?_⟩
            rw [if_neg (by omega)]
            exact (HR.out j hj).2.2.1
          · simp only [if_neg e]
            obtain ⟨_, h2, h3, h4⟩ := HR.out i (by omega)
            refine ⟨HR2.out i (by omega), h2, by simp; omega, fun j hj => ?_⟩
            rw [if_neg (by omega)]
            exact h4 j hj
      case measure => simp [intOf]; omega
    · obtain rfl : k = n := by omega
      go_wp2
      go_ret
      refine ⟨rfl, RSS.lies ⟨_, k, by rw [HLEN.out], Or.inr ⟨w.heap.size, f, rfl, Nat.le_refl _, hgl, ?_, G, fun i hi => ?_⟩⟩ (Nat.le_refl _), hb⟩
      · rw [HLEN.out]; exact HO.out.congr fun i hi => by simp [hi]
      · obtain ⟨h1, h2, h3, h4⟩ := HR.out i (by rw [← HLEN.out]; exact hi)
        exact ⟨h1, Or.inr ⟨by omega, h3, by omega, fun j hj => Or.inr (by have := h4 j hj; omega)⟩⟩

set_option maxRecDepth 20000 in
set_option maxHeartbeats 2000000 in
theorem toGame_any (m : Int) (A : Option Addr) (n cap : Nat) (L : List (List Int)) (w : World) (hn : n + tot L ≤ 1048576) (hk : KSS w A n L) :
    Calls Tryz.prog 6 #[.agg #[.int .i64 m, .slice A n cap]] w fun e w' => e = .returned (.agg #[.int .i64 m, .slice (some ⟨w.heap.size + 3, 0, none⟩) n n]) ∧ Lies (RSS L (w.heap.size + 3) w'.heap.size (.slice (some ⟨w.heap.size + 3, 0, none⟩) n n)) (w.heap.size + 3) w'.heap.size w' ∧ Below w.heap.size w w' := by
  have HK := Lib.hid hk
  clear hk
  go_enter Tryz.func6, Tryz.ntmps6
  go_wp2_with fail
  refine (toIntSS_any A n cap L _ hn (((HK.out.now (below1 _ _)).now (below1 _ _)).now (below1 _ _))).mono ?_
  rintro e w4 ⟨rfl, hI, hb⟩
  simp only [World.size_alloc] at hI
  have HI := Lib.hid hI
  clear hI
  obtain ⟨hc, hf⟩ := bcell hb
  have hz := hb.size
  simp only [World.size_alloc] at hc hf hz
  go_wp2
  refine bodyPost_ret (v := .agg #[.int .i64 m, .slice (some ⟨w.heap.size + 3, 0, none⟩) n n]) (by simp [results, Tryz.results6, go_sem, hc]) rfl ⟨rfl, ?_, ?_⟩
  · exact Lies.rss_wide (Lies.far (Lies.far (Lies.far HI.out (by simp) _) (by simp) _) (by simp) _) (Nat.le_refl _) (by simp) (by simp)
  · exact (((bfrom (((below1 w _).alloc (by simp) _).alloc (by simp; omega) _) hb).setCell (by simp; omega) _).setCell (by simp) _).setCell (by simp) _
end Go.Proofs.YtipplbcjdcdapabGreat
