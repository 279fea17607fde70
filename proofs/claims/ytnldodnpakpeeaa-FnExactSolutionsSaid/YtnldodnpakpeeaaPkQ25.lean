/- Texts of I2, I3. -/
import Derived.Test.YtnldodnpakpeeaaPkQ05
import Derived.Test.YtnldodnpakpeeaaPkQ08
import Derived.Test.YtnldodnpakpeeaaPkQ01
import Derived.Test.YtnldodnpakpeeaaPkQ24
import Derived.Test.YtnldodnpakpeeaaPkQ03
import Derived.BigQuiet
import Derived.Outline
namespace Go.Proofs.Ytnldodnpakpeeaa
open Go.RowKit Vo

/-- A slice of slices of integers that came in: what is known of it. -/
def KSS (w : World) (A : Option Addr) (n : Nat) (L : List (List Int)) : Prop :=
  L.length = n ∧ ∃ b off, (1 ≤ n → A = some ⟨b, off, none⟩ ∧ b < w.heap.size) ∧ ∀ i, i < n → ∃ A' cap, w.cell? ⟨b, off + i, none⟩ = some (.slice A' (L.getD i []).length cap) ∧ (L.getD i []).length ≤ 9223372036854775807 ∧ Known w A' (L.getD i []).length (L.getD i [])
theorem KSS.now {w w' : World} {A : Option Addr} {n : Nat} {L : List (List Int)} (h : KSS w A n L) (hb : Below w.heap.size w w') : KSS w' A n L := by
  obtain ⟨h1, b, off, h2, h3⟩ := h
  refine ⟨h1, b, off, fun hn => ⟨(h2 hn).1, Nat.lt_of_lt_of_le (h2 hn).2 hb.size⟩, fun i hi => ?_⟩
  obtain ⟨A', cap, hc, hm, hk⟩ := h3 i hi
  exact ⟨A', cap, (hb.cell (p := ⟨b, off + i, none⟩) (h2 (by omega)).2).trans hc, hm, hk.now hb⟩

theorem totK_succ (L : List (List Int)) (k : Nat) : totK L (k+1) = totK L k + (L.getD k []).length := rfl
theorem tot_row {L : List (List Int)} {n i : Nat} (hn : L.length = n) (hi : i < n) : totK L i + (L.getD i []).length ≤ tot L := by
  have h1 : totK L (i+1) ≤ totK L n := totK_le L (by omega)
  have h2 := totK_succ L i
  have h3 : totK L n = tot L := by rw [← hn]; rfl
  omega

set_option maxRecDepth 20000 in
set_option maxHeartbeats 2000000 in
theorem szIntSS_any (A : Option Addr) (n cap : Nat) (L : List (List Int)) (left : Int) (w : World) (h0 : 0 ≤ left) (h1 : left ≤ 1048576) (hm : n ≤ 9223372036854775807) (hk : KSS w A n L) :
    Calls Try.prog 67 #[.slice A n cap, .int .i64 left] w fun e w' => (e = .returned (.int .i64 (-1)) ∨ ((n : Int) + (tot L : Nat) ≤ left ∧ e = .returned (.int .i64 (left - n - (tot L : Nat))))) ∧ w = w' := by
  by_cases hn : left < n
  · go_enter Try.func67, Try.ntmps67
    go_wp2
    go_ret
    exact ⟨Or.inl rfl, rfl⟩
  · obtain ⟨hlen, b, off, hA, hrow⟩ := hk
    have HROW := Lib.hid hrow
    have HTOT := Lib.hid (show totK L n = tot L from by rw [← hlen]; rfl)
    have hn1 : (n : Int) ≤ left := by omega
    obtain ⟨T, hT⟩ : ∃ T, T = tot L := ⟨_, rfl⟩
    rw [← hT] at HTOT ⊢
    clear hT hrow
    have HA := Lib.hid hA
    have HLEN := Lib.hid hlen
    clear hA hlen
    have hge : ¬ left - (n : Int) < 0 := by omega
    go_enter Try.func67, Try.ntmps67
    go_wp2_with fail
    go_loop [1, 5] (fun q i => ∃ k : Nat, k ≤ n ∧ i = .int .i64 k ∧ q = .int .i64 (left - n - (totK L k : Nat)) ∧ (n : Int) + (totK L k : Nat) ≤ left) (fun _ i => n - (intOf i).toNat)
    case atStart => exact ⟨0, Nat.zero_le _, rfl, by simp [totK], by simp [totK]; omega⟩
    case round =>
      obtain ⟨k, hkn, rfl, rfl, hle⟩ := hrel
      by_cases hlt : k < n
      · obtain ⟨rfl, hbl⟩ := HA.out (by omega)
        obtain ⟨A', cap', hcell, hm', _⟩ := HROW.out k hlt
        have HS := Lib.hid (totK_succ L k)
        obtain ⟨p, hp⟩ : ∃ p, p = totK L k := ⟨_, rfl⟩
        rw [← hp] at HS hle ⊢
        have HPP := Lib.hid hp
        clear hp
        by_cases hr : left - n - (p : Int) < ((L.getD k []).length : Int)
        · generalize (L.getD k []).length = m at *
          go_wp2_with (go_at_call 112; refine (szIntS_no A' m cap' (left - n - (p : Nat)) _ hm' (by omega) hr (by omega)).mono ?_; rintro e w' ⟨rfl, rfl⟩)
          go_ret
          exact ⟨Or.inl rfl, rfl⟩
        · have hr2 : ((L.getD k []).length : Int) ≤ left - n - (p : Int) := by omega
          clear hr
          generalize (L.getD k []).length = m at *
          have hge2 : ¬ left - (n : Int) - (p : Int) - (m : Int) < 0 := by omega
          go_wp2_with (go_at_call 112; refine (szIntS_yes A' m cap' (left - n - (p : Nat)) _ hr2 (by omega)).mono ?_; rintro e w' ⟨rfl, rfl⟩)
          go_round
          case rel => exact ⟨k + 1, by omega, by go_num, by rw [HS.out]; first | (congr 1; omega) | (simp; omega), by rw [HS.out]; omega⟩
          case measure => simp [intOf]; omega
      · obtain rfl : k = n := by omega
        rw [HTOT.out] at hle ⊢
        go_wp2
        go_ret
        first | exact ⟨Or.inr ⟨hle, rfl⟩, rfl⟩ | exact ⟨Or.inr rfl, rfl⟩

set_option maxHeartbeats 1000000 in
theorem szGame_any (m : Int) (A : Option Addr) (n cap : Nat) (L : List (List Int)) (left : Int) (w : World) (h0 : 0 ≤ left) (h1 : left ≤ 1048576) (hm : n ≤ 9223372036854775807) (hk : KSS w A n L) :
    Calls Try.prog 34 #[.agg #[.int .i64 m, .slice A n cap], .int .i64 left] w fun e w' => (e = .returned (.int .i64 (-1)) ∨ ((n : Int) + (tot L : Nat) ≤ left ∧ e = .returned (.int .i64 (left - n - (tot L : Nat))))) ∧ Below w.heap.size w w' := by
  have HK := Lib.hid (hk.now (below1 w (.cells #[.int .i64 m, .slice A n cap] 53)))
  clear hk
  obtain ⟨T, hT⟩ : ∃ T, T = tot L := ⟨_, rfl⟩
  have HT := Lib.hid hT
  rw [← hT]
  clear hT
  go_enter Try.func34, Try.ntmps34
  go_wp2_with fail
  refine (szIntSS_any A n cap L left _ h0 h1 hm HK.out).mono ?_
  rw [← HT.out]
  rintro e w1 ⟨h, rfl⟩
  rcases h with rfl | ⟨hle, rfl⟩
  · go_wp2
    go_ret
    exact ⟨Or.inl rfl, below1 w _⟩
  · have hge : ¬ left - (n : Int) - (T : Int) < 0 := by omega
    go_wp2
    go_ret
    first | exact ⟨Or.inr ⟨hle, rfl⟩, below1 w _⟩ | exact ⟨Or.inr rfl, below1 w _⟩

set_option maxRecDepth 20000 in
set_option maxHeartbeats 4000000 in
theorem toIntSS_any (A : Option Addr) (n cap : Nat) (L : List (List Int)) (w : World) (hn : n + tot L ≤ 1048576) (hk : KSS w A n L) :
    Calls Try.prog 72 #[.slice A n cap] w fun e w' => e = .returned (.slice (some ⟨w.heap.size, 0, none⟩) n n) ∧ Lies (RSS L w.heap.size w'.heap.size (.slice (some ⟨w.heap.size, 0, none⟩) n n)) w.heap.size w'.heap.size w' ∧ Below w.heap.size w w' := by
  have hmk := run_make_row' (P := Try.prog) 42 35 (.slice none 0 0) 24 Try.underlying42 infoInts rfl .i64 .i64 n (by omega) (by omega)
  have HK := Lib.hid hk
  have HLEN := Lib.hid hk.1
  have HROW := Lib.hid (fun i (hi : i < n) => tot_row hk.1 hi)
  clear hk
  go_enter Try.func72, Try.ntmps72
  go_wp2
  go_loopw [4] (fun i wr => ∃ (k : Nat) (f : Nat → Value) (G : Nat → Nat), k ≤ n ∧ i = .int .i64 k ∧ Own wr w.heap.size 35 n (fun j => if j < k then f j else .slice none 0 0) ∧ (∀ i, i < k → RI (L.getD i []) (G i) (G i + 1) (f i) wr ∧ w.heap.size < G i ∧ G i < wr.heap.size ∧ ∀ j, j < i → G j < G i) ∧ Below w.heap.size w wr) (fun i _ => n - (intOf i).toNat)
  case atStart =>
    refine ⟨0, fun _ => .slice none 0 0, fun _ => 0, Nat.zero_le _, rfl, ?_, fun i hi => by omega, below1 _ _⟩
    refine (Own.of_row (World.rowIs_made w (.slice none 0 0) n 35)).congr fun i _ => ?_
    simp
  case round =>
    obtain ⟨k, f, G, hkn, rfl, hown, hrows, hb⟩ := hrel
    have HO := Lib.hid hown
    have HR := Lib.hid hrows
    have hgl := hown.lt
    clear hown hrows
    by_cases hlt : k < n
    · have hks := HK.out.now hb
      obtain ⟨_, b, off, hA, hrow⟩ := hks
      obtain ⟨rfl, hbl⟩ := hA (by omega)
      obtain ⟨A', cap', hcell, _, hkn'⟩ := hrow k hlt
      have hml : (L.getD k []).length ≤ 1048576 := by have := HROW.out k hlt; omega
      have HKN := Lib.hid hkn'
      clear hA hrow hkn'
      obtain ⟨row, hrw⟩ : ∃ row, row = L.getD k [] := ⟨_, rfl⟩
      rw [← hrw] at hcell hml HKN
      have HRW := Lib.hid hrw
      obtain ⟨m, hmm⟩ : ∃ m, m = row.length := ⟨_, rfl⟩
      rw [← hmm] at hcell hml HKN
      have HM := Lib.hid hmm
      clear hrw hmm
      have hold := HO.out.cell hlt
      simp only [Nat.lt_irrefl, if_false] at hold
      have hfr := HO.out.frozen k
      have K := Lib.hid (show ∀ W, Below wr.heap.size wr W → (W.cell? ⟨w.heap.size, k, none⟩ = some (.slice none 0 0) ∧ W.frozen? ⟨w.heap.size, k, none⟩ = false) from fun W hW => ⟨(hW.cell (p := ⟨w.heap.size, k, none⟩) hgl).trans hold, (hW.frozen (p := ⟨w.heap.size, k, none⟩) hgl).trans hfr⟩)
      clear hold hfr
      go_wp2_with (go_at_call 119; refine (toIntS_any A' m cap' row _ hml HKN.out).mono ?_; rintro e w2 ⟨rfl, hi2, hb2⟩; have HI2 := Lib.hid hi2; clear hi2; obtain ⟨q0, q1⟩ := K.out _ hb2)
      have hz2 : wr.heap.size < w2.heap.size := HI2.out.lt
      have HO2 := Lib.hid ((HO.out.below hb2 hgl).set k (.slice (some ⟨wr.heap.size, 0, none⟩) m m))
      have HR2 := Lib.hid (show ∀ i, i < k → RI (L.getD i []) (G i) (G i + 1) (f i) (w2.setCell ⟨w.heap.size, k, none⟩ (.slice (some ⟨wr.heap.size, 0, none⟩) m m)) from fun i hi => by
        obtain ⟨h1, h2, h3, _⟩ := HR.out i hi
        refine RS.keep h1 (Or.inr fun j j1 j2 => ?_)
        exact (Below.heap_setCell _ _ _ j (by simp; omega)).trans (hb2.block j (by omega)))
      have HN2 := Lib.hid (show RI row wr.heap.size (wr.heap.size + 1) (.slice (some ⟨wr.heap.size, 0, none⟩) m m) (w2.setCell ⟨w.heap.size, k, none⟩ (.slice (some ⟨wr.heap.size, 0, none⟩) m m)) from
        ⟨_, m, by rw [HM.out], Or.inr ⟨wr.heap.size, rfl, Nat.le_refl _, by omega, by rw [← HM.out]; exact Own.far HI2.out (by simp; omega) _⟩⟩)
      have HB2 := Lib.hid ((bfrom hb hb2).setCell (p := ⟨w.heap.size, k, none⟩) (by simp) (.slice (some ⟨wr.heap.size, 0, none⟩) m m))
      go_roundw
      case rel =>
        refine ⟨k + 1, fun i => if i = k then .slice (some ⟨wr.heap.size, 0, none⟩) m m else f i, fun i => if i = k then wr.heap.size else G i, by omega, by go_num, ?_, fun i hi => ?_, HB2.out⟩
        · refine HO2.out.congr fun i hi => ?_
          by_cases e : i = k
          · subst e; simp
          · rw [if_neg e]
            by_cases h : i < k
            · rw [if_pos h, if_pos (by omega)]; show f i = (if i = k then _ else f i); rw [if_neg e]
            · rw [if_neg h, if_neg (by omega)]
        · by_cases e : i = k
          · subst e
            simp only [if_true]
            rw [← HRW.out]
            refine ⟨HN2.out, hgl, by simpa using hz2, fun j hj => ?_⟩
            rw [if_neg (by omega)]
            exact (HR.out j hj).2.2.1
          · simp only [if_neg e]
            obtain ⟨_, h2, h3, h4⟩ := HR.out i (by omega)
            refine ⟨HR2.out i (by omega), h2, by simp; omega, fun j hj => ?_⟩
            rw [if_neg (by omega)]
            exact h4 j hj
      case measure => simp [intOf]; omega
    · obtain rfl : k = n := by omega
      go_wp2
      go_ret
      refine ⟨rfl, RSS.lies ⟨_, k, by rw [HLEN.out], Or.inr ⟨w.heap.size, f, rfl, Nat.le_refl _, hgl, ?_, G, fun i hi => ?_⟩⟩ (Nat.le_refl _), hb⟩
      · rw [HLEN.out]; exact HO.out.congr fun i hi => by simp [hi]
      · obtain ⟨h1, h2, h3, h4⟩ := HR.out i (by rw [← HLEN.out]; exact hi)
        exact ⟨h1, Or.inr ⟨by omega, h3, by omega, fun j hj => Or.inr (by have := h4 j hj; omega)⟩⟩

set_option maxRecDepth 20000 in
set_option maxHeartbeats 2000000 in
theorem toGame_any (m : Int) (A : Option Addr) (n cap : Nat) (L : List (List Int)) (w : World) (hn : n + tot L ≤ 1048576) (hk : KSS w A n L) :
    Calls Try.prog 36 #[.agg #[.int .i64 m, .slice A n cap]] w fun e w' => e = .returned (.agg #[.int .i64 m, .slice (some ⟨w.heap.size + 3, 0, none⟩) n n]) ∧ Lies (RSS L (w.heap.size + 3) w'.heap.size (.slice (some ⟨w.heap.size + 3, 0, none⟩) n n)) (w.heap.size + 3) w'.heap.size w' ∧ Below w.heap.size w w' := by
  have HK := Lib.hid hk
  clear hk
  go_enter Try.func36, Try.ntmps36
  go_wp2_with fail
  refine (toIntSS_any A n cap L _ hn (((HK.out.now (below1 _ _)).now (below1 _ _)).now (below1 _ _))).mono ?_
  rintro e w4 ⟨rfl, hI, hb⟩
  simp only [World.size_alloc] at hI
  have HI := Lib.hid hI
  clear hI
  obtain ⟨hc, hf⟩ := bcell hb
  have hz := hb.size
  simp only [World.size_alloc] at hc hf hz
  go_wp2
  refine bodyPost_ret (v := .agg #[.int .i64 m, .slice (some ⟨w.heap.size + 3, 0, none⟩) n n]) (by simp [results, Try.results36, go_sem, hc]) rfl ⟨rfl, ?_, ?_⟩
  · exact Lies.rss_wide (Lies.far (Lies.far (Lies.far HI.out (by simp) _) (by simp) _) (by simp) _) (Nat.le_refl _) (by simp) (by simp)
  · exact (((bfrom (((below1 w _).alloc (by simp) _).alloc (by simp; omega) _) hb).setCell (by simp; omega) _).setCell (by simp) _).setCell (by simp) _
end Go.Proofs.Ytnldodnpakpeeaa

namespace Go.Proofs.Ytnldodnpakpeeaa
open Go.RowKit Vo

set_option maxHeartbeats 400000 in
theorem isNumberOfMembers_any (m : Int) (w : World) : Calls Try.prog 159 #[.int .i64 m] w fun e w' => e = .returned (.bool (inB m 1 9)) ∧ w = w' := by
  by_cases h1 : 1 ≤ m
  · by_cases h2 : m ≤ 9
    · have H := Lib.hid (inB_yes h1 h2)
      go_enter Try.func159, Try.ntmps159
      go_wp2
      go_ret
      exact ⟨by rw [H.out]; rfl, rfl⟩
    · have H := Lib.hid (inB_no (x := m) (lo := 1) (hi := 9) (by omega))
      have h3 : 9 < m := by omega
      clear h2
      go_enter Try.func159, Try.ntmps159
      go_wp2
      go_ret
      exact ⟨by rw [H.out]; simp; omega, rfl⟩
  · have H := Lib.hid (inB_no (x := m) (lo := 1) (hi := 9) (by omega))
    have h3 : m < 1 := by omega
    clear h1
    go_enter Try.func159, Try.ntmps159
    go_wp2
    go_ret
    exact ⟨by rw [H.out]; rfl, rfl⟩

theorem RI.known {l : List Int} {lo hi : Nat} {v : Value} {w : World} (h : RI l lo hi v w) : ∃ A cap, v = .slice A l.length cap ∧ Known w A l.length l := by
  obtain ⟨A, cap, hv, h⟩ := h
  refine ⟨A, cap, hv, ?_⟩
  rcases h with h | ⟨g, rfl, _, _, h⟩
  · exact ⟨0, 0, fun h1 => by omega, fun h1 => by omega⟩
  · exact Known.of (Ints.sl h)
theorem Known.zero_ {w : World} {A : Option Addr} {l : List Int} : Known w A 0 l := ⟨0, 0, fun h1 => by omega, fun h1 => by omega⟩

/-- What the readers of a game need of its lists. -/
def Lists (w : World) (A : Option Addr) (n : Nat) (L : List (List Int)) : Prop :=
  L.length = n ∧ ∀ i, i < n → ∃ g A' cap, A = some ⟨g, 0, none⟩ ∧ g < w.heap.size ∧ w.cell? ⟨g, i, none⟩ = some (.slice A' (L.getD i []).length cap) ∧ (L.getD i []).length ≤ 1048576 ∧ Known w A' (L.getD i []).length (L.getD i [])
theorem Lists.now {w w' : World} {A : Option Addr} {n : Nat} {L : List (List Int)} (h : Lists w A n L) (hb : Below w.heap.size w w') : Lists w' A n L := by
  refine ⟨h.1, fun i hi => ?_⟩
  obtain ⟨g, A', cap, hA, hg, hc, hm, hk⟩ := h.2 i hi
  exact ⟨g, A', cap, hA, Nat.lt_of_lt_of_le hg hb.size, (hb.cell (p := ⟨g, i, none⟩) hg).trans hc, hm, hk.now hb⟩
theorem RSS0.lists {L : List (List Int)} {lo hi : Nat} {A : Option Addr} {n cap : Nat} {w : World} (hn : L.length = n) (ht : tot L + L.length ≤ 1048576) (h : RSS0 L lo hi (.slice A n cap) w) : Lists w A n L := by
  refine ⟨hn, fun i hi => ?_⟩
  obtain ⟨A1, c1, hv, h⟩ := h
  obtain ⟨rfl, _, _⟩ : A = A1 ∧ n = L.length ∧ cap = c1 := by simpa using hv
  rcases h with h | ⟨g, f, hA, _, _, ho, h⟩
  · omega
  · obtain ⟨A', c', hf, hk⟩ := RI.known (h i (by omega))
    exact ⟨g, A', c', hA, ho.lt, by rw [ho.cell (by omega), hf], by have := tot_row (L := L) rfl (show i < L.length by omega); omega, hk⟩

set_option maxHeartbeats 1000000 in
theorem readSet_known (n : Nat) (A : Option Addr) (m cap : Nat) (xs : List Int) (w : World) (hn : n < 10) (hm : m ≤ 9223372036854775807) (hk : Known w A m xs) :
    Calls Try.prog 206 #[.int .i64 n, .slice A m cap] w fun e w' => e = .returned (.tuple #[.int .u64 (ofB n xs m : Nat), .bool (riseB n xs m)]) ∧ w = w' := by
  by_cases hz : m = 0
  · subst hz
    have H1 := Lib.hid (ofB_yes (n := n) (xs := xs) (m := 0) RiseK.zero)
    have H2 := Lib.hid (riseB_yes (n := n) (xs := xs) (m := 0) RiseK.zero)
    go_enter Try.func206, Try.ntmps206
    go_wp2
    refine wp_loop_rounds 1 ?_
    rw [rounds_succ]
    go_wp2
    go_ret2
    exact ⟨by rw [H1.out, H2.out]; rfl, rfl⟩
  · obtain ⟨b, off, rfl, hsl⟩ := hk.get (by omega)
    exact readSet_any n b off m cap xs w hn hm hsl

theorem setsN_take (L : List (List Int)) (j : Nat) (h : j < L.length) : setsN (L.take (j+1)) = setsN (L.take j) ++ [ofK (L.getD j []) (L.getD j []).length] := by
  unfold setsN
  rw [List.take_add_one, List.map_append, List.getElem?_eq_getElem h, List.getD_eq_getElem?_getD, List.getElem?_eq_getElem h]
  rfl
theorem rowsB_take (n : Nat) (L : List (List Int)) (j : Nat) (h : j < L.length) : rowsB n (L.take (j+1)) = (rowsB n (L.take j) && (decide ((L.getD j []).length ≠ 0) && riseB n (L.getD j []) (L.getD j []).length)) := by
  unfold rowsB
  rw [List.take_add_one, List.all_append, List.getElem?_eq_getElem h, List.getD_eq_getElem?_getD, List.getElem?_eq_getElem h]
  simp
theorem rowsB_false {n : Nat} {L : List (List Int)} {j : Nat} (h : j < L.length) (hf : (decide ((L.getD j []).length ≠ 0) && riseB n (L.getD j []) (L.getD j []).length) = false) : rowsB n L = false := by
  cases hr : rowsB n L
  · rfl
  · have := List.all_eq_true.1 hr (L.getD j []) (by rw [List.getD_eq_getElem?_getD, List.getElem?_eq_getElem h]; exact List.getElem_mem h)
    rw [hf] at this; cases this

/-- Do all lists tell sets? -/
def riseRows (n : Nat) (L : List (List Int)) : Bool := L.all fun l => riseB n l l.length
theorem riseRows_take (n : Nat) (L : List (List Int)) (j : Nat) (h : j < L.length) : riseRows n (L.take (j+1)) = (riseRows n (L.take j) && riseB n (L.getD j []) (L.getD j []).length) := by
  unfold riseRows
  rw [List.take_add_one, List.all_append, List.getElem?_eq_getElem h, List.getD_eq_getElem?_getD, List.getElem?_eq_getElem h]
  simp
theorem riseRows_false {n : Nat} {L : List (List Int)} {j : Nat} (h : j < L.length) (hf : riseB n (L.getD j []) (L.getD j []).length = false) : riseRows n L = false := by
  cases hr : riseRows n L
  · rfl
  · have := List.all_eq_true.1 hr (L.getD j []) (by rw [List.getD_eq_getElem?_getD, List.getElem?_eq_getElem h]; exact List.getElem_mem h)
    rw [hf] at this; cases this
theorem riseRows_row {n : Nat} {L : List (List Int)} (h : riseRows n L = true) : ∀ l ∈ L, RiseK n l l.length := fun l hl => by
  have := List.all_eq_true.1 h l hl
  by_cases hr : RiseK n l l.length
  · exact hr
  · rw [riseB_no hr] at this; cases this
theorem riseRows_512 {n : Nat} {L : List (List Int)} (hn : n ≤ 9) (h : riseRows n L = true) : ∀ s ∈ setsN L, s < 512 := by
  intro s hs
  unfold setsN at hs
  obtain ⟨l, hl, rfl⟩ := List.mem_map.1 hs
  have := ofK_lt (riseRows_row h l hl)
  have := pow_lt hn
  omega
/-- All lists tell sets, and none is empty. -/
theorem rowsB_rise {n : Nat} {L : List (List Int)} (hn : n ≤ 9) : rowsB n L = (riseRows n L && !decide (0 ∈ setsN L)) := by
  cases hr : riseRows n L with
  | false =>
    rw [Bool.false_and]
    cases hb : rowsB n L with
    | false => rfl
    | true =>
      rw [← hr]
      symm
      unfold riseRows
      rw [List.all_eq_true]
      intro l hl
      have := List.all_eq_true.1 hb l hl
      simp only [Bool.and_eq_true] at this
      exact this.2
  | true =>
    rw [Bool.true_and]
    cases hb : rowsB n L with
    | true =>
      symm
      rw [Bool.not_eq_true', decide_eq_false_iff_not]
      intro h0
      unfold setsN at h0
      obtain ⟨l, hl, e⟩ := List.mem_map.1 h0
      have h2 := List.all_eq_true.1 hb l hl
      simp only [Bool.and_eq_true, decide_eq_true_eq] at h2
      exact h2.1 ((ofK_zero hn (riseRows_row hr l hl)).1 e)
    | false =>
      symm
      rw [Bool.not_eq_false', decide_eq_true_eq]
      apply Classical.byContradiction
      intro h0
      have : rowsB n L = true := by
        unfold rowsB
        rw [List.all_eq_true]
        intro l hl
        simp only [Bool.and_eq_true, decide_eq_true_eq]
        refine ⟨fun e => h0 ?_, riseB_yes (riseRows_row hr l hl)⟩
        unfold setsN
        exact List.mem_map.2 ⟨l, hl, (ofK_zero hn (riseRows_row hr l hl)).2 e⟩
      rw [hb] at this; cases this

/-- Sets read: where all lists tell some, they; else none. -/
def ReadS (n : Nat) (L : List (List Int)) (w w' : World) (e : Ending) : Prop :=
  Below w.heap.size w w' ∧ ((riseRows n L = true ∧ ∃ B cp, e = .returned (.tuple #[.slice B L.length cp, .bool true]) ∧ w'.ownsRow w.heap.size 107 1 (.slice B L.length cp) L.length (setsV (setsN L))) ∨ (riseRows n L = false ∧ e = .returned (.tuple #[.slice none 0 0, .bool false])))
/-- Winning sets read: where all lists tell some, they; else not all. -/
def ReadAt (n : Nat) (L : List (List Int)) (w w' : World) (e : Ending) : Prop :=
  Below w.heap.size w w' ∧ ((rowsB n L = true ∧ ∃ B cp, e = .returned (.tuple #[.slice B L.length cp, .bool true]) ∧ w'.ownsRow w.heap.size 107 1 (.slice B L.length cp) L.length (setsV (setsN L))) ∨ (rowsB n L = false ∧ ∃ v, e = .returned (.tuple #[v, .bool false])))

set_option maxRecDepth 20000 in
set_option maxHeartbeats 4000000 in
theorem readSets_any (n : Nat) (A : Option Addr) (ln cap : Nat) (L : List (List Int)) (w : World) (hn : n ≤ 9) (hl : ln ≤ 1048576) (hk : Lists w A ln L) :
    Calls Try.prog 188 #[.int .i64 n, .slice A ln cap] w fun e w' => ReadS n L w w' e := by
  obtain ⟨i0, hi0, hz0, hz1, hz2⟩ := info_parts infoSet
  have HK := Lib.hid hk
  have HLEN := Lib.hid hk.1
  have h512 := pow_lt hn
  have hn10 : n < 10 := by omega
  have HST := Lib.hid (fun j (h : j < ln) => setsN_take L j (by rw [hk.1]; exact h))
  have HRT := Lib.hid (fun j (h : j < ln) => riseRows_take n L j (by rw [hk.1]; exact h))
  have HRF := Lib.hid (fun j (h : j < ln) (hf : riseB n (L.getD j []) (L.getD j []).length = false) => riseRows_false (n := n) (L := L) (j := j) (by rw [hk.1]; exact h) hf)
  clear hk
  go_enter Try.func188, Try.ntmps188
  go_wp2_with (at_make; refine wpList_make_own _ rfl _ _ 93 rfl w.heap.size 107 i0 (.int .u64 0) 1 Try.underlying93 hi0 hz0 hz1 .i64 .i64 ln ln rfl rfl rfl (by rw [hz2]; omega) (by unfold maxLen; omega) (by simp) ?_; intro w1 hown1 hgrow1)
  have b1 : Below w.heap.size w w1 := (Below.refl _ _).grown hgrow1 (Nat.le_refl _) (fun j hj => by cases hj)
  have HO1 := Lib.hid hown1
  clear hown1 hgrow1
  go_loopw [6, 8, 9, 10, 16] (fun v _ _ _ i wr => ∃ (j : Nat) (B : Option Addr) (cp : Nat), j ≤ ln ∧ i = .int .i64 j ∧ v = .slice B j cp ∧ riseRows n (L.take j) = true ∧ wr.ownsRow w.heap.size 107 1 (.slice B j cp) j (setsV (setsN (L.take j))) ∧ Below w.heap.size w wr) (fun _ _ _ _ i _ => ln - (intOf i).toNat)
  case atStart => exact ⟨0, some ⟨w.heap.size, 0, none⟩, ln, Nat.zero_le _, rfl, rfl, rfl, HO1.out, b1⟩
  case round =>
    obtain ⟨j, B, cp, hj, rfl, rfl, hrows, hown, hb⟩ := hrel
    have HO := Lib.hid hown
    have HR := Lib.hid hrows
    have hsz := hb.size
    clear hown hrows
    by_cases hlt : j < ln
    · obtain ⟨g, A', cap', rfl, hg, hcell, hml, hkn⟩ := (HK.out.now hb).2 j hlt
      have HKN := Lib.hid hkn
      have HST2 := Lib.hid (HST.out j hlt)
      have HRT2 := Lib.hid (HRT.out j hlt)
      have HRF2 := Lib.hid (HRF.out j hlt)
      obtain ⟨row, hrw⟩ : ∃ row, row = L.getD j [] := ⟨_, rfl⟩
      rw [← hrw] at hcell HKN HST2 HRT2 HRF2 hml
      obtain ⟨m, hmm⟩ : ∃ m, m = row.length := ⟨_, rfl⟩
      rw [← hmm] at hcell HKN HST2 HRT2 HRF2 hml
      have HM := Lib.hid hmm
      clear hkn hrw hmm
      have HRS := Lib.hid (fun W h => readSet_known n A' m cap' row W hn10 (by omega) h)
      by_cases hrise : RiseK n row m
      · have hof : ofK row m < 512 := by have := ofK_lt hrise; omega
        have H1 := Lib.hid (ofB_yes hrise)
        have H2 := Lib.hid (riseB_yes hrise)
        rw [H1.out, H2.out] at HRS
        rw [H2.out] at HRT2 HRF2
        clear hrise
        have HOK := Lib.hid (show riseRows n (L.take (j+1)) = true from by rw [HRT2.out, HR.out]; rfl)
        obtain ⟨s, hse⟩ : ∃ s, s = ofK row m := ⟨_, rfl⟩
        rw [← hse] at hof HRS HST2
        clear hse
        go_wp2_with (first | (go_at_call 206; refine (HRS.out _ HKN.out).mono ?_; rintro e w' ⟨rfl, rfl⟩) | (at_builtin; refine wpList_append_lies _ rfl _ _ _ rfl w.heap.size 107 i0 _ 1 8 Try.underlying93 hi0 hz0 hz1 hz2 rfl (by decide) (.slice B j cp) j (setsV (setsN (L.take j))) rfl (HO.out.alloc _) ⟨wr.heap.size, 0, none⟩ 1 1 [.int .u64 s] rfl rfl (World.news_of_block (cs := #[.int .u64 s]) (t := 107) (fr := (0, 0)) (heap_alloc_new wr _)) (by simp [Value.oneCell']) (by omega) (by unfold maxLen; omega) (by omega) (by simp; omega) (wr.heap.size + 1) (by simp) ?_; intro gg cap3 w4 hown4 hgrow hat hlt4))
        have hb4 : Below w.heap.size w w4 := (hb.alloc hsz (.cells #[.int .u64 s] 107)).grown hgrow (by simp; omega) fun i hi => owns_le HO.out hi
        go_roundw
        case rel => exact ⟨j + 1, some ⟨gg, 0, none⟩, cap3, by omega, by go_num, rfl, HOK.out, by rw [HST2.out]; simpa [setsV] using hown4, hb4⟩
        case measure => simp [intOf]; omega
      · have H1 := Lib.hid (ofB_no hrise)
        have H2 := Lib.hid (riseB_no hrise)
        rw [H1.out, H2.out] at HRS
        rw [H2.out] at HRF2
        have HF := Lib.hid (HRF2.out rfl)
        clear hrise
        go_wp2_with (go_at_call 206; refine (HRS.out _ HKN.out).mono ?_; rintro e w' ⟨rfl, rfl⟩)
        go_ret2
        exact ⟨hb, Or.inr ⟨HF.out, rfl⟩⟩
    · obtain rfl : ln = j := by omega
      have HT := Lib.hid (show L.take ln = L from by rw [← HLEN.out, List.take_length])
      rw [HT.out] at HO HR
      go_wp2
      go_ret2
      exact ⟨hb, Or.inl ⟨HR.out, B, cp, by rw [HLEN.out]; rfl, by rw [HLEN.out]; exact HO.out⟩⟩

set_option maxRecDepth 20000 in
set_option maxHeartbeats 1000000 in
theorem indexSet_any (S : List Nat) (s base k cap : Nat) (A : Option Addr) (w : World) (hk : k = S.length) (hs : k ≤ 1048576) (_hS : ∀ t ∈ S, t < 512) (_h5 : s < 512) (h1 : w.ownsRow base 107 1 (.slice A k cap) k (setsV S)) :
    Calls Try.prog 207 #[.slice A k cap, .int .u64 s] w fun e w' => ((∃ j : Nat, e = .returned (.int .i64 j) ∧ s ∈ S) ∨ (e = .returned (.int .i64 (-1)) ∧ ¬ s ∈ S)) ∧ Below w.heap.size w w' := by
  have HC1 := Lib.hid (show ∀ W, Below w.heap.size w W → ∀ j, j < k → ∃ g, A = some ⟨g, 0, none⟩ ∧ W.cell? ⟨g, j, none⟩ = some (.int .u64 (S.getD j 0 : Nat)) from fun W hW j h => by
    obtain ⟨g, cap', hv, hg, _, _⟩ := owns_head h1 (by omega)
    obtain ⟨rfl, rfl⟩ : A = some ⟨g, 0, none⟩ ∧ cap = cap' := by simpa using hv
    have hlt : g < w.heap.size := owns_lt h1 rfl
    have ho : Own w g 107 k (fun i => .int .u64 (S.getD i 0 : Nat)) := Own.of_own h1 (fun i hi => by
      have : i < S.length := by omega
      simp [setsV, List.getD_eq_getElem?_getD, this])
    exact ⟨g, rfl, (Own.below ho hW hlt).cell h⟩)
  have HY := Lib.hid (show ∀ j, j < k → S.getD j 0 = s → s ∈ S from fun j hj h => by rw [← h]; exact getD_mem (by omega))
  have HN := Lib.hid (show (∀ j, j < k → S.getD j 0 ≠ s) → ¬ s ∈ S from fun h hm => by
    obtain ⟨j, hj, e⟩ := List.mem_iff_getElem.1 hm
    exact h j (by omega) (by rw [List.getD_eq_getElem?_getD, List.getElem?_eq_getElem hj]; exact e))
  clear h1 hk _hS
  go_enter Try.func207, Try.ntmps207
  go_wp2_with fail
  go_loopw [5, 8] (fun _ i wr => ∃ j : Nat, j ≤ k ∧ i = .int .i64 j ∧ (∀ t, t < j → S.getD t 0 ≠ s) ∧ Below w.heap.size w wr) (fun _ i _ => k - (intOf i).toNat)
  case atStart => exact ⟨0, Nat.zero_le _, rfl, fun _ h => by omega, Below.refl _ _⟩
  case round =>
    obtain ⟨j, hj, rfl, hno, hb⟩ := hrel
    have HS := Lib.hid hno
    clear hno
    by_cases hlt : j < k
    · obtain ⟨g, rfl, hcell⟩ := HC1.out _ hb j hlt
      have HYJ := Lib.hid (HY.out j hlt)
      have HSJ := Lib.hid (show S.getD j 0 ≠ s → ∀ t, t < j + 1 → S.getD t 0 ≠ s from fun h t ht => by
        by_cases e : t = j
        · subst e; exact h
        · exact HS.out t (by omega))
      generalize S.getD j 0 = t at *
      by_cases e : t = s
      · have HW := Lib.hid (HYJ.out e)
        subst e
        go_wp2_with fail
        first
          | (go_quiet (fail)
             go_wp2)
          | go_wp2
        go_ret
        exact ⟨Or.inl (by first | exact ⟨j, rfl, HW.out⟩ | exact ⟨⟨j, rfl⟩, HW.out⟩), by first | exact hb | exact below_drewN hb _⟩
      · have HW := Lib.hid (HSJ.out e)
        have hne : ((s : Int) == (t : Int)) = false := beq_false_of_ne (by omega)
        clear e
        go_wp2_with fail
        first
          | (go_quiet (fail)
             go_wp2)
          | go_wp2
        go_roundw
        case rel => exact ⟨j + 1, by omega, by go_num, HW.out, by first | exact hb | exact below_drewN hb _⟩
        case measure => simp [intOf]; omega
    · obtain rfl : j = k := by omega
      have HW := Lib.hid (HN.out HS.out)
      go_wp2
      go_ret
      exact ⟨Or.inr ⟨rfl, HW.out⟩, hb⟩

set_option maxHeartbeats 1000000 in
theorem containsSet_any (S : List Nat) (s base k cap : Nat) (A : Option Addr) (w : World) (hk : k = S.length) (hs : k ≤ 1048576) (hS : ∀ t ∈ S, t < 512) (h5 : s < 512) (h1 : w.ownsRow base 107 1 (.slice A k cap) k (setsV S)) :
    Calls Try.prog 189 #[.slice A k cap, .int .u64 s] w fun e w' => e = .returned (.bool (decide (s ∈ S))) ∧ Below w.heap.size w w' := by
  have HI := Lib.hid (indexSet_any S s base k cap A w hk hs hS h5 h1)
  clear h1 hk hS
  go_enter Try.func189, Try.ntmps189
  go_wp2_with fail
  refine HI.out.mono ?_
  rintro e w1 ⟨h, hb⟩
  rcases h with ⟨j, rfl, hw⟩ | ⟨rfl, hw⟩
  · have HW := Lib.hid hw
    clear hw
    have h0 : (0 : Int) ≤ (j : Int) := by omega
    go_wp2
    go_ret
    exact ⟨by rw [decide_eq_true HW.out]; first | rfl | simp, hb⟩
  · have HW := Lib.hid hw
    clear hw
    go_wp2
    go_ret
    exact ⟨by rw [decide_eq_false HW.out]; rfl, hb⟩

set_option maxRecDepth 20000 in
set_option maxHeartbeats 1000000 in
theorem readWinningSets_any (n : Nat) (A : Option Addr) (ln cap : Nat) (L : List (List Int)) (w : World) (hn : n ≤ 9) (hl : ln ≤ 1048576) (hk : Lists w A ln L) :
    Calls Try.prog 160 #[.int .i64 n, .slice A ln cap] w fun e w' => ReadAt n L w w' e := by
  have HLEN := Lib.hid hk.1
  have HR := Lib.hid (readSets_any n A ln cap L w hn hl hk)
  have HB := Lib.hid (rowsB_rise (L := L) hn)
  have HLS := Lib.hid (show (setsN L).length = L.length from by simp [setsN])
  clear hk
  go_enter Try.func160, Try.ntmps160
  go_wp2_with fail
  refine HR.out.mono ?_
  rintro e w1 ⟨hb1, h⟩
  rcases h with ⟨hrows, B, cp, rfl, hown⟩ | ⟨hrows, rfl⟩
  · have HC := Lib.hid (containsSet_any (setsN L) 0 _ L.length cp B _ HLS.out.symm (by rw [HLEN.out]; exact hl) (riseRows_512 hn hrows) (by omega) hown)
    have HO := Lib.hid hown
    rw [hrows] at HB
    clear hown hrows
    obtain ⟨k, hkl⟩ : ∃ k, k = L.length := ⟨_, rfl⟩
    rw [← hkl] at HC HO ⊢
    have HKL := Lib.hid hkl
    clear hkl
    cases h0 : decide (0 ∈ setsN L)
    all_goals
      rw [h0] at HB HC
      clear h0
      go_wp2_with fail
      refine HC.out.mono ?_
      rintro e w2 ⟨rfl, hb2⟩
      go_wp2
      go_ret2
      first
        | exact ⟨bfrom hb1 hb2, Or.inl ⟨by rw [HB.out]; rfl, B, cp, by rw [← HKL.out]; rfl, by rw [← HKL.out]; exact owns_now HO.out hb2⟩⟩
        | exact ⟨bfrom hb1 hb2, Or.inr ⟨by rw [HB.out]; rfl, .slice B k cp, rfl⟩⟩
  · have HF := Lib.hid (show rowsB n L = false from by rw [HB.out, hrows]; rfl)
    clear hrows
    go_wp2
    go_ret2
    exact ⟨hb1, Or.inr ⟨HF.out, _, rfl⟩⟩

set_option maxRecDepth 20000 in
set_option maxHeartbeats 1000000 in
theorem sliceEqual_any (S T : List Nat) (base base2 k k2 cap cap2 : Nat) (A A2 : Option Addr) (w : World) (hk : k = S.length) (hk2 : k2 = T.length) (hs : k ≤ 1048576) (hs2 : k2 ≤ 1048576) (_hS : ∀ s ∈ S, s < 512) (_hT : ∀ s ∈ T, s < 512)
    (h1 : w.ownsRow base 107 1 (.slice A k cap) k (setsV S)) (h2 : w.ownsRow base2 107 1 (.slice A2 k2 cap2) k2 (setsV T)) :
    Calls Try.prog 88 #[.slice A k cap, .slice A2 k2 cap2] w fun e w' => e = .returned (.bool (decide (S = T))) ∧ Below w.heap.size w w' := by
  by_cases hne : k = k2
  · subst hne
    have HC1 := Lib.hid (show ∀ W, Below w.heap.size w W → ∀ j, j < k → ∃ g, A = some ⟨g, 0, none⟩ ∧ g < w.heap.size ∧ W.cell? ⟨g, j, none⟩ = some (.int .u64 (S.getD j 0 : Nat)) from fun W hW j h => by
      obtain ⟨g, cap', hv, hg, _, _⟩ := owns_head h1 (by omega)
      obtain ⟨rfl, rfl⟩ : A = some ⟨g, 0, none⟩ ∧ cap = cap' := by simpa using hv
      have hlt : g < w.heap.size := owns_lt h1 rfl
      have ho : Own w g 107 k (fun i => .int .u64 (S.getD i 0 : Nat)) := Own.of_own h1 (fun i hi => by
        have : i < S.length := by omega
        simp [setsV, List.getD_eq_getElem?_getD, this])
      exact ⟨g, rfl, hlt, (Own.below ho hW hlt).cell h⟩)
    have HC2 := Lib.hid (show ∀ W, Below w.heap.size w W → ∀ j, j < k → ∃ g, A2 = some ⟨g, 0, none⟩ ∧ g < w.heap.size ∧ W.cell? ⟨g, j, none⟩ = some (.int .u64 (T.getD j 0 : Nat)) from fun W hW j h => by
      obtain ⟨g, cap', hv, hg, _, _⟩ := owns_head h2 (by omega)
      obtain ⟨rfl, rfl⟩ : A2 = some ⟨g, 0, none⟩ ∧ cap2 = cap' := by simpa using hv
      have hlt : g < w.heap.size := owns_lt h2 rfl
      have ho : Own w g 107 k (fun i => .int .u64 (T.getD i 0 : Nat)) := Own.of_own h2 (fun i hi => by
        have : i < T.length := by omega
        simp [setsV, List.getD_eq_getElem?_getD, this])
      exact ⟨g, rfl, hlt, (Own.below ho hW hlt).cell h⟩)
    have HEX := Lib.hid (show (∀ j, j < k → S.getD j 0 = T.getD j 0) → S = T from fun h => by
      apply List.ext_getElem (by omega)
      intro i hi hi2
      have := h i (by omega)
      rw [List.getD_eq_getElem?_getD, List.getD_eq_getElem?_getD, List.getElem?_eq_getElem hi, List.getElem?_eq_getElem hi2] at this
      exact this)
    clear h1 h2 hk hk2 _hS _hT
    go_enter Try.func88, Try.ntmps88
    go_wp2_with fail
    go_loopw [5, 13] (fun _ i wr => ∃ j : Nat, j ≤ k ∧ i = .int .i64 j ∧ (∀ t, t < j → S.getD t 0 = T.getD t 0) ∧ Below w.heap.size w wr) (fun _ i _ => k - (intOf i).toNat)
    case atStart => exact ⟨0, Nat.zero_le _, rfl, fun _ h => by omega, Below.refl _ _⟩
    case round =>
      obtain ⟨j, hj, rfl, hsame, hb⟩ := hrel
      have HS := Lib.hid hsame
      clear hsame
      by_cases hlt : j < k
      · obtain ⟨g, rfl, hg, c1⟩ := HC1.out _ hb j hlt
        obtain ⟨g2, rfl, hg2, c2⟩ := HC2.out _ hb j hlt
        have hlt' : (j : Int) < k := by omega
        by_cases he : S.getD j 0 = T.getD j 0
        · have HS2 := Lib.hid (show ∀ t, t < j + 1 → S.getD t 0 = T.getD t 0 from fun t ht => by
            by_cases e : t = j
            · subst e; exact he
            · exact HS.out t (by omega))
          rw [he] at c1
          clear he
          generalize T.getD j 0 = y at *
          go_wp2_with fail
          go_quiet (fail)
          go_wp2
          go_roundw
          case rel => exact ⟨j + 1, by omega, by go_num, HS2.out, below_drewN hb _⟩
          case measure => simp [intOf]; omega
        · have HN := Lib.hid (show S ≠ T from fun e => he (by rw [e]))
          have hne : (((S.getD j 0 : Nat) : Int) == ((T.getD j 0 : Nat) : Int)) = false := beq_false_of_ne (by omega)
          have hne2 : (((S.getD j 0 : Nat) : Int) != ((T.getD j 0 : Nat) : Int)) = true := by rw [bne_iff_ne]; omega
          clear he
          generalize S.getD j 0 = x at *
          generalize T.getD j 0 = y at *
          go_wp2_with fail
          go_quiet (fail)
          go_wp2
          go_ret
          exact ⟨by rw [decide_eq_false HN.out]; rfl, below_drewN hb _⟩
      · obtain rfl : j = k := by omega
        go_wp2
        go_ret
        exact ⟨by rw [decide_eq_true (HEX.out HS.out)]; rfl, hb⟩
  · have HN := Lib.hid (show S ≠ T from fun e => hne (by rw [hk, hk2, e]))
    have hd : ((k : Int) != (k2 : Int)) = true := by rw [bne_iff_ne]; omega
    have hd2 : ((k : Int) == (k2 : Int)) = false := beq_false_of_ne (by omega)
    clear hk hk2 h1 h2 hne
    go_enter Try.func88, Try.ntmps88
    go_wp2
    go_ret
    exact ⟨by rw [decide_eq_false HN.out]; rfl, Below.refl _ _⟩
end Go.Proofs.Ytnldodnpakpeeaa
