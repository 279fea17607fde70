/- Texts of I3, I6. -/
import Derived.Test.YtlcfimddcedbcabPkQ17
import Derived.Test.YtlcfimddcedbcabPkQ18
import Derived.Test.YtlcfimddcedbcabPkQ03
import Derived.BigQuiet
import Derived.Outline
import Derived.Test.YtlcfimddcedbcabPkQ11
import Derived.Test.YtlcfimddcedbcabPkQ06
namespace Go.Proofs.Ytlcfimddcedbcab
open Go.RowKit Vo

set_option maxHeartbeats 400000 in
theorem isNumberOfMembers_any (m : Int) (w : World) : Calls Try.prog 111 #[.int .i64 m] w fun e w' => e = .returned (.bool (inB m 1 9)) ∧ w = w' := by
  by_cases h1 : 1 ≤ m
  · by_cases h2 : m ≤ 9
    · have H := Lib.hid (inB_yes h1 h2)
      go_enter Try.func111, Try.ntmps111
      go_wp2
      go_ret
      exact ⟨by rw [H.out]; rfl, rfl⟩
    · have H := Lib.hid (inB_no (x := m) (lo := 1) (hi := 9) (by omega))
      have h3 : 9 < m := by omega
      clear h2
      go_enter Try.func111, Try.ntmps111
      go_wp2
      go_ret
      exact ⟨by rw [H.out]; simp; omega, rfl⟩
  · have H := Lib.hid (inB_no (x := m) (lo := 1) (hi := 9) (by omega))
    have h3 : m < 1 := by omega
    clear h1
    go_enter Try.func111, Try.ntmps111
    go_wp2
    go_ret
    exact ⟨by rw [H.out]; rfl, rfl⟩

theorem RI.known {l : List Int} {lo hi : Nat} {v : Value} {w : World} (h : RI l lo hi v w) : ∃ A cap, v = .slice A l.length cap ∧ Known w A l.length l := by
  obtain ⟨A, cap, hv, h⟩ := h
  refine ⟨A, cap, hv, ?_⟩
  rcases h with h | ⟨g, rfl, _, _, h⟩
  · exact ⟨0, 0, fun h1 => by omega, fun h1 => by omega⟩
  · exact Known.of (Ints.sl h)
theorem Known.zero_ {w : World} {A : Option Addr} {l : List Int} : Known w A 0 l := ⟨0, 0, fun h1 => by omega, fun h1 => by omega⟩

/-- What the readers of a game need of its lists. -/
def Lists (w : World) (A : Option Addr) (n : Nat) (L : List (List Int)) : Prop :=
  L.length = n ∧ ∀ i, i < n → ∃ g A' cap, A = some ⟨g, 0, none⟩ ∧ g < w.heap.size ∧ w.cell? ⟨g, i, none⟩ = some (.slice A' (L.getD i []).length cap) ∧ (L.getD i []).length ≤ 1048576 ∧ Known w A' (L.getD i []).length (L.getD i [])
theorem Lists.now {w w' : World} {A : Option Addr} {n : Nat} {L : List (List Int)} (h : Lists w A n L) (hb : Below w.heap.size w w') : Lists w' A n L := by
  refine ⟨h.1, fun i hi => ?_⟩
  obtain ⟨g, A', cap, hA, hg, hc, hm, hk⟩ := h.2 i hi
  exact ⟨g, A', cap, hA, Nat.lt_of_lt_of_le hg hb.size, (hb.cell (p := ⟨g, i, none⟩) hg).trans hc, hm, hk.now hb⟩
theorem RSS0.lists {L : List (List Int)} {lo hi : Nat} {A : Option Addr} {n cap : Nat} {w : World} (hn : L.length = n) (ht : tot L + L.length ≤ 1048576) (h : RSS0 L lo hi (.slice A n cap) w) : Lists w A n L := by
  refine ⟨hn, fun i hi => ?_⟩
  obtain ⟨A1, c1, hv, h⟩ := h
  obtain ⟨rfl, _, _⟩ : A = A1 ∧ n = L.length ∧ cap = c1 := by simpa using hv
  rcases h with h | ⟨g, f, hA, _, _, ho, h⟩
  · omega
  · obtain ⟨A', c', hf, hk⟩ := RI.known (h i (by omega))
    exact ⟨g, A', c', hA, ho.lt, by rw [ho.cell (by omega), hf], by have := tot_row (L := L) rfl (show i < L.length by omega); omega, hk⟩

set_option maxHeartbeats 1000000 in
theorem readSet_known (n : Nat) (A : Option Addr) (m cap : Nat) (xs : List Int) (w : World) (hn : n < 10) (hm : m ≤ 9223372036854775807) (hk : Known w A m xs) :
    Calls Try.prog 85 #[.int .i64 n, .slice A m cap] w fun e w' => e = .returned (.tuple #[.int .u64 (ofB n xs m : Nat), .bool (riseB n xs m)]) ∧ w = w' := by
  by_cases hz : m = 0
  · subst hz
    have H1 := Lib.hid (ofB_yes (n := n) (xs := xs) (m := 0) RiseK.zero)
    have H2 := Lib.hid (riseB_yes (n := n) (xs := xs) (m := 0) RiseK.zero)
    go_enter Try.func85, Try.ntmps85
    go_wp2
    refine wp_loop_rounds 1 ?_
    rw [rounds_succ]
    go_wp2
    go_ret2
    exact ⟨by rw [H1.out, H2.out]; rfl, rfl⟩
  · obtain ⟨b, off, rfl, hsl⟩ := hk.get (by omega)
    exact readSet_any n b off m cap xs w hn hm hsl

theorem setsN_take (L : List (List Int)) (j : Nat) (h : j < L.length) : setsN (L.take (j+1)) = setsN (L.take j) ++ [ofK (L.getD j []) (L.getD j []).length] := by
  unfold setsN
  rw [List.take_add_one, List.map_append, List.getElem?_eq_getElem h, List.getD_eq_getElem?_getD, List.getElem?_eq_getElem h]
  rfl
theorem rowsB_take (n : Nat) (L : List (List Int)) (j : Nat) (h : j < L.length) : rowsB n (L.take (j+1)) = (rowsB n (L.take j) && (decide ((L.getD j []).length ≠ 0) && riseB n (L.getD j []) (L.getD j []).length)) := by
  unfold rowsB
  rw [List.take_add_one, List.all_append, List.getElem?_eq_getElem h, List.getD_eq_getElem?_getD, List.getElem?_eq_getElem h]
  simp
theorem rowsB_false {n : Nat} {L : List (List Int)} {j : Nat} (h : j < L.length) (hf : (decide ((L.getD j []).length ≠ 0) && riseB n (L.getD j []) (L.getD j []).length) = false) : rowsB n L = false := by
  cases hr : rowsB n L
  · rfl
  · have := List.all_eq_true.1 hr (L.getD j []) (by rw [List.getD_eq_getElem?_getD, List.getElem?_eq_getElem h]; exact List.getElem_mem h)
    rw [hf] at this; cases this

/-- Do all lists tell sets? -/
def riseRows (n : Nat) (L : List (List Int)) : Bool := L.all fun l => riseB n l l.length
theorem riseRows_take (n : Nat) (L : List (List Int)) (j : Nat) (h : j < L.length) : riseRows n (L.take (j+1)) = (riseRows n (L.take j) && riseB n (L.getD j []) (L.getD j []).length) := by
  unfold riseRows
  rw [List.take_add_one, List.all_append, List.getElem?_eq_getElem h, List.getD_eq_getElem?_getD, List.getElem?_eq_getElem h]
  simp
theorem riseRows_false {n : Nat} {L : List (List Int)} {j : Nat} (h : j < L.length) (hf : riseB n (L.getD j []) (L.getD j []).length = false) : riseRows n L = false := by
  cases hr : riseRows n L
  · rfl
  · have := List.all_eq_true.1 hr (L.getD j []) (by rw [List.getD_eq_getElem?_getD, List.getElem?_eq_getElem h]; exact List.getElem_mem h)
    rw [hf] at this; cases this
theorem riseRows_row {n : Nat} {L : List (List Int)} (h : riseRows n L = true) : ∀ l ∈ L, RiseK n l l.length := fun l hl => by
  have := List.all_eq_true.1 h l hl
  by_cases hr : RiseK n l l.length
  · exact hr
  · rw [riseB_no hr] at this; cases this
theorem riseRows_512 {n : Nat} {L : List (List Int)} (hn : n ≤ 9) (h : riseRows n L = true) : ∀ s ∈ setsN L, s < 512 := by
  intro s hs
  unfold setsN at hs
  obtain ⟨l, hl, rfl⟩ := List.mem_map.1 hs
  have := ofK_lt (riseRows_row h l hl)
  have := pow_lt hn
  omega
/-- All lists tell sets, and none is empty. -/
theorem rowsB_rise {n : Nat} {L : List (List Int)} (hn : n ≤ 9) : rowsB n L = (riseRows n L && !decide (0 ∈ setsN L)) := by
  cases hr : riseRows n L with
  | false =>
    rw [Bool.false_and]
    cases hb : rowsB n L with
    | false => rfl
    | true =>
      rw [← hr]
      symm
      unfold riseRows
      rw [List.all_eq_true]
      intro l hl
      have := List.all_eq_true.1 hb l hl
      simp only [Bool.and_eq_true] at this
      exact this.2
  | true =>
    rw [Bool.true_and]
    cases hb : rowsB n L with
    | true =>
      symm
      rw [Bool.not_eq_true', decide_eq_false_iff_not]
      intro h0
      unfold setsN at h0
      obtain ⟨l, hl, e⟩ := List.mem_map.1 h0
      have h2 := List.all_eq_true.1 hb l hl
      simp only [Bool.and_eq_true, decide_eq_true_eq] at h2
      exact h2.1 ((ofK_zero hn (riseRows_row hr l hl)).1 e)
    | false =>
      symm
      rw [Bool.not_eq_false', decide_eq_true_eq]
      apply Classical.byContradiction
      intro h0
      have : rowsB n L = true := by
        unfold rowsB
        rw [List.all_eq_true]
        intro l hl
        simp only [Bool.and_eq_true, decide_eq_true_eq]
        refine ⟨fun e => h0 ?_, riseB_yes (riseRows_row hr l hl)⟩
        unfold setsN
        exact List.mem_map.2 ⟨l, hl, (ofK_zero hn (riseRows_row hr l hl)).2 e⟩
      rw [hb] at this; cases this

/-- Sets read: where all lists tell some, they; else none. -/
def ReadS (n : Nat) (L : List (List Int)) (w w' : World) (e : Ending) : Prop :=
  Below w.heap.size w w' ∧ ((riseRows n L = true ∧ ∃ B cp, e = .returned (.tuple #[.slice B L.length cp, .bool true]) ∧ w'.ownsRow w.heap.size 107 1 (.slice B L.length cp) L.length (setsV (setsN L))) ∨ (riseRows n L = false ∧ e = .returned (.tuple #[.slice none 0 0, .bool false])))
/-- Winning sets read: where all lists tell some, they; else not all. -/
def ReadAt (n : Nat) (L : List (List Int)) (w w' : World) (e : Ending) : Prop :=
  Below w.heap.size w w' ∧ ((rowsB n L = true ∧ ∃ B cp, e = .returned (.tuple #[.slice B L.length cp, .bool true]) ∧ w'.ownsRow w.heap.size 107 1 (.slice B L.length cp) L.length (setsV (setsN L))) ∨ (rowsB n L = false ∧ ∃ v, e = .returned (.tuple #[v, .bool false])))

set_option maxRecDepth 20000 in
set_option maxHeartbeats 4000000 in
theorem readSets_any (n : Nat) (A : Option Addr) (ln cap : Nat) (L : List (List Int)) (w : World) (hn : n ≤ 9) (hl : ln ≤ 1048576) (hk : Lists w A ln L) :
    Calls Try.prog 134 #[.int .i64 n, .slice A ln cap] w fun e w' => ReadS n L w w' e := by
  obtain ⟨i0, hi0, hz0, hz1, hz2⟩ := info_parts infoSet
  have HK := Lib.hid hk
  have HLEN := Lib.hid hk.1
  have h512 := pow_lt hn
  have hn10 : n < 10 := by omega
  have HST := Lib.hid (fun j (h : j < ln) => setsN_take L j (by rw [hk.1]; exact h))
  have HRT := Lib.hid (fun j (h : j < ln) => riseRows_take n L j (by rw [hk.1]; exact h))
  have HRF := Lib.hid (fun j (h : j < ln) (hf : riseB n (L.getD j []) (L.getD j []).length = false) => riseRows_false (n := n) (L := L) (j := j) (by rw [hk.1]; exact h) hf)
  clear hk
  go_enter Try.func134, Try.ntmps134
  go_wp2_with (at_make; refine wpList_make_own _ rfl _ _ 77 rfl w.heap.size 107 i0 (.int .u64 0) 1 Try.underlying77 hi0 hz0 hz1 .i64 .i64 ln ln rfl rfl rfl (by rw [hz2]; omega) (by unfold maxLen; omega) (by simp) ?_; intro w1 hown1 hgrow1)
  have b1 : Below w.heap.size w w1 := (Below.refl _ _).grown hgrow1 (Nat.le_refl _) (fun j hj => by cases hj)
  have HO1 := Lib.hid hown1
  clear hown1 hgrow1
  go_loopw [6, 8, 9, 10, 16] (fun v _ _ _ i wr => ∃ (j : Nat) (B : Option Addr) (cp : Nat), j ≤ ln ∧ i = .int .i64 j ∧ v = .slice B j cp ∧ riseRows n (L.take j) = true ∧ wr.ownsRow w.heap.size 107 1 (.slice B j cp) j (setsV (setsN (L.take j))) ∧ Below w.heap.size w wr) (fun _ _ _ _ i _ => ln - (intOf i).toNat)
  case atStart => exact ⟨0, some ⟨w.heap.size, 0, none⟩, ln, Nat.zero_le _, rfl, rfl, rfl, HO1.out, b1⟩
  case round =>
    obtain ⟨j, B, cp, hj, rfl, rfl, hrows, hown, hb⟩ := hrel
    have HO := Lib.hid hown
    have HR := Lib.hid hrows
    have hsz := hb.size
    clear hown hrows
    by_cases hlt : j < ln
    · obtain ⟨g, A', cap', rfl, hg, hcell, hml, hkn⟩ := (HK.out.now hb).2 j hlt
      have HKN := Lib.hid hkn
      have HST2 := Lib.hid (HST.out j hlt)
      have HRT2 := Lib.hid (HRT.out j hlt)
      have HRF2 := Lib.hid (HRF.out j hlt)
      obtain ⟨row, hrw⟩ : ∃ row, row = L.getD j [] := ⟨_, rfl⟩
      rw [← hrw] at hcell HKN HST2 HRT2 HRF2 hml
      obtain ⟨m, hmm⟩ : ∃ m, m = row.length := ⟨_, rfl⟩
      rw [← hmm] at hcell HKN HST2 HRT2 HRF2 hml
      have HM := Lib.hid hmm
      clear hkn hrw hmm
      have HRS := Lib.hid (fun W h => readSet_known n A' m cap' row W hn10 (by omega) h)
      by_cases hrise : RiseK n row m
      · have hof : ofK row m < 512 := by have := ofK_lt hrise; omega
        have H1 := Lib.hid (ofB_yes hrise)
        have H2 := Lib.hid (riseB_yes hrise)
        rw [H1.out, H2.out] at HRS
        rw [H2.out] at HRT2 HRF2
        clear hrise
        have HOK := Lib.hid (show riseRows n (L.take (j+1)) = true from by rw [HRT2.out, HR.out]; rfl)
        obtain ⟨s, hse⟩ : ∃ s, s = ofK row m := ⟨_, rfl⟩
        rw [← hse] at hof HRS HST2
        clear hse
        go_wp2_with (first | (go_at_call 85; refine (HRS.out _ HKN.out).mono ?_; rintro e w' ⟨rfl, rfl⟩) | (at_builtin; refine wpList_append_lies _ rfl _ _ _ rfl w.heap.size 107 i0 _ 1 8 Try.underlying77 hi0 hz0 hz1 hz2 rfl (by decide) (.slice B j cp) j (setsV (setsN (L.take j))) rfl (HO.out.alloc _) ⟨wr.heap.size, 0, none⟩ 1 1 [.int .u64 s] rfl rfl (World.news_of_block (cs := #[.int .u64 s]) (t := 107) (fr := (0, 0)) (heap_alloc_new wr _)) (by simp [Value.oneCell']) (by omega) (by unfold maxLen; omega) (by omega) (by simp; omega) (wr.heap.size + 1) (by simp) ?_; intro gg cap3 w4 hown4 hgrow hat hlt4))
        have hb4 : Below w.heap.size w w4 := (hb.alloc hsz (.cells #[.int .u64 s] 107)).grown hgrow (by simp; omega) fun i hi => owns_le HO.out hi
        go_roundw
        case rel => exact ⟨j + 1, some ⟨gg, 0, none⟩, cap3, by omega, by go_num, rfl, HOK.out, by rw [HST2.out]; simpa [setsV] using hown4, hb4⟩
        case measure => simp [intOf]; omega
      · have H1 := Lib.hid (ofB_no hrise)
        have H2 := Lib.hid (riseB_no hrise)
        rw [H1.out, H2.out] at HRS
        rw [H2.out] at HRF2
        have HF := Lib.hid (HRF2.out rfl)
        clear hrise
        go_wp2_with (go_at_call 85; refine (HRS.out _ HKN.out).mono ?_; rintro e w' ⟨rfl, rfl⟩)
        go_ret2
        exact ⟨hb, Or.inr ⟨HF.out, rfl⟩⟩
    · obtain rfl : ln = j := by omega
      have HT := Lib.hid (show L.take ln = L from by rw [← HLEN.out, List.take_length])
      rw [HT.out] at HO HR
      go_wp2
      go_ret2
      exact ⟨hb, Or.inl ⟨HR.out, B, cp, by rw [HLEN.out]; rfl, by rw [HLEN.out]; exact HO.out⟩⟩

set_option maxRecDepth 20000 in
set_option maxHeartbeats 1000000 in
theorem indexSet_any (S : List Nat) (s base k cap : Nat) (A : Option Addr) (w : World) (hk : k = S.length) (hs : k ≤ 1048576) (_hS : ∀ t ∈ S, t < 512) (_h5 : s < 512) (h1 : w.ownsRow base 107 1 (.slice A k cap) k (setsV S)) :
    Calls Try.prog 152 #[.slice A k cap, .int .u64 s] w fun e w' => ((∃ j : Nat, e = .returned (.int .i64 j) ∧ s ∈ S) ∨ (e = .returned (.int .i64 (-1)) ∧ ¬ s ∈ S)) ∧ Below w.heap.size w w' := by
  have HC1 := Lib.hid (show ∀ W, Below w.heap.size w W → ∀ j, j < k → ∃ g, A = some ⟨g, 0, none⟩ ∧ W.cell? ⟨g, j, none⟩ = some (.int .u64 (S.getD j 0 : Nat)) from fun W hW j h => by
    obtain ⟨g, cap', hv, hg, _, _⟩ := owns_head h1 (by omega)
    obtain ⟨rfl, rfl⟩ : A = some ⟨g, 0, none⟩ ∧ cap = cap' := by simpa using hv
    have hlt : g < w.heap.size := owns_lt h1 rfl
    have ho : Own w g 107 k (fun i => .int .u64 (S.getD i 0 : Nat)) := Own.of_own h1 (fun i hi => by
      have : i < S.length := by omega
      simp [setsV, List.getD_eq_getElem?_getD, this])
    exact ⟨g, rfl, (Own.below ho hW hlt).cell h⟩)
  have HY := Lib.hid (show ∀ j, j < k → S.getD j 0 = s → s ∈ S from fun j hj h => by rw [← h]; exact getD_mem (by omega))
  have HN := Lib.hid (show (∀ j, j < k → S.getD j 0 ≠ s) → ¬ s ∈ S from fun h hm => by
    obtain ⟨j, hj, e⟩ := List.mem_iff_getElem.1 hm
    exact h j (by omega) (by rw [List.getD_eq_getElem?_getD, List.getElem?_eq_getElem hj]; exact e))
  clear h1 hk _hS
  go_enter Try.func152, Try.ntmps152
  go_wp2_with fail
  go_loopw [5, 8] (fun _ i wr => ∃ j : Nat, j ≤ k ∧ i = .int .i64 j ∧ (∀ t, t < j → S.getD t 0 ≠ s) ∧ Below w.heap.size w wr) (fun _ i _ => k - (intOf i).toNat)
  case atStart => exact ⟨0, Nat.zero_le _, rfl, fun _ h => by omega, Below.refl _ _⟩
  case round =>
    obtain ⟨j, hj, rfl, hno, hb⟩ := hrel
    have HS := Lib.hid hno
    clear hno
    by_cases hlt : j < k
    · obtain ⟨g, rfl, hcell⟩ := HC1.out _ hb j hlt
      have HYJ := Lib.hid (HY.out j hlt)
      have HSJ := Lib.hid (show S.getD j 0 ≠ s → ∀ t, t < j + 1 → S.getD t 0 ≠ s from fun h t ht => by
        by_cases e : t = j
        · subst e; exact h
        · exact HS.out t (by omega))
      generalize S.getD j 0 = t at *
      by_cases e : t = s
      · have HW := Lib.hid (HYJ.out e)
        subst e
        go_wp2_with fail
        first
          | (go_quiet (fail)
             go_wp2)
          | go_wp2
        go_ret
        exact ⟨Or.inl (by first | exact ⟨j, rfl, HW.out⟩ | exact ⟨⟨j, rfl⟩, HW.out⟩), by first | exact hb | exact below_drewN hb _⟩
      · have HW := Lib.hid (HSJ.out e)
        have hne : ((s : Int) == (t : Int)) = false := beq_false_of_ne (by omega)
        clear e
        go_wp2_with fail
        first
          | (go_quiet (fail)
             go_wp2)
          | go_wp2
        go_roundw
        case rel => exact ⟨j + 1, by omega, by go_num, HW.out, by first | exact hb | exact below_drewN hb _⟩
        case measure => simp [intOf]; omega
    · obtain rfl : j = k := by omega
      have HW := Lib.hid (HN.out HS.out)
      go_wp2
      go_ret
      exact ⟨Or.inr ⟨rfl, HW.out⟩, hb⟩

set_option maxHeartbeats 1000000 in
theorem containsSet_any (S : List Nat) (s base k cap : Nat) (A : Option Addr) (w : World) (hk : k = S.length) (hs : k ≤ 1048576) (hS : ∀ t ∈ S, t < 512) (h5 : s < 512) (h1 : w.ownsRow base 107 1 (.slice A k cap) k (setsV S)) :
    Calls Try.prog 135 #[.slice A k cap, .int .u64 s] w fun e w' => e = .returned (.bool (decide (s ∈ S))) ∧ Below w.heap.size w w' := by
  have HI := Lib.hid (indexSet_any S s base k cap A w hk hs hS h5 h1)
  clear h1 hk hS
  go_enter Try.func135, Try.ntmps135
  go_wp2_with fail
  refine HI.out.mono ?_
  rintro e w1 ⟨h, hb⟩
  rcases h with ⟨j, rfl, hw⟩ | ⟨rfl, hw⟩
  · have HW := Lib.hid hw
    clear hw
    have h0 : (0 : Int) ≤ (j : Int) := by omega
    go_wp2
    go_ret
    exact ⟨by rw [decide_eq_true HW.out]; first | rfl | simp, hb⟩
  · have HW := Lib.hid hw
    clear hw
    go_wp2
    go_ret
    exact ⟨by rw [decide_eq_false HW.out]; rfl, hb⟩

set_option maxRecDepth 20000 in
set_option maxHeartbeats 1000000 in
theorem readWinningSets_any (n : Nat) (A : Option Addr) (ln cap : Nat) (L : List (List Int)) (w : World) (hn : n ≤ 9) (hl : ln ≤ 1048576) (hk : Lists w A ln L) :
    Calls Try.prog 112 #[.int .i64 n, .slice A ln cap] w fun e w' => ReadAt n L w w' e := by
  have HLEN := Lib.hid hk.1
  have HR := Lib.hid (readSets_any n A ln cap L w hn hl hk)
  have HB := Lib.hid (rowsB_rise (L := L) hn)
  have HLS := Lib.hid (show (setsN L).length = L.length from by simp [setsN])
  clear hk
  go_enter Try.func112, Try.ntmps112
  go_wp2_with fail
  refine HR.out.mono ?_
  rintro e w1 ⟨hb1, h⟩
  rcases h with ⟨hrows, B, cp, rfl, hown⟩ | ⟨hrows, rfl⟩
  · have HC := Lib.hid (containsSet_any (setsN L) 0 _ L.length cp B _ HLS.out.symm (by rw [HLEN.out]; exact hl) (riseRows_512 hn hrows) (by omega) hown)
    have HO := Lib.hid hown
    rw [hrows] at HB
    clear hown hrows
    obtain ⟨k, hkl⟩ : ∃ k, k = L.length := ⟨_, rfl⟩
    rw [← hkl] at HC HO ⊢
    have HKL := Lib.hid hkl
    clear hkl
    cases h0 : decide (0 ∈ setsN L)
    all_goals
      rw [h0] at HB HC
      clear h0
      go_wp2_with fail
      refine HC.out.mono ?_
      rintro e w2 ⟨rfl, hb2⟩
      go_wp2
      go_ret2
      first
        | exact ⟨bfrom hb1 hb2, Or.inl ⟨by rw [HB.out]; rfl, B, cp, by rw [← HKL.out]; rfl, by rw [← HKL.out]; exact owns_now HO.out hb2⟩⟩
        | exact ⟨bfrom hb1 hb2, Or.inr ⟨by rw [HB.out]; rfl, .slice B k cp, rfl⟩⟩
  · have HF := Lib.hid (show rowsB n L = false from by rw [HB.out, hrows]; rfl)
    clear hrows
    go_wp2
    go_ret2
    exact ⟨hb1, Or.inr ⟨HF.out, _, rfl⟩⟩

set_option maxRecDepth 20000 in
set_option maxHeartbeats 1000000 in
theorem sliceEqual_any (S T : List Nat) (base base2 k k2 cap cap2 : Nat) (A A2 : Option Addr) (w : World) (hk : k = S.length) (hk2 : k2 = T.length) (hs : k ≤ 1048576) (hs2 : k2 ≤ 1048576) (_hS : ∀ s ∈ S, s < 512) (_hT : ∀ s ∈ T, s < 512)
    (h1 : w.ownsRow base 107 1 (.slice A k cap) k (setsV S)) (h2 : w.ownsRow base2 107 1 (.slice A2 k2 cap2) k2 (setsV T)) :
    Calls Try.prog 113 #[.slice A k cap, .slice A2 k2 cap2] w fun e w' => e = .returned (.bool (decide (S = T))) ∧ Below w.heap.size w w' := by
  by_cases hne : k = k2
  · subst hne
    have HC1 := Lib.hid (show ∀ W, Below w.heap.size w W → ∀ j, j < k → ∃ g, A = some ⟨g, 0, none⟩ ∧ g < w.heap.size ∧ W.cell? ⟨g, j, none⟩ = some (.int .u64 (S.getD j 0 : Nat)) from fun W hW j h => by
      obtain ⟨g, cap', hv, hg, _, _⟩ := owns_head h1 (by omega)
      obtain ⟨rfl, rfl⟩ : A = some ⟨g, 0, none⟩ ∧ cap = cap' := by simpa using hv
      have hlt : g < w.heap.size := owns_lt h1 rfl
      have ho : Own w g 107 k (fun i => .int .u64 (S.getD i 0 : Nat)) := Own.of_own h1 (fun i hi => by
        have : i < S.length := by omega
        simp [setsV, List.getD_eq_getElem?_getD, this])
      exact ⟨g, rfl, hlt, (Own.below ho hW hlt).cell h⟩)
    have HC2 := Lib.hid (show ∀ W, Below w.heap.size w W → ∀ j, j < k → ∃ g, A2 = some ⟨g, 0, none⟩ ∧ g < w.heap.size ∧ W.cell? ⟨g, j, none⟩ = some (.int .u64 (T.getD j 0 : Nat)) from fun W hW j h => by
      obtain ⟨g, cap', hv, hg, _, _⟩ := owns_head h2 (by omega)
      obtain ⟨rfl, rfl⟩ : A2 = some ⟨g, 0, none⟩ ∧ cap2 = cap' := by simpa using hv
      have hlt : g < w.heap.size := owns_lt h2 rfl
      have ho : Own w g 107 k (fun i => .int .u64 (T.getD i 0 : Nat)) := Own.of_own h2 (fun i hi => by
        have : i < T.length := by omega
        simp [setsV, List.getD_eq_getElem?_getD, this])
      exact ⟨g, rfl, hlt, (Own.below ho hW hlt).cell h⟩)
    have HEX := Lib.hid (show (∀ j, j < k → S.getD j 0 = T.getD j 0) → S = T from fun h => by
      apply List.ext_getElem (by omega)
      intro i hi hi2
      have := h i (by omega)
      rw [List.getD_eq_getElem?_getD, List.getD_eq_getElem?_getD, List.getElem?_eq_getElem hi, List.getElem?_eq_getElem hi2] at this
      exact this)
    clear h1 h2 hk hk2 _hS _hT
    go_enter Try.func113, Try.ntmps113
    go_wp2_with fail
    go_loopw [5, 13] (fun _ i wr => ∃ j : Nat, j ≤ k ∧ i = .int .i64 j ∧ (∀ t, t < j → S.getD t 0 = T.getD t 0) ∧ Below w.heap.size w wr) (fun _ i _ => k - (intOf i).toNat)
    case atStart => exact ⟨0, Nat.zero_le _, rfl, fun _ h => by omega, Below.refl _ _⟩
    case round =>
      obtain ⟨j, hj, rfl, hsame, hb⟩ := hrel
      have HS := Lib.hid hsame
      clear hsame
      by_cases hlt : j < k
      · obtain ⟨g, rfl, hg, c1⟩ := HC1.out _ hb j hlt
        obtain ⟨g2, rfl, hg2, c2⟩ := HC2.out _ hb j hlt
        have hlt' : (j : Int) < k := by omega
        by_cases he : S.getD j 0 = T.getD j 0
        · have HS2 := Lib.hid (show ∀ t, t < j + 1 → S.getD t 0 = T.getD t 0 from fun t ht => by
            by_cases e : t = j
            · subst e; exact he
            · exact HS.out t (by omega))
          rw [he] at c1
          clear he
          generalize T.getD j 0 = y at *
          go_wp2_with fail
          go_quiet (fail)
          go_wp2
          go_roundw
          case rel => exact ⟨j + 1, by omega, by go_num, HS2.out, below_drewN hb _⟩
          case measure => simp [intOf]; omega
        · have HN := Lib.hid (show S ≠ T from fun e => he (by rw [e]))
          have hne : (((S.getD j 0 : Nat) : Int) == ((T.getD j 0 : Nat) : Int)) = false := beq_false_of_ne (by omega)
          have hne2 : (((S.getD j 0 : Nat) : Int) != ((T.getD j 0 : Nat) : Int)) = true := by rw [bne_iff_ne]; omega
          clear he
          generalize S.getD j 0 = x at *
          generalize T.getD j 0 = y at *
          go_wp2_with fail
          go_quiet (fail)
          go_wp2
          go_ret
          exact ⟨by rw [decide_eq_false HN.out]; rfl, below_drewN hb _⟩
      · obtain rfl : j = k := by omega
        go_wp2
        go_ret
        exact ⟨by rw [decide_eq_true (HEX.out HS.out)]; rfl, hb⟩
  · have HN := Lib.hid (show S ≠ T from fun e => hne (by rw [hk, hk2, e]))
    have hd : ((k : Int) != (k2 : Int)) = true := by rw [bne_iff_ne]; omega
    have hd2 : ((k : Int) == (k2 : Int)) = false := beq_false_of_ne (by omega)
    clear hk hk2 h1 h2 hne
    go_enter Try.func113, Try.ntmps113
    go_wp2
    go_ret
    exact ⟨by rw [decide_eq_false HN.out]; rfl, Below.refl _ _⟩
end Go.Proofs.Ytlcfimddcedbcab

namespace Go.Proofs.Ytlcfimddcedbcab
open Go.RowKit Vo

/-- What the model needs of a game's lists. -/
def ListsR (w : World) (A : Option Addr) (n : Nat) (L : List (List Int)) : Prop :=
  L.length = n ∧ ∀ i, i < n → ∃ g v, A = some ⟨g, 0, none⟩ ∧ g < w.heap.size ∧ w.cell? ⟨g, i, none⟩ = some v ∧ (L.getD i []).length ≤ 1048576 ∧ RI (L.getD i []) 0 w.heap.size v w
theorem ListsR.now {w w' : World} {A : Option Addr} {n : Nat} {L : List (List Int)} (h : ListsR w A n L) (hb : Below w.heap.size w w') : ListsR w' A n L := by
  refine ⟨h.1, fun i hi => ?_⟩
  obtain ⟨g, v, hA, hg, hc, hm, hk⟩ := h.2 i hi
  exact ⟨g, v, hA, Nat.lt_of_lt_of_le hg hb.size, (hb.cell (p := ⟨g, i, none⟩) hg).trans hc, hm, hk.up hb⟩
theorem ListsR.lists {w : World} {A : Option Addr} {n : Nat} {L : List (List Int)} (h : ListsR w A n L) : Lists w A n L := by
  refine ⟨h.1, fun i hi => ?_⟩
  obtain ⟨g, v, hA, hg, hc, hm, hk⟩ := h.2 i hi
  obtain ⟨A', cap, rfl, hk'⟩ := RI.known hk
  exact ⟨g, A', cap, hA, hg, hc, hm, hk'⟩
theorem RSS0.listsR {L : List (List Int)} {lo hi : Nat} {A : Option Addr} {n cap : Nat} {w : World} (hn : L.length = n) (ht : tot L + L.length ≤ 1048576) (hh : hi ≤ w.heap.size) (h : RSS0 L lo hi (.slice A n cap) w) : ListsR w A n L := by
  refine ⟨hn, fun i hi => ?_⟩
  obtain ⟨A1, c1, hv, h⟩ := h
  obtain ⟨rfl, _, _⟩ : A = A1 ∧ n = L.length ∧ cap = c1 := by simpa using hv
  rcases h with h | ⟨g, f, hA, _, _, ho, h⟩
  · omega
  · exact ⟨g, f i, hA, ho.lt, by rw [ho.cell (by omega)], by have := tot_row (L := L) rfl (show i < L.length by omega); omega, (h i (by omega)).wide (Or.inr ⟨Nat.zero_le _, hh⟩)⟩

set_option maxHeartbeats 1000000 in
theorem voSet_known (n : Nat) (A : Option Addr) (m cap : Nat) (xs : List Int) (w : World) (hn : n < 10) (h0 : m ≠ 0) (hm : m ≤ 9223372036854775807) (hk : Known w A m xs) :
    Calls Try.prog 82 #[.int .i64 n, .slice A m cap] w fun e w' => e = .returned (.bool (riseB n xs m)) ∧ w = w' := by
  obtain ⟨b, off, rfl, hsl⟩ := hk.get (by omega)
  exact voSet_any n b off m cap xs w hn hm hsl
theorem voBits_known (n : Nat) (A : Option Addr) (m cap : Nat) (xs : List Int) (w : World) (hn : n < 10) (h0 : m ≠ 0) (hm : m ≤ 9223372036854775807) (hr : RiseK n xs m) (hk : Known w A m xs) :
    Calls Try.prog 84 #[.slice A m cap] w fun e w' => e = .returned (.int .i64 (ofK xs m : Nat)) ∧ w = w' := by
  obtain ⟨b, off, rfl, hsl⟩ := hk.get (by omega)
  exact voBits_any n b off m cap xs w hn hm hr hsl

/-- What the model asks of some sets. -/
def setsB (m : Int) (L : List (List Int)) (most : Int) : Bool := inB m 1 9 && (inB (L.length : Int) 1 most && rowsB m.toNat L)
theorem setsB_small {m : Int} {L : List (List Int)} {most : Int} (h : ¬ (1 ≤ m ∧ m ≤ 9)) : setsB m L most = false := by unfold setsB; rw [inB_no h]; rfl
theorem setsB_long {m : Int} {L : List (List Int)} {most : Int} (h : ¬ (1 ≤ (L.length : Int) ∧ (L.length : Int) ≤ most)) : setsB m L most = false := by unfold setsB; rw [inB_no h]; simp
theorem setsB_rows {q : Nat} {L : List (List Int)} {most : Int} (h1 : 1 ≤ (q : Int)) (h9 : (q : Int) ≤ 9) (h2 : 1 ≤ (L.length : Int)) (h3 : (L.length : Int) ≤ most) : setsB (q : Int) L most = rowsB q L := by
  unfold setsB; rw [inB_yes h1 h9, inB_yes h2 h3]; simp

set_option maxRecDepth 20000 in
set_option maxHeartbeats 4000000 in
theorem gmSets_any (m : Int) (A : Option Addr) (n cap : Nat) (L : List (List Int)) (most : Int) (w : World) (hl : n ≤ 1048576) (hk : Lists w A n L) :
    Calls Try.prog 109 #[.int .i64 m, .slice A n cap, .int .i64 most] w fun e w' => e = .returned (.bool (setsB m L most)) ∧ Below w.heap.size w w' := by
  have HK := Lib.hid hk
  have HLEN := Lib.hid hk.1
  clear hk
  by_cases hmm : 1 ≤ m ∧ m ≤ 9
  · obtain ⟨q, rfl⟩ : ∃ q : Nat, m = q := ⟨m.toNat, by omega⟩
    have hq9 : q ≤ 9 := by omega
    have hq10 : q < 10 := by omega
    have HIN := Lib.hid (inB_yes hmm.1 hmm.2)
    by_cases hnn : 1 ≤ (n : Int) ∧ (n : Int) ≤ most
    · have HIN2 := Lib.hid (inB_yes hnn.1 hnn.2)
      have HSB := Lib.hid (setsB_rows (L := L) (most := most) hmm.1 hmm.2 (by rw [HLEN.out]; exact hnn.1) (by rw [HLEN.out]; exact hnn.2))
      have HRT := Lib.hid (fun j (h : j < n) => rowsB_take q L j (by rw [HLEN.out]; exact h))
      have HRF := Lib.hid (fun j (h : j < n) (hf : (decide ((L.getD j []).length ≠ 0) && riseB q (L.getD j []) (L.getD j []).length) = false) => rowsB_false (n := q) (L := L) (j := j) (by rw [HLEN.out]; exact h) hf)
      clear hmm hnn
      go_enter Try.func109, Try.ntmps109
      go_wp2_with fail
      refine (l1In_any q 1 9 _).mono ?_
      rintro e w1 ⟨rfl, rfl⟩
      rw [HIN.out]
      go_wp2_with fail
      refine (l1In_any n 1 most _).mono ?_
      rintro e w1 ⟨rfl, rfl⟩
      rw [HIN2.out]
      go_wp2_with fail
      go_loopw [8, 21] (fun _ i wr => ∃ j : Nat, j ≤ n ∧ i = .int .i64 j ∧ rowsB q (L.take j) = true ∧ Below w.heap.size w wr) (fun _ i _ => n - (intOf i).toNat)
      case atStart => exact ⟨0, Nat.zero_le _, rfl, rfl, Below.refl _ _⟩
      case round =>
        obtain ⟨j, hj, rfl, hrows, hb⟩ := hrel
        have HR := Lib.hid hrows
        clear hrows
        by_cases hlt : j < n
        · obtain ⟨g, A', cap', rfl, hg, hcell, hml, hkn⟩ := (HK.out.now hb).2 j hlt
          have HKN := Lib.hid hkn
          have HRT2 := Lib.hid (HRT.out j hlt)
          have HRF2 := Lib.hid (HRF.out j hlt)
          obtain ⟨row, hrw⟩ : ∃ row, row = L.getD j [] := ⟨_, rfl⟩
          rw [← hrw] at hcell HKN HRT2 HRF2 hml
          obtain ⟨p, hpp⟩ : ∃ p, p = row.length := ⟨_, rfl⟩
          rw [← hpp] at hcell HKN HRT2 HRF2 hml
          clear hkn hrw hpp
          by_cases hz : p = 0
          · have HF := Lib.hid (HRF2.out (by rw [hz]; rfl))
            subst hz
            go_wp2
            go_ret
            exact ⟨by rw [HSB.out, HF.out]; rfl, hb⟩
          · have hp0 : ((p : Int) == 0) = false := beq_false_of_ne (by omega)
            have HV := Lib.hid (fun W h => voSet_known q A' p cap' row W hq10 hz (by omega) h)
            cases hrb : riseB q row p with
            | true =>
              rw [hrb] at HV HRT2
              have HOK := Lib.hid (show rowsB q (L.take (j+1)) = true from by rw [HRT2.out, HR.out]; simp [hz])
              clear hz hrb
              go_wp2_with (go_at_call 82; refine (HV.out _ HKN.out).mono ?_; rintro e w' ⟨rfl, rfl⟩)
              go_roundw
              case rel => exact ⟨j + 1, by omega, by go_num, HOK.out, hb⟩
              case measure => simp [intOf]; omega
            | false =>
              rw [hrb] at HV HRF2
              have HF := Lib.hid (HRF2.out (by simp))
              clear hz hrb
              go_wp2_with (go_at_call 82; refine (HV.out _ HKN.out).mono ?_; rintro e w' ⟨rfl, rfl⟩)
              go_ret
              exact ⟨by rw [HSB.out, HF.out]; rfl, hb⟩
        · obtain rfl : n = j := by omega
          have HT := Lib.hid (show L.take n = L from by rw [← HLEN.out, List.take_length])
          rw [HT.out] at HR
          go_wp2
          go_ret
          exact ⟨by rw [HSB.out, HR.out]; rfl, hb⟩
    · have HIN2 := Lib.hid (inB_no hnn)
      have HSB := Lib.hid (setsB_long (m := (q : Int)) (L := L) (most := most) (by rw [HLEN.out]; exact hnn))
      clear hmm hnn
      go_enter Try.func109, Try.ntmps109
      go_wp2_with fail
      refine (l1In_any q 1 9 _).mono ?_
      rintro e w1 ⟨rfl, rfl⟩
      rw [HIN.out]
      go_wp2_with fail
      refine (l1In_any n 1 most _).mono ?_
      rintro e w1 ⟨rfl, rfl⟩
      rw [HIN2.out]
      go_wp2
      go_ret
      exact ⟨by rw [HSB.out]; rfl, Below.refl _ _⟩
  · have HIN := Lib.hid (inB_no hmm)
    have HSB := Lib.hid (setsB_small (L := L) (most := most) hmm)
    clear hmm
    go_enter Try.func109, Try.ntmps109
    go_wp2_with fail
    refine (l1In_any m 1 9 _).mono ?_
    rintro e w1 ⟨rfl, rfl⟩
    rw [HIN.out]
    go_wp2
    go_ret
    exact ⟨by rw [HSB.out]; rfl, Below.refl _ _⟩

theorem goodG_split {m : Int} {L : List (List Int)} : goodG m L = true ↔ setsB m L 126 = true ∧ ordK L (setsN L) L.length := by
  constructor
  · intro h
    unfold goodG at h
    simp only [Bool.and_eq_true, decide_eq_true_eq] at h
    obtain ⟨⟨h1, h9, hL⟩, hr, hs⟩ := h
    have hn : m.toNat ≤ 9 := by omega
    refine ⟨?_, (ordK_sets hn hr).2 hs⟩
    have h126 := game_126 hn hr hs
    have h0 : 1 ≤ L.length := by cases L with
      | nil => exact absurd rfl hL
      | cons a l => simp
    unfold setsB
    rw [inB_yes h1 h9, inB_yes (by omega) (by omega), hr]; rfl
  · rintro ⟨h1, h2⟩
    unfold setsB at h1
    simp only [Bool.and_eq_true] at h1
    obtain ⟨ha, hb, hr⟩ := h1
    have hm : 1 ≤ m ∧ m ≤ 9 := by
      by_cases h : 1 ≤ m ∧ m ≤ 9
      · exact h
      · rw [inB_no h] at ha; cases ha
    have hl : 1 ≤ (L.length : Int) := by
      by_cases h : 1 ≤ (L.length : Int) ∧ (L.length : Int) ≤ 126
      · exact h.1
      · rw [inB_no h] at hb; cases hb
    have hs := (ordK_sets (by omega : m.toNat ≤ 9) hr).1 h2
    unfold goodG
    rw [hr, decide_eq_true hs, decide_eq_true (show 1 ≤ m ∧ m ≤ 9 ∧ L ≠ [] from ⟨hm.1, hm.2, fun e => by rw [e] at hl; simp at hl⟩)]; rfl
theorem goodG_no {m : Int} {L : List (List Int)} (h : ¬ (setsB m L 126 = true ∧ ordK L (setsN L) L.length)) : goodG m L = false := by
  cases hg : goodG m L
  · rfl
  · exact absurd (goodG_split.1 hg) h
theorem setsB_parts {m : Int} {L : List (List Int)} {most : Int} (h : setsB m L most = true) : ∃ q : Nat, m = q ∧ 1 ≤ q ∧ q ≤ 9 ∧ 1 ≤ L.length ∧ (L.length : Int) ≤ most ∧ rowsB q L = true := by
  unfold setsB at h
  simp only [Bool.and_eq_true] at h
  obtain ⟨ha, hb, hr⟩ := h
  have hm : 1 ≤ m ∧ m ≤ 9 := by
    by_cases h : 1 ≤ m ∧ m ≤ 9
    · exact h
    · rw [inB_no h] at ha; cases ha
  have hl : 1 ≤ (L.length : Int) ∧ (L.length : Int) ≤ most := by
    by_cases h : 1 ≤ (L.length : Int) ∧ (L.length : Int) ≤ most
    · exact h
    · rw [inB_no h] at hb; cases hb
  exact ⟨m.toNat, by omega, by omega, by omega, by omega, hl.2, hr⟩
theorem setsN_at {L : List (List Int)} {i : Nat} (h : i < L.length) : (setsN L).getD i 0 = ofK (L.getD i []) (L.getD i []).length := by
  unfold setsN
  rw [List.getD_eq_getElem?_getD, List.getElem?_map, List.getElem?_eq_getElem h, List.getD_eq_getElem?_getD, List.getElem?_eq_getElem h]; rfl
end Go.Proofs.Ytlcfimddcedbcab

namespace Go.Proofs.Ytlcfimddcedbcab
open Go.RowKit Vo

theorem i64_and_nat (a b : Nat) (ha : a < 512) (hb : b < 512) : bits BinOp.and IntKind.i64 (a : Int) (b : Int) = ((a &&& b : Nat) : Int) := by
  have hx : a &&& b < 512 := Nat.lt_of_le_of_lt Nat.and_le_left ha
  show IntKind.i64.wrap ((BitVec.ofInt 64 (a : Int) &&& BitVec.ofInt 64 (b : Int)).toNat : Int) = _
  rw [BitVec.toNat_and, ofInt_u64 a (by omega), ofInt_u64 b (by omega)]
  exact IntWalk.i64_in _ (by omega)
/-- One more list is in order. -/
theorem ordK_succ {L : List (List Int)} {S : List Nat} {k : Nat} (h : ordK L S k) (h1 : 1 ≤ k → before (L.getD (k-1) []) (L.getD k []) = true) (h2 : ∀ j, j < k → S.getD k 0 &&& S.getD j 0 ≠ S.getD k 0 ∧ S.getD k 0 &&& S.getD j 0 ≠ S.getD j 0) : ordK L S (k+1) := fun i hi => by
  by_cases e : i = k
  · subst e; exact ⟨h1, h2⟩
  · exact h i (by omega)

set_option maxRecDepth 20000 in
set_option maxHeartbeats 8000000 in
theorem gmGood_any (m : Int) (A : Option Addr) (n cap : Nat) (L : List (List Int)) (w : World) (hl : n ≤ 1048576) (hcap : n ≤ cap) (hk : ListsR w A n L) :
    Calls Try.prog 79 #[.agg #[.int .i64 m, .slice A n cap]] w fun e w' => e = .returned (.bool (goodG m L)) ∧ Below w.heap.size w w' := by
  have HK := Lib.hid hk
  have HLEN := Lib.hid hk.1
  clear hk
  have hx := BoxT.new 42 w (.int .i64 m) (.slice A n cap)
  have hb0 := below1 w (.cells #[.int .i64 m, .slice A n cap] 42)
  obtain ⟨c0, c1⟩ := hx.cells
  cases hsb : setsB m L 126 with
  | false =>
    have HG := Lib.hid (goodG_no (m := m) (L := L) (fun h => by rw [hsb] at h; cases h.1))
    have HSB := Lib.hid hsb
    clear hsb
    go_enter Try.func79, Try.ntmps79
    go_wp2_with fail
    refine (gmSets_any m A n cap L 126 _ hl (HK.out.now hb0).lists).mono ?_
    rintro e w1 ⟨rfl, hb1⟩
    rw [HSB.out]
    go_wp2
    go_ret
    exact ⟨by rw [HG.out]; rfl, bfrom hb0 hb1⟩
  | true =>
    obtain ⟨q, rfl, hq1, hq9, hn1, hn126, hrows⟩ := setsB_parts hsb
    rw [HLEN.out] at hn1 hn126
    have HSB := Lib.hid hsb
    have hq10 : q < 10 := by omega
    have hq512 := pow_lt hq9
    have HROW := Lib.hid (show ∀ i, i < n → (L.getD i []).length ≠ 0 ∧ RiseK q (L.getD i []) (L.getD i []).length ∧ (setsN L).getD i 0 = ofK (L.getD i []) (L.getD i []).length from fun i hi => by
      have h := rowsB_row hrows (l := L.getD i []) (by rw [List.getD_eq_getElem?_getD, List.getElem?_eq_getElem (by rw [HLEN.out]; exact hi)]; exact List.getElem_mem _)
      exact ⟨h.1, h.2, setsN_at (by rw [HLEN.out]; exact hi)⟩)
    have HVB := Lib.hid (show ∀ i, i < n → (setsN L).getD i 0 < 512 ∧ ∀ A' cap W, Known W A' (L.getD i []).length (L.getD i []) → (L.getD i []).length ≤ 1048576 → Calls Try.prog 84 #[.slice A' (L.getD i []).length cap] W (fun e w' => e = .returned (.int .i64 ((setsN L).getD i 0 : Nat)) ∧ W = w') from fun i hi => by
      obtain ⟨h0, h1, h2⟩ := HROW.out i hi
      rw [h2]
      exact ⟨by have := ofK_lt h1; omega, fun A' cap W hk hm => voBits_known q A' _ cap _ W hq10 h0 (by omega) h1 hk⟩)
    have HNO := Lib.hid (fun (h : ¬ ordK L (setsN L) n) => goodG_no (m := (q : Int)) (L := L) (fun h2 => h (by rw [← HLEN.out]; exact h2.2)))
    have HYES := Lib.hid (fun (h : ordK L (setsN L) n) => goodG_split.2 ⟨hsb, by rw [HLEN.out]; exact h⟩)
    clear hsb hrows
    go_enter Try.func79, Try.ntmps79
    go_wp2_with fail
    refine (gmSets_any q A n cap L 126 _ hl (HK.out.now hb0).lists).mono ?_
    rintro e w1 ⟨rfl, hb1⟩
    rw [HSB.out]
    have hx1 := hx.now hb1
    have g1 := bfrom hb0 hb1
    have HK1 := Lib.hid (HK.out.now g1)
    have hz1 : w.heap.size < w1.heap.size := hx1.lt
    have HX := Lib.hid hx1
    clear c0 c1 hx hx1
    obtain ⟨c0, c1⟩ := HX.out.cells
    go_wp2_with fail
    go_loopw [3, 4, 5, 18] (fun _ _ _ i wr => ∃ j : Nat, j ≤ n ∧ i = .int .i64 j ∧ ordK L (setsN L) j ∧ Below w1.heap.size w1 wr) (fun _ _ _ i _ => n - (intOf i).toNat)
    case atStart => exact ⟨0, Nat.zero_le _, rfl, fun i hi => by omega, Below.refl _ _⟩
    case round =>
      obtain ⟨j, hj, rfl, hord, hb⟩ := hrel
      have HO := Lib.hid hord
      clear hord
      have HXR := Lib.hid (HX.out.now hb)
      obtain ⟨d0, d1⟩ := HXR.out.cells
      by_cases hlt : j < n
      · obtain ⟨g, v, rfl, hg, hcell, hml, hri⟩ := (HK1.out.now hb).2 j hlt
        have HRI := Lib.hid hri
        obtain ⟨A', cap', hv, hkn⟩ := RI.known hri
        have HKN := Lib.hid hkn
        clear hkn hri
        obtain ⟨hs512, hvb⟩ := HVB.out j hlt
        have HVJ := Lib.hid hvb
        clear hvb
        have HOS := Lib.hid (ordK_succ HO.out)
        have HRW := Lib.hid (show ∀ W, Below w1.heap.size w1 W → ∀ t, t < j → ∃ B c, W.cell? ⟨g, t, none⟩ = some (.slice B (L.getD t []).length c) ∧ (L.getD t []).length ≤ 1048576 ∧ Known W B (L.getD t []).length (L.getD t []) from fun W hW t ht => by
          obtain ⟨g', v', hA, _, hc, hm', hr'⟩ := (HK1.out.now hW).2 t (by omega)
          obtain ⟨B, c, rfl, hk'⟩ := RI.known hr'
          obtain rfl : g = g' := by simpa using hA
          exact ⟨B, c, hc, hm', hk'⟩)
        by_cases hj0 : j = 0
        · have hj1 : j ≤ 0 := by omega
          have HS := Lib.hid (HOS.out (fun h => by omega) (fun t h => by omega))
          generalize (setsN L).getD j 0 = s at *
          generalize L.getD j [] = row at *
          generalize row.length = p at *
          subst hv
          subst hj0
          clear HOS
          go_wp2_with (go_at_call 84; refine (HVJ.out A' cap' _ HKN.out hml).mono ?_; rintro e w' ⟨rfl, rfl⟩)
          refine wp_loop_rounds 1 ?_
          rw [rounds_succ]
          go_wp2
          go_roundw
          case rel => exact ⟨1, by omega, by go_num, HS.out, hb⟩
          case measure => simp [intOf]; omega
        · obtain ⟨i, rfl⟩ : ∃ i, j = i + 1 := ⟨j - 1, by omega⟩
          obtain ⟨g', v2, hA2, _, hcell2, hml2, hri2⟩ := (HK1.out.now hb).2 i (by omega)
          obtain rfl : g = g' := by simpa using hA2
          have HRI2 := Lib.hid hri2
          obtain ⟨B2, c2, hv2, _⟩ := RI.known hri2
          clear hri2 hA2 hj0
          have HBF := Lib.hid (fun W h1 h2 => voBefore_any v2 v (L.getD i []) (L.getD (i+1) []) W hml2 hml h1 h2)
          have HROWS := Lib.hid (show ∀ t, t < i + 1 → t < n from fun t h => by omega)
          cases hbf : before (L.getD i []) (L.getD (i+1) []) with
          | false =>
            have HG := Lib.hid (HNO.out (fun h => by
              have := (h (i+1) hlt).1 (by omega)
              simp only [Nat.add_sub_cancel] at this
              rw [hbf] at this; cases this))
            rw [hbf] at HBF
            clear hbf HOS HVJ HRW
            generalize L.getD i [] = row2 at *
            generalize L.getD (i+1) [] = row at *
            generalize row.length = p at *
            generalize row2.length = p2 at *
            subst hv
            subst hv2
            go_wp2_with (go_at_call 110; refine (HBF.out _ HRI2.out HRI.out).mono ?_; rintro e w5 ⟨rfl, hb5⟩)
            go_ret
            exact ⟨by rw [HG.out]; rfl, bfrom g1 (bfrom hb hb5)⟩
          | true =>
            have HOS2 := Lib.hid (fun h => HOS.out (fun _ => by simp only [Nat.add_sub_cancel]; exact hbf) h)
            have HVT := Lib.hid HVB.out
            have HNT := Lib.hid (fun t (ht : t < i + 1) (h : (setsN L).getD (i+1) 0 &&& (setsN L).getD t 0 = (setsN L).getD (i+1) 0 ∨ (setsN L).getD (i+1) 0 &&& (setsN L).getD t 0 = (setsN L).getD t 0) => HNO.out (fun ho => by
              have := (ho (i+1) hlt).2 t ht
              rcases h with h | h
              · exact this.1 h
              · exact this.2 h))
            rw [hbf] at HBF
            clear hbf HOS
            generalize (setsN L).getD (i+1) 0 = s at *
            generalize L.getD (i+1) [] = row at *
            generalize row.length = p at *
            have HL2 := Lib.hid (show ∃ p2, p2 = (L.getD i []).length from ⟨_, rfl⟩)
            obtain ⟨p2, hp2⟩ := HL2.out
            rw [← hp2] at hv2
            clear hp2 HL2 hml2
            subst hv
            subst hv2
            have hicap : i + 1 ≤ cap := by omega
            go_wp2_with (first
              | (go_at_call 110; refine (HBF.out _ HRI2.out HRI.out).mono ?_; rintro e w5 ⟨rfl, hb5⟩; have hb15 := bfrom hb hb5; have HK5 := Lib.hid (HKN.out.now hb5); clear d0 d1; obtain ⟨d0, d1⟩ := (HXR.out.now hb5).cells)
              | (go_at_call 84; refine (HVJ.out A' cap' _ HK5.out hml).mono ?_; rintro e w' ⟨rfl, rfl⟩))
            go_loopw [7, 8, 43] (fun _ _ k wi => ∃ t : Nat, t ≤ i + 1 ∧ k = .int .i64 t ∧ (∀ u, u < t → s &&& (setsN L).getD u 0 ≠ s ∧ s &&& (setsN L).getD u 0 ≠ (setsN L).getD u 0) ∧ wi = w5) (fun _ _ k _ => i + 1 - (intOf k).toNat)
            case atStart => exact ⟨0, Nat.zero_le _, rfl, fun u h => by omega, rfl⟩
            case round =>
              obtain ⟨t, ht, rfl, hds, rfl⟩ := hrel
              have HDS := Lib.hid hds
              clear hds
              by_cases hlt2 : t < i + 1
              · obtain ⟨B, c, hcell3, hml3, hkn3⟩ := HRW.out _ hb15 t hlt2
                obtain ⟨hu512, hvb3⟩ := HVT.out t (by omega)
                have HV3 := Lib.hid (hvb3 B c _ hkn3 hml3)
                have HNN := Lib.hid (HNT.out t hlt2)
                clear hkn3 hvb3 hml3
                obtain ⟨u, hu⟩ : ∃ u, u = (setsN L).getD t 0 := ⟨_, rfl⟩
                rw [← hu] at hu512 HV3 HNN
                have HU := Lib.hid hu
                clear hu
                generalize (L.getD t []).length = p3 at *
                have hand := i64_and_nat s u hs512 hu512
                have HBITS := Lib.hid hand
                by_cases e1 : s &&& u = s
                · have HG := Lib.hid (HNN.out (Or.inl e1))
                  rw [e1] at hand
                  clear e1
                  go_wp2_with (go_at_call 84; refine HV3.out.mono ?_; rintro e w' ⟨rfl, rfl⟩)
                  go_ret
                  exact ⟨by rw [HG.out]; rfl, bfrom g1 hb15⟩
                · by_cases e2 : s &&& u = u
                  · have HG := Lib.hid (HNN.out (Or.inr e2))
                    have hne : ((u : Int) == (s : Int)) = false := beq_false_of_ne (by rw [e2] at e1; omega)
                    rw [e2] at hand
                    clear e1 e2
                    go_wp2_with (go_at_call 84; refine HV3.out.mono ?_; rintro e w' ⟨rfl, rfl⟩)
                    go_ret
                    exact ⟨by rw [HG.out]; rfl, bfrom g1 hb15⟩
                  · have HD2 := Lib.hid (show ∀ x, x < t + 1 → s &&& (setsN L).getD x 0 ≠ s ∧ s &&& (setsN L).getD x 0 ≠ (setsN L).getD x 0 from fun x hx => by
                      by_cases e : x = t
                      · subst e; rw [← HU.out]; exact ⟨e1, e2⟩
                      · exact HDS.out x (by omega))
                    generalize s &&& u = z at *
                    have hne : ((z : Int) == (s : Int)) = false := beq_false_of_ne (by omega)
                    have hne2 : ((z : Int) == (u : Int)) = false := beq_false_of_ne (by omega)
                    clear e1 e2
                    go_wp2_with (go_at_call 84; refine HV3.out.mono ?_; rintro e w' ⟨rfl, rfl⟩)
                    go_roundw
                    case rel => exact ⟨t + 1, by omega, by go_num, HD2.out, trivial⟩
                    case measure => simp [intOf]; omega
              · obtain rfl : t = i + 1 := by omega
                have HS := Lib.hid (HOS2.out HDS.out)
                go_wp2
                go_roundw
                case rel => exact ⟨i + 2, by omega, by go_num, HS.out, hb15⟩
                case measure => simp [intOf]; omega
      · obtain rfl : n = j := by omega
        have HG := Lib.hid (HYES.out HO.out)
        go_wp2
        go_ret
        exact ⟨by rw [HG.out]; rfl, bfrom g1 hb⟩

set_option maxHeartbeats 1000000 in
theorem sIsGame_any (m : Int) (A : Option Addr) (n cap : Nat) (L : List (List Int)) (w : World) (hl : n ≤ 1048576) (hcap : n ≤ cap) (hk : ListsR w A n L) :
    Calls Try.prog 50 #[.agg #[.int .i64 m, .slice A n cap]] w fun e w' => e = .returned (.bool (goodG m L)) ∧ Below w.heap.size w w' := by
  have HK := Lib.hid (hk.now (below1 w (.cells #[.int .i64 m, .slice A n cap] 42)))
  clear hk
  have hx := BoxT.new 42 w (.int .i64 m) (.slice A n cap)
  have hb0 := below1 w (.cells #[.int .i64 m, .slice A n cap] 42)
  obtain ⟨c0, c1⟩ := hx.cells
  go_enter Try.func50, Try.ntmps50
  go_wp2_with fail
  refine (gmGood_any m A n cap L _ hl hcap HK.out).mono ?_
  rintro e w1 ⟨rfl, hb1⟩
  go_wp2
  go_ret
  exact ⟨rfl, bfrom hb0 hb1⟩
end Go.Proofs.Ytlcfimddcedbcab
