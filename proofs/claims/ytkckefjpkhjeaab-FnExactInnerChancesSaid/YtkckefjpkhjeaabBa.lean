/- Lists of committees as arguments: how large they are, how they are copied. -/
import Derived.Test.YtkckefjpkhjeaabK4
import Derived.Test.YtkckefjpkhjeaabL1
namespace Go.Proofs.Ytkckefjpkhjeaab
open Go.RowKit Vo

/-- The quota and the weights of the i-th one of some committees. -/
def qAt (C : List (Int × List Int)) (i : Nat) : Int := (C.getD i (0, [])).1
def wAt (C : List (Int × List Int)) (i : Nat) : List Int := (C.getD i (0, [])).2
def nAt (C : List (Int × List Int)) (i : Nat) : Nat := (wAt C i).length
/-- The members of the first k ones together. -/
def csum (C : List (Int × List Int)) : Nat → Nat
  | 0 => 0
  | k+1 => csum C k + nAt C k
theorem csum_succ (C : List (Int × List Int)) (k : Nat) : csum C (k+1) = csum C k + nAt C k := rfl
theorem csum_le (C : List (Int × List Int)) {k n : Nat} (h : k ≤ n) : csum C k ≤ csum C n := by
  induction n with
  | zero => have : k = 0 := by omega
            rw [this]; exact Nat.le_refl _
  | succ n ih =>
    by_cases e : k = n + 1
    · rw [e]; exact Nat.le_refl _
    · exact Nat.le_trans (ih (by omega)) (by simp only [csum]; omega)
theorem csum_row (C : List (Int × List Int)) {i n : Nat} (hi : i < n) : csum C i + nAt C i ≤ csum C n := by
  have h := csum_le C (show i + 1 ≤ n by omega)
  rw [csum_succ] at h
  exact h

/-- A slice of committees that came in: what is known of it. -/
def KCS (w : World) (A : Option Addr) (n : Nat) (C : List (Int × List Int)) : Prop :=
  C.length = n ∧ ∃ b off, (1 ≤ n → A = some ⟨b, off, none⟩ ∧ b < w.heap.size) ∧ ∀ i, i < n → ∃ A' cap, w.cell? ⟨b, off + i * 2, none⟩ = some (.int .i64 (qAt C i)) ∧ w.cell? ⟨b, off + i * 2 + 1, none⟩ = some (.slice A' (nAt C i) cap) ∧ nAt C i ≤ 9223372036854775807 ∧ Known w A' (nAt C i) (wAt C i)
theorem KCS.now {w w' : World} {A : Option Addr} {n : Nat} {C : List (Int × List Int)} (h : KCS w A n C) (hb : Below w.heap.size w w') : KCS w' A n C := by
  obtain ⟨h1, b, off, h2, h3⟩ := h
  refine ⟨h1, b, off, fun hn => ⟨(h2 hn).1, Nat.lt_of_lt_of_le (h2 hn).2 hb.size⟩, fun i hi => ?_⟩
  obtain ⟨A', cap, hc, hd, hm, hk⟩ := h3 i hi
  have hB := (h2 (by omega)).2
  exact ⟨A', cap, (hb.cell (p := ⟨b, off + i * 2, none⟩) hB).trans hc, (hb.cell (p := ⟨b, off + i * 2 + 1, none⟩) hB).trans hd, hm, hk.now hb⟩

set_option maxHeartbeats 400000 in
theorem szCommittee_left (v : Value) (A : Option Addr) (n cap : Nat) (l : Int) (w : World) (hm : n ≤ 9223372036854775807) (h0 : 0 ≤ l) (h1 : l ≤ 1048576) :
    Calls Try.prog 20 #[.agg #[v, .slice A n cap], .int .i64 l] w fun e w' => (e = .returned (.int .i64 (-1)) ∧ l < (n : Int) ∨ ((n : Int) ≤ l ∧ e = .returned (.int .i64 (l - n)))) ∧ Below w.heap.size w w' := by
  by_cases hn : (n : Int) ≤ l
  · have hge : ¬ l - (n : Int) < 0 := by omega
    go_enter Try.func20, Try.ntmps20
    go_wp2_with fail
    refine (szIntS_yes A n cap l _ hn h1).mono ?_
    rintro e w1 ⟨rfl, rfl⟩
    go_wp2
    go_ret
    exact ⟨Or.inr ⟨hn, rfl⟩, below1 _ _⟩
  · have hn' : l < (n : Int) := by omega
    go_enter Try.func20, Try.ntmps20
    go_wp2_with fail
    refine (szIntS_no A n cap l _ hm h0 hn' h1).mono ?_
    rintro e w1 ⟨rfl, rfl⟩
    go_wp2
    go_ret
    exact ⟨Or.inl ⟨rfl, hn'⟩, below1 _ _⟩

set_option maxRecDepth 20000 in
set_option maxHeartbeats 2000000 in
theorem szCommitteeS_any (A : Option Addr) (n cap : Nat) (C : List (Int × List Int)) (left : Int) (w : World) (h0 : 0 ≤ left) (h1 : left ≤ 1048576) (hm : n ≤ 9223372036854775807) (hk : KCS w A n C) :
    Calls Try.prog 9 #[.slice A n cap, .int .i64 left] w fun e w' => (e = .returned (.int .i64 (-1)) ∨ ((n : Int) + (csum C n : Nat) ≤ left ∧ e = .returned (.int .i64 (left - n - (csum C n : Nat))))) ∧ Below w.heap.size w w' := by
  by_cases hn : left < n
  · go_enter Try.func9, Try.ntmps9
    go_wp2
    go_ret
    exact ⟨Or.inl rfl, Below.refl _ _⟩
  · have HK := Lib.hid hk
    clear hk
    have hn1 : (n : Int) ≤ left := by omega
    have hge : ¬ left - (n : Int) < 0 := by omega
    go_enter Try.func9, Try.ntmps9
    go_wp2_with fail
    go_loopw [1, 5] (fun q i wr => ∃ k : Nat, k ≤ n ∧ i = .int .i64 k ∧ q = .int .i64 (left - n - (csum C k : Nat)) ∧ (n : Int) + (csum C k : Nat) ≤ left ∧ Below w.heap.size w wr) (fun _ i _ => n - (intOf i).toNat)
    case atStart => exact ⟨0, Nat.zero_le _, rfl, by simp [csum], by simp [csum]; omega, Below.refl _ _⟩
    case round =>
      obtain ⟨k, hkn, rfl, rfl, hle, hb⟩ := hrel
      by_cases hlt : k < n
      · have hks := HK.out.now hb
        obtain ⟨_, b, off, hA, hrow⟩ := hks
        obtain ⟨rfl, hbl⟩ := hA (by omega)
        obtain ⟨A', cap', hc0, hc1, hm', _⟩ := hrow k hlt
        have HS := Lib.hid (csum_succ C k)
        clear hA hrow
        generalize qAt C k = q0 at *
        obtain ⟨p, hp⟩ : ∃ p, p = csum C k := ⟨_, rfl⟩
        rw [← hp] at HS hle ⊢
        clear hp
        obtain ⟨m, hmm⟩ : ∃ m, m = nAt C k := ⟨_, rfl⟩
        rw [← hmm] at HS hc1 hm'
        clear hmm
        go_wp2_with (go_at_call 20; refine (szCommittee_left _ A' m cap' (left - n - (p : Nat)) _ hm' (by omega) (by omega)).mono ?_; rintro e w2 ⟨he, hb2⟩; rcases he with ⟨rfl, hlo⟩ | ⟨hhi, rfl⟩)
        · go_wp2
          go_ret
          exact ⟨Or.inl rfl, bfrom hb hb2⟩
        · have hge2 : ¬ left - (n : Int) - (p : Int) - (m : Int) < 0 := by omega
          go_wp2
          go_roundw
          case rel => exact ⟨k + 1, by omega, by go_num, by rw [HS.out]; first | (congr 1; omega) | (simp; omega), by rw [HS.out]; omega, bfrom hb hb2⟩
          case measure => simp [intOf]; omega
      · obtain rfl : k = n := by omega
        go_wp2
        go_ret
        first | exact ⟨Or.inr ⟨hle, rfl⟩, hb⟩ | exact ⟨Or.inr rfl, hb⟩

/-- The cells of a list of committees whose weights lie in the blocks G. -/
def comV (C : List (Int × List Int)) (G : Nat → Nat) (i : Nat) : Value :=
  if i % 2 = 0 then .int .i64 (qAt C (i / 2)) else .slice (some ⟨G (i / 2), 0, none⟩) (nAt C (i / 2)) (nAt C (i / 2))
theorem comV_q (C : List (Int × List Int)) (G : Nat → Nat) (k : Nat) : comV C G (k * 2) = .int .i64 (qAt C k) := by simp [comV]
theorem comV_w (C : List (Int × List Int)) (G : Nat → Nat) (k : Nat) : comV C G (k * 2 + 1) = .slice (some ⟨G k, 0, none⟩) (nAt C k) (nAt C k) := by
  have h1 : (k * 2 + 1) % 2 = 1 := by omega
  have h2 : (k * 2 + 1) / 2 = k := by omega
  simp [comV, h1, h2]
theorem comV_low {C : List (Int × List Int)} {G G' : Nat → Nat} {k i : Nat} (h : ∀ j, j < k → G j = G' j) (hi : i < k * 2) : comV C G i = comV C G' i := by
  unfold comV
  rw [h (i / 2) (by omega)]

/-- A list of committees in blocks lo .. hi: the outer one is lo, each one's weights lie in a block of their own. -/
def RCS (C : List (Int × List Int)) (lo hi : Nat) (w : World) : Prop :=
  ∃ G : Nat → Nat, lo < hi ∧ Own w lo 43 (2 * C.length) (comV C G) ∧ ∀ i, i < C.length → lo < G i ∧ G i < hi ∧ Ints w (G i) (nAt C i) (wAt C i) ∧ ∀ j, j < i → G j < G i
theorem RCS.lies {C : List (Int × List Int)} {lo hi : Nat} {w : World} (h : RCS C lo hi w) (hh : hi ≤ w.heap.size) : Lies (RCS C lo hi) lo hi w := by
  refine ⟨hh, fun w' e => ?_⟩
  obtain ⟨G, hl, ho, h⟩ := h
  refine ⟨G, hl, ho.of_block (e lo (Nat.le_refl _) hl), fun i hi => ?_⟩
  obtain ⟨h1, h2, h3, h4⟩ := h i hi
  exact ⟨h1, h2, Own.of_block h3 (e (G i) (by omega) h2), h4⟩
theorem RCS.kcs {C : List (Int × List Int)} {lo hi : Nat} {w : World} (h : RCS C lo hi w) (hm : csum C C.length ≤ 1048576) : KCS w (some ⟨lo, 0, none⟩) C.length C := by
  obtain ⟨G, hl, ho, h⟩ := h
  refine ⟨rfl, lo, 0, fun _ => ⟨rfl, ho.lt⟩, fun i hi => ?_⟩
  obtain ⟨h1, h2, h3, h4⟩ := h i hi
  have c0 := ho.cell (i := i * 2) (by omega)
  have c1 := ho.cell (i := i * 2 + 1) (by omega)
  rw [comV_q] at c0
  rw [comV_w] at c1
  have := csum_row C hi
  exact ⟨_, _, by rw [Nat.zero_add]; exact c0, by rw [Nat.zero_add]; exact c1, by omega, Known.of h3.sl⟩

theorem infoCom : (Try.prog.info? 43).map (fun i => (i.zero, i.size, i.bytes)) = some (some (.agg #[.int .i64 0, .slice none 0 0]), 2, 32) := by kernel_rfl
/-- The cells of committees that are not told yet. -/
def zerV (i : Nat) : Value := if i % 2 = 0 then .int .i64 0 else .slice none 0 0
theorem zerV_q (k : Nat) : zerV (k * 2) = .int .i64 0 := by simp [zerV]
theorem zerV_w (k : Nat) : zerV (k * 2 + 1) = .slice none 0 0 := by
  have h1 : (k * 2 + 1) % 2 = 1 := by omega
  simp [zerV, h1]
theorem run_make_coms (n : Nat) (h : n ≤ 1048576) (w : World) :
    (Instr.makeSlice 27 (.int .i64 (n : Int)) (.int .i64 (n : Int))).run Try.prog w = .ok (.slice (some ⟨w.heap.size, 0, none⟩) n n) (w.alloc (.cells (madeCells #[.int .i64 0, .slice none 0 0] (n * 2)) 43)) := by
  obtain ⟨i, hi, hzz⟩ := Option.map_eq_some_iff.1 infoCom
  simp only [Prod.mk.injEq] at hzz
  obtain ⟨hz, hs, hb⟩ := hzz
  have hr := run_make (P := Try.prog) w 27 43 i (.agg #[.int .i64 0, .slice none 0 0]) Try.underlying27 hi hz .i64 .i64 n n (by omega) (Int.le_refl _) (by rw [hb]; omega) (by omega)
  simp only [Int.toNat_natCast, hs] at hr
  exact hr
theorem coms_made (w : World) (n : Nat) : Own (w.alloc (.cells (madeCells #[.int .i64 0, .slice none 0 0] (n * 2)) 43)) w.heap.size 43 (2 * n) zerV := by
  refine ⟨_, heap_alloc_new w _, by rw [size_madeCells]; omega, fun i hi => ?_⟩
  have h2 : i % 2 = 0 ∨ i % 2 = 1 := by omega
  have h3 : i < n * 2 := by omega
  rcases h2 with h2 | h2
  · have e : zerV i = (#[.int .i64 0, .slice none 0 0] : Array Value)[i % 2]! := by simp [zerV, h2]
    rw [e]
    simp [madeCells, h3]
  · have e : zerV i = (#[.int .i64 0, .slice none 0 0] : Array Value)[i % 2]! := by simp [zerV, h2]
    rw [e]
    simp [madeCells, h3]

theorem RCS.kcsn {C : List (Int × List Int)} {lo hi n : Nat} {w : World} (h : RCS C lo hi w) (hn : C.length = n) (hm : n + csum C n ≤ 1048576) : KCS w (some ⟨lo, 0, none⟩) n C := by
  subst hn
  exact h.kcs (by omega)

set_option maxRecDepth 20000 in
set_option maxHeartbeats 4000000 in
theorem toCommitteeS_any (A : Option Addr) (n cap : Nat) (C : List (Int × List Int)) (w : World) (hn : n + csum C n ≤ 1048576) (hk : KCS w A n C) :
    Calls Try.prog 11 #[.slice A n cap] w fun e w' => e = .returned (.slice (some ⟨w.heap.size, 0, none⟩) n n) ∧ Lies (RCS C w.heap.size w'.heap.size) w.heap.size w'.heap.size w' ∧ Below w.heap.size w w' := by
  have hmk := run_make_coms n (by omega)
  have HK := Lib.hid hk
  have HLEN := Lib.hid hk.1
  have HROW := Lib.hid (fun i (hi : i < n) => csum_row C hi)
  have HMADE := Lib.hid (coms_made w n)
  clear hk
  go_enter Try.func11, Try.ntmps11
  go_wp2
  go_loopw [4] (fun i wr => ∃ (k : Nat) (G : Nat → Nat), k ≤ n ∧ i = .int .i64 k ∧ Own wr w.heap.size 43 (2 * n) (fun j => if j < k * 2 then comV C G j else zerV j) ∧ (∀ i, i < k → w.heap.size < G i ∧ G i < wr.heap.size ∧ Ints wr (G i) (nAt C i) (wAt C i) ∧ ∀ j, j < i → G j < G i) ∧ Below w.heap.size w wr) (fun i _ => n - (intOf i).toNat)
  case atStart =>
    refine ⟨0, fun _ => 0, Nat.zero_le _, rfl, ?_, fun i hi => by omega, below1 _ _⟩
    refine HMADE.out.congr fun i _ => ?_
    rw [if_neg (by omega)]
  case round =>
    obtain ⟨k, G, hkn, rfl, hown, hrows, hb⟩ := hrel
    have HO := Lib.hid hown
    have HR := Lib.hid hrows
    have hgl := hown.lt
    clear hown hrows
    by_cases hlt : k < n
    · have hks := HK.out.now hb
      obtain ⟨_, b, off, hA, hrow⟩ := hks
      obtain ⟨rfl, hbl⟩ := hA (by omega)
      obtain ⟨A', cap', hc0, hc1, _, hkn'⟩ := hrow k hlt
      have hml : nAt C k ≤ 1048576 := by have := HROW.out k hlt; omega
      have HKN := Lib.hid hkn'
      clear hA hrow hkn'
      obtain ⟨row, hrw⟩ : ∃ row, row = wAt C k := ⟨_, rfl⟩
      rw [← hrw] at HKN
      have HRW := Lib.hid hrw
      obtain ⟨m, hmm⟩ : ∃ m, m = nAt C k := ⟨_, rfl⟩
      rw [← hmm] at hc1 hml HKN
      have HM := Lib.hid hmm
      obtain ⟨q0, hqq⟩ : ∃ q0, q0 = qAt C k := ⟨_, rfl⟩
      rw [← hqq] at hc0
      have HQ := Lib.hid hqq
      clear hrw hmm hqq
      have hold0 := HO.out.cell (i := k * 2) (by omega)
      have hold1 := HO.out.cell (i := k * 2 + 1) (by omega)
      simp only [Nat.lt_irrefl, if_false] at hold0
      rw [if_neg (by omega)] at hold1
      rw [zerV_q] at hold0
      rw [zerV_w] at hold1
      have hfr0 := HO.out.frozen (k * 2)
      have hfr1 := HO.out.frozen (k * 2 + 1)
      have K := Lib.hid (show ∀ W, Below wr.heap.size wr W → (W.cell? ⟨w.heap.size, k * 2, none⟩ = some (.int .i64 0) ∧ W.cell? ⟨w.heap.size, k * 2 + 1, none⟩ = some (.slice none 0 0) ∧ W.frozen? ⟨w.heap.size, k * 2, none⟩ = false ∧ W.frozen? ⟨w.heap.size, k * 2 + 1, none⟩ = false) from fun W hW => ⟨(hW.cell (p := ⟨w.heap.size, k * 2, none⟩) hgl).trans hold0, (hW.cell (p := ⟨w.heap.size, k * 2 + 1, none⟩) hgl).trans hold1, (hW.frozen (p := ⟨w.heap.size, k * 2, none⟩) hgl).trans hfr0, (hW.frozen (p := ⟨w.heap.size, k * 2 + 1, none⟩) hgl).trans hfr1⟩)
      clear hold0 hold1 hfr0 hfr1
      go_wp2_with (go_at_call 22; refine (toCommittee_any q0 A' m cap' row _ hml HKN.out).mono ?_; rintro e w2 ⟨rfl, hi2, hb2⟩; have HI2 := Lib.hid hi2; clear hi2; obtain ⟨u0, u1, u2, u3⟩ := K.out _ hb2)
      have hz2 : wr.heap.size + 3 < w2.heap.size := HI2.out.lt
      have HO2 := Lib.hid (((HO.out.below hb2 hgl).set (k * 2) (.int .i64 q0)).set (k * 2 + 1) (.slice (some ⟨wr.heap.size + 3, 0, none⟩) m m))
      have HR2 := Lib.hid (show ∀ i, i < k → Ints ((w2.setCell ⟨w.heap.size, k * 2, none⟩ (.int .i64 q0)).setCell ⟨w.heap.size, k * 2 + 1, none⟩ (.slice (some ⟨wr.heap.size + 3, 0, none⟩) m m)) (G i) (nAt C i) (wAt C i) from fun i hi => by
        obtain ⟨h1, h2, h3, _⟩ := HR.out i hi
        exact Own.far (Own.far (Own.below h3 hb2 h2) (by simp; omega) _) (by simp; omega) _)
      have HN2 := Lib.hid (show Ints ((w2.setCell ⟨w.heap.size, k * 2, none⟩ (.int .i64 q0)).setCell ⟨w.heap.size, k * 2 + 1, none⟩ (.slice (some ⟨wr.heap.size + 3, 0, none⟩) m m)) (wr.heap.size + 3) m row from Own.far (Own.far HI2.out (by simp; omega) _) (by simp; omega) _)
      have HB2 := Lib.hid (((bfrom hb hb2).setCell (p := ⟨w.heap.size, k * 2, none⟩) (by simp) (.int .i64 q0)).setCell (p := ⟨w.heap.size, k * 2 + 1, none⟩) (by simp) (.slice (some ⟨wr.heap.size + 3, 0, none⟩) m m))
      go_roundw
      case rel =>
        refine ⟨k + 1, fun i => if i = k then wr.heap.size + 3 else G i, by omega, by go_num, ?_, fun i hi => ?_, HB2.out⟩
        · refine HO2.out.congr fun i hi => ?_
          by_cases e1 : i = k * 2 + 1
          · subst e1
            rw [if_pos rfl, if_pos (by omega), comV_w, if_pos rfl, HM.out]
          · rw [if_neg e1]
            by_cases e0 : i = k * 2
            · subst e0
              rw [if_pos rfl, if_pos (by omega), comV_q, HQ.out]
            · rw [if_neg e0]
              by_cases h : i < k * 2
              · rw [if_pos h, if_pos (by omega)]
                refine comV_low (k := k) (fun j hj => ?_) h
                rw [if_neg (by omega)]
              · rw [if_neg h, if_neg (by omega)]
        · by_cases e : i = k
          · subst e
            simp only [if_true]
            rw [← HRW.out, ← HM.out]
            refine ⟨by omega, by simpa using hz2, HN2.out, fun j hj => ?_⟩
            rw [if_neg (by omega)]
            have := (HR.out j hj).2.1
            omega
          · simp only [if_neg e]
            obtain ⟨h1, h2, _, h4⟩ := HR.out i (by omega)
            refine ⟨h1, by simp; omega, HR2.out i (by omega), fun j hj => ?_⟩
            rw [if_neg (by omega)]
            exact h4 j hj
      case measure => simp [intOf]; omega
    · obtain rfl : k = n := by omega
      go_wp2
      go_ret
      refine ⟨rfl, RCS.lies ⟨G, hgl, ?_, fun i hi => ?_⟩ (Nat.le_refl _), hb⟩
      · rw [HLEN.out]; exact HO.out.congr fun i hi => by rw [if_pos (by omega)]
      · exact HR.out i (by rw [← HLEN.out]; exact hi)

set_option maxHeartbeats 2000000 in
theorem eqCommitteeS_v (lo hi lo2 hi2 n c c2 : Nat) (C : List (Int × List Int)) (w : World) (hn : n = C.length) (hm : n + csum C n ≤ 1048576) (hx : RCS C lo hi w) (hy : RCS C lo2 hi2 w) :
    Calls Try.prog 14 #[.slice (some ⟨lo, 0, none⟩) n c, .slice (some ⟨lo2, 0, none⟩) n c2] w fun e w' => e = .returned (.bool true) ∧ Below w.heap.size w w' := by
  obtain ⟨G, _, ho, hr⟩ := hx
  obtain ⟨G2, _, ho2, hr2⟩ := hy
  rw [← hn] at ho ho2 hr hr2
  have HO := Lib.hid ho
  have HO2 := Lib.hid ho2
  have HR := Lib.hid hr
  have HR2 := Lib.hid hr2
  have hgl := ho.lt
  have hgl2 := ho2.lt
  have HROW := Lib.hid (fun i (hi : i < n) => csum_row C hi)
  clear ho ho2 hr hr2 hn
  go_enter Try.func14, Try.ntmps14
  go_wp2
  go_loopw [5] (fun i wr => ∃ k : Nat, k ≤ n ∧ i = .int .i64 k ∧ Below w.heap.size w wr) (fun i _ => n - (intOf i).toNat)
  case atStart => exact ⟨0, Nat.zero_le _, rfl, Below.refl _ _⟩
  case round =>
    obtain ⟨k, hk, rfl, hb⟩ := hrel
    by_cases hlt : k < n
    · have KX := Lib.hid (show ∀ W, Below w.heap.size w W → (W.cell? ⟨lo, k * 2, none⟩ = some (.int .i64 (qAt C k)) ∧ W.cell? ⟨lo, k * 2 + 1, none⟩ = some (.slice (some ⟨G k, 0, none⟩) (nAt C k) (nAt C k)) ∧ W.cell? ⟨lo2, k * 2, none⟩ = some (.int .i64 (qAt C k)) ∧ W.cell? ⟨lo2, k * 2 + 1, none⟩ = some (.slice (some ⟨G2 k, 0, none⟩) (nAt C k) (nAt C k)) ∧ Sl W (G k) 0 (nAt C k) (wAt C k) ∧ Sl W (G2 k) 0 (nAt C k) (wAt C k)) from fun W h => by
        have e1 := (HO.out.below h hgl).cell (i := k * 2) (by omega)
        have e2 := (HO.out.below h hgl).cell (i := k * 2 + 1) (by omega)
        have e3 := (HO2.out.below h hgl2).cell (i := k * 2) (by omega)
        have e4 := (HO2.out.below h hgl2).cell (i := k * 2 + 1) (by omega)
        rw [comV_q] at e1 e3
        rw [comV_w] at e2 e4
        exact ⟨e1, e2, e3, e4, ((HR.out k hlt).2.2.1.sl).now h, ((HR2.out k hlt).2.2.1.sl).now h⟩)
      have hml : nAt C k ≤ 1048576 := by have := HROW.out k hlt; omega
      generalize qAt C k = q0 at *
      generalize wAt C k = row at *
      generalize nAt C k = m at *
      generalize G k = g at *
      generalize G2 k = g2 at *
      obtain ⟨c0, c1, c2', c3, s0, s1⟩ := KX.out wr hb
      have hlt' : (k : Int) < n := by omega
      clear s0 s1
      go_wp2_with fail
      go_region_held3 (fun w' => w'.cell? ⟨lo, k * 2, none⟩ = some (.int .i64 q0) ∧ w'.cell? ⟨lo, k * 2 + 1, none⟩ = some (.slice (some ⟨g, 0, none⟩) m m) ∧ w'.cell? ⟨lo2, k * 2, none⟩ = some (.int .i64 q0) ∧ w'.cell? ⟨lo2, k * 2 + 1, none⟩ = some (.slice (some ⟨g2, 0, none⟩) m m))
        (first | exact ⟨c0, c1, c2', c3⟩ | exact ⟨d0, d1, d2, d3⟩ | go_keep)
        (first
          | (go_at_call 24; refine (eqCommittee_same q0 g 0 m m g2 0 m row _ (by omega) (KX.out _ hb.drew).2.2.2.2.1 (KX.out _ hb.drew).2.2.2.2.2).mono ?_; rintro e w2 ⟨rfl, hb2⟩; obtain ⟨d0, d1, d2, d3, d4, d5⟩ := KX.out _ (hb.drew.trans (hb2.mono hb.drew.size))))
      all_goals
        have b2 : Below w.heap.size w w2 := hb.drew.trans (hb2.mono hb.drew.size)
        go_wp2
        go_roundw
        case rel => exact ⟨k + 1, by omega, by go_num, b2⟩
        case measure => simp [intOf]; omega
    · obtain rfl : k = n := by omega
      go_wp2
      go_ret
      exact ⟨rfl, hb⟩
end Go.Proofs.Ytkckefjpkhjeaab
