/- Texts of Ga, S2. -/
import Derived.Test.YtnldodnpakpeeaaPkQ05
import Derived.Test.YtnldodnpakpeeaaPkQ01
import Derived.Test.YtnldodnpakpeeaaPkQ03
namespace Go.Proofs.Ytnldodnpakpeeaa
open Go.RowKit Vo

abbrev Clu := Int × Int × Int
def cAt (C : List Clu) (i : Nat) : Clu := C.getD i (0, 0, 0)
def cluV (c : Clu) : Value := .agg #[.int .i64 c.1, .int .i64 c.2.1, .int .i64 c.2.2]
/-- The clues' numbers, one behind the other. -/
def clF (C : List Clu) (i : Nat) : Int := if i % 3 = 0 then (cAt C (i / 3)).1 else if i % 3 = 1 then (cAt C (i / 3)).2.1 else (cAt C (i / 3)).2.2
theorem clF_0 (C : List Clu) (k : Nat) : clF C (k * 3) = (cAt C k).1 := by simp [clF]
theorem clF_1 (C : List Clu) (k : Nat) : clF C (k * 3 + 1) = (cAt C k).2.1 := by
  have h1 : (k * 3 + 1) % 3 = 1 := by omega
  have h2 : (k * 3 + 1) / 3 = k := by omega
  simp [clF, h1, h2]
theorem clF_2 (C : List Clu) (k : Nat) : clF C (k * 3 + 2) = (cAt C k).2.2 := by
  have h1 : (k * 3 + 2) % 3 = 2 := by omega
  have h2 : (k * 3 + 2) / 3 = k := by omega
  simp [clF, h1, h2]

/-- A slice of clues that is read: what is known of it. -/
structure CL (w : World) (b off n : Nat) (C : List Clu) : Prop where
  lt : b < w.heap.size
  cell : ∀ j, j < 3 * n → w.cell? ⟨b, off + j, none⟩ = some (.int .i64 (clF C j))
theorem CL.now {w w' : World} {b off n : Nat} {C : List Clu} (h : CL w b off n C) (hb : Below w.heap.size w w') : CL w' b off n C :=
  ⟨Nat.lt_of_lt_of_le h.lt hb.size, fun j hj => (hb.cell (p := ⟨b, off + j, none⟩) h.lt).trans (h.cell j hj)⟩
theorem CL.at {w : World} {b off n : Nat} {C : List Clu} (h : CL w b off n C) {k : Nat} (hk : k < n) :
    w.cell? ⟨b, off + k * 3, none⟩ = some (.int .i64 (cAt C k).1) ∧ w.cell? ⟨b, off + k * 3 + 1, none⟩ = some (.int .i64 (cAt C k).2.1) ∧ w.cell? ⟨b, off + k * 3 + 2, none⟩ = some (.int .i64 (cAt C k).2.2) := by
  have h0 := h.cell (k * 3) (by omega)
  have h1 := h.cell (k * 3 + 1) (by omega)
  have h2 := h.cell (k * 3 + 2) (by omega)
  rw [clF_0] at h0
  rw [clF_1, show off + (k * 3 + 1) = off + k * 3 + 1 from rfl] at h1
  rw [clF_2, show off + (k * 3 + 2) = off + k * 3 + 2 from rfl] at h2
  exact ⟨h0, h1, h2⟩
def KCl (w : World) (A : Option Addr) (n : Nat) (C : List Clu) : Prop :=
  C.length = n ∧ ∃ b off, (1 ≤ n → A = some ⟨b, off, none⟩ ∧ CL w b off n C)
theorem KCl.now {w w' : World} {A : Option Addr} {n : Nat} {C : List Clu} (h : KCl w A n C) (hb : Below w.heap.size w w') : KCl w' A n C := by
  obtain ⟨h1, b, off, h2⟩ := h
  exact ⟨h1, b, off, fun hn => ⟨(h2 hn).1, (h2 hn).2.now hb⟩⟩
theorem KCl.get {w : World} {A : Option Addr} {n : Nat} {C : List Clu} (h : KCl w A n C) (hn : 1 ≤ n) : ∃ b off, A = some ⟨b, off, none⟩ ∧ CL w b off n C := by
  obtain ⟨h1, b, off, h2⟩ := h
  exact ⟨b, off, (h2 hn).1, (h2 hn).2⟩
/-- Block g has these clues. -/
def Cls (w : World) (g n : Nat) (C : List Clu) : Prop := Own w g 130 (3 * n) (fun i => .int .i64 (clF C i))
theorem Cls.cl {w : World} {g n : Nat} {C : List Clu} (h : Cls w g n C) : CL w g 0 n C := ⟨h.lt, fun j hj => by rw [Nat.zero_add]; exact h.cell hj⟩
theorem Cls.kcl {w : World} {g n : Nat} {C : List Clu} (h : Cls w g n C) (hl : C.length = n) : KCl w (some ⟨g, 0, none⟩) n C := ⟨hl, g, 0, fun _ => ⟨rfl, h.cl⟩⟩

set_option maxHeartbeats 400000 in
theorem szPuzzle_any (v : Value) (A : Option Addr) (n cap : Nat) (w : World) (hm : n ≤ 9223372036854775807) :
    Calls Try.prog 10 #[.agg #[v, .slice A n cap], .int .i64 1048576] w fun e w' => (e = .returned (.int .i64 (-1)) ∨ (n ≤ 1048576 ∧ e = .returned (.int .i64 (1048576 - n)))) ∧ Below w.heap.size w w' := by
  have hS : ∀ W, Calls Try.prog 47 #[.slice A n cap, .int .i64 1048576] W fun e w' => (n ≤ 1048576 ∧ e = .returned (.int .i64 (1048576 - n)) ∨ (¬ n ≤ 1048576 ∧ e = .returned (.int .i64 (-1)))) ∧ W = w' := by
    intro W
    by_cases hn : n ≤ 1048576
    · have hge : ¬ (1048576 : Int) - (n : Int) < 0 := by omega
      go_enter Try.func47, Try.ntmps47
      go_wp2
      go_ret
      first | exact ⟨Or.inl ⟨hn, rfl⟩, rfl⟩ | exact ⟨Or.inl rfl, rfl⟩ | exact ⟨rfl, rfl⟩
    · have hge : (1048576 : Int) < (n : Int) := by omega
      go_enter Try.func47, Try.ntmps47
      go_wp2
      go_ret
      first | exact ⟨Or.inr ⟨hn, rfl⟩, rfl⟩ | exact ⟨Or.inr rfl, rfl⟩ | exact ⟨rfl, rfl⟩
  go_enter Try.func10, Try.ntmps10
  go_wp2_with fail
  refine (hS _).mono ?_
  rintro e w1 ⟨h, rfl⟩
  rcases h with ⟨hn, rfl⟩ | ⟨hn, rfl⟩
  · have hge : ¬ (1048576 : Int) - (n : Int) < 0 := by omega
    go_wp2
    go_ret
    first | exact ⟨Or.inr ⟨hn, rfl⟩, below1 _ _⟩ | exact ⟨Or.inr rfl, below1 _ _⟩
  · go_wp2
    go_ret
    exact ⟨Or.inl rfl, below1 _ _⟩

theorem infoClue : (Try.prog.info? 130).map (fun i => (i.zero, i.size, i.bytes)) = some (some (.agg #[.int .i64 0, .int .i64 0, .int .i64 0]), 3, 24) := by kernel_rfl

set_option maxHeartbeats 1000000 in
theorem toClue_any (k a b : Int) (w : World) :
    Calls Try.prog 92 #[.agg #[.int .i64 k, .int .i64 a, .int .i64 b]] w fun e w' => e = .returned (.agg #[.int .i64 k, .int .i64 a, .int .i64 b]) ∧ Below w.heap.size w w' := by
  go_enter Try.func92, Try.ntmps92
  go_wp2
  refine bodyPost_ret (v := .agg #[.int .i64 k, .int .i64 a, .int .i64 b]) (by simp [results, Try.results92, go_sem]) rfl ⟨rfl, ?_⟩
  exact ((below1 w _).alloc (by simp) _).alloc (by simp; omega) _

set_option maxHeartbeats 1000000 in
theorem eqClue_same (k a b : Int) (w : World) :
    Calls Try.prog 97 #[.agg #[.int .i64 k, .int .i64 a, .int .i64 b], .agg #[.int .i64 k, .int .i64 a, .int .i64 b]] w fun e w' => e = .returned (.bool true) ∧ Below w.heap.size w w' := by
  have hb0 : Below w.heap.size w ((w.alloc (.cells #[.int .i64 k, .int .i64 a, .int .i64 b] 130)).alloc (.cells #[.int .i64 k, .int .i64 a, .int .i64 b] 130)) := (below1 w _).alloc (by simp) _
  go_enter Try.func97, Try.ntmps97
  go_wp2
  go_ret
  exact ⟨rfl, hb0⟩

/-- A slice of clues whose block, if it has one, is in lo .. hi. -/
def RCl (L : List Clu) (lo hi : Nat) (v : Value) (w : World) : Prop :=
  ∃ A cap, v = .slice A L.length cap ∧ (L.length = 0 ∨ ∃ g, A = some ⟨g, 0, none⟩ ∧ lo ≤ g ∧ g < hi ∧ Cls w g L.length L)
def MCl (L : List Clu) (lo hi : Nat) (kk : Int) (v : Value) (w : World) : Prop :=
  ∃ A cap, v = .slice A L.length cap ∧ (L.length = 0 ∨ ∃ g, A = some ⟨g, 0, none⟩ ∧ lo ≤ g ∧ g < hi ∧ Own w g 130 (3 * L.length) (fun j => .int .i64 (kk + j)))
theorem RCl.lies {L : List Clu} {lo hi : Nat} {v : Value} {w : World} (h : RCl L lo hi v w) (hh : hi ≤ w.heap.size) : Lies (RCl L lo hi v) lo hi w := by
  refine ⟨hh, fun w' e => ?_⟩
  obtain ⟨A, cap, hv, h⟩ := h
  refine ⟨A, cap, hv, ?_⟩
  rcases h with h | ⟨g, hA, h1, h2, h⟩
  · exact Or.inl h
  · exact Or.inr ⟨g, hA, h1, h2, Own.of_block h (e g h1 h2)⟩
theorem MCl.lies {L : List Clu} {lo hi : Nat} {kk : Int} {v : Value} {w : World} (h : MCl L lo hi kk v w) (hh : hi ≤ w.heap.size) : Lies (MCl L lo hi kk v) lo hi w := by
  refine ⟨hh, fun w' e => ?_⟩
  obtain ⟨A, cap, hv, h⟩ := h
  refine ⟨A, cap, hv, ?_⟩
  rcases h with h | ⟨g, hA, h1, h2, h⟩
  · exact Or.inl h
  · exact Or.inr ⟨g, hA, h1, h2, Own.of_block h (e g h1 h2)⟩
theorem RCl.wide {L : List Clu} {lo lo' hi hi' : Nat} {v : Value} {w : World} (h : RCl L lo hi v w) (hl : lo' ≤ lo) (hh : hi ≤ hi') : RCl L lo' hi' v w := by
  obtain ⟨A, cap, hv, h⟩ := h
  refine ⟨A, cap, hv, ?_⟩
  rcases h with h | ⟨g, hA, h1, h2, h⟩
  · exact Or.inl h
  · exact Or.inr ⟨g, hA, by omega, by omega, h⟩
theorem RCl.of_own {L : List Clu} {lo hi g n cap : Nat} {w : World} (hn : L.length = n) (h1 : lo ≤ g) (h2 : g < hi) (h : Cls w g n L) : RCl L lo hi (.slice (some ⟨g, 0, none⟩) n cap) w := by
  subst hn
  exact ⟨_, cap, rfl, Or.inr ⟨g, rfl, h1, h2, h⟩⟩
theorem RCl.kcl {L : List Clu} {lo hi n cap : Nat} {A : Option Addr} {w : World} (h : RCl L lo hi (.slice A n cap) w) : KCl w A n L := by
  obtain ⟨A', cap', hv, h⟩ := h
  injection hv with hA hn hc
  subst hA hn
  rcases h with h | ⟨g, hA, h1, h2, h⟩
  · exact ⟨rfl, 0, 0, fun h' => by omega⟩
  · exact ⟨rfl, g, 0, fun _ => ⟨hA, h.cl⟩⟩
/-- A puzzle in memory of the call's own, and a truth. -/
def AnsP (m : Int) (L : List Clu) (ok : Bool) (w w' : World) (e : Ending) : Prop :=
  ∃ A cap, e = .returned (.tuple #[.agg #[.int .i64 m, .slice A L.length cap], .bool ok]) ∧ Lies (RCl L w.heap.size w'.heap.size (.slice A L.length cap)) w.heap.size w'.heap.size w' ∧ Below w.heap.size w w'

set_option maxHeartbeats 2000000 in
theorem eqClueS_in (g g2 n c c2 : Nat) (L : List Clu) (w : World) (hm : n ≤ 1048576) (hx : Cls w g n L) (hy : Cls w g2 n L) :
    Calls Try.prog 54 #[.slice (some ⟨g, 0, none⟩) n c, .slice (some ⟨g2, 0, none⟩) n c2] w fun e w' => e = .returned (.bool true) ∧ Below w.heap.size w w' := by
  have HX := Lib.hid hx.cl
  have HY := Lib.hid hy.cl
  have hgl : g < w.heap.size := Own.lt hx
  have hgl2 : g2 < w.heap.size := Own.lt hy
  clear hx hy
  go_enter Try.func54, Try.ntmps54
  go_wp2
  go_loopw [5] (fun i wr => ∃ k : Nat, k ≤ n ∧ i = .int .i64 k ∧ Below w.heap.size w wr) (fun i _ => n - (intOf i).toNat)
  case atStart => exact ⟨0, Nat.zero_le _, rfl, Below.refl _ _⟩
  case round =>
    obtain ⟨k, hk, rfl, hb⟩ := hrel
    by_cases hlt : k < n
    · have KX := Lib.hid (show ∀ W, Below w.heap.size w W → ((W.cell? ⟨g, k * 3, none⟩ = some (.int .i64 (cAt L k).1) ∧ W.cell? ⟨g, k * 3 + 1, none⟩ = some (.int .i64 (cAt L k).2.1) ∧ W.cell? ⟨g, k * 3 + 2, none⟩ = some (.int .i64 (cAt L k).2.2)) ∧ W.cell? ⟨g2, k * 3, none⟩ = some (.int .i64 (cAt L k).1) ∧ W.cell? ⟨g2, k * 3 + 1, none⟩ = some (.int .i64 (cAt L k).2.1) ∧ W.cell? ⟨g2, k * 3 + 2, none⟩ = some (.int .i64 (cAt L k).2.2)) from fun W h => by
        have e1 := (HX.out.now h).at hlt
        have e2 := (HY.out.now h).at hlt
        simp only [Nat.zero_add] at e1 e2
        exact ⟨e1, e2⟩)
      generalize (cAt L k).1 = x at *
      generalize (cAt L k).2.1 = y at *
      generalize (cAt L k).2.2 = z at *
      obtain ⟨⟨c0, c1, c2'⟩, d0, d1, d2⟩ := KX.out wr hb
      have hlt' : (k : Int) < n := by omega
      go_wp2_with fail
      go_region_held3 (fun w' => (w'.cell? ⟨g, k * 3, none⟩ = some (.int .i64 x) ∧ w'.cell? ⟨g, k * 3 + 1, none⟩ = some (.int .i64 y) ∧ w'.cell? ⟨g, k * 3 + 2, none⟩ = some (.int .i64 z)) ∧ w'.cell? ⟨g2, k * 3, none⟩ = some (.int .i64 x) ∧ w'.cell? ⟨g2, k * 3 + 1, none⟩ = some (.int .i64 y) ∧ w'.cell? ⟨g2, k * 3 + 2, none⟩ = some (.int .i64 z))
        (first | exact ⟨⟨c0, c1, c2'⟩, d0, d1, d2⟩ | exact hd | go_keep)
        (first
          | (go_at_call 97; refine (eqClue_same x y z _).mono ?_; rintro e w2 ⟨rfl, hb2⟩; have hd := KX.out _ (hb.drew.trans (hb2.mono hb.drew.size))))
      all_goals
        have b2 : Below w.heap.size w w2 := hb.drew.trans (hb2.mono hb.drew.size)
        go_wp2
        go_roundw
        case rel => exact ⟨k + 1, by omega, by go_num, b2⟩
        case measure => simp [intOf]; omega
    · obtain rfl : k = n := by omega
      go_wp2
      go_ret
      exact ⟨rfl, hb⟩

set_option maxHeartbeats 400000 in
theorem eqClueS_zero (A A2 : Option Addr) (c c2 : Nat) (w : World) :
    Calls Try.prog 54 #[.slice A 0 c, .slice A2 0 c2] w fun e w' => e = .returned (.bool true) ∧ Below w.heap.size w w' := by
  go_enter Try.func54, Try.ntmps54
  go_wp2
  refine wp_loop_rounds 1 ?_
  rw [rounds_succ]
  go_wp2
  go_ret
  exact ⟨rfl, Below.refl _ _⟩
theorem eqClueS_v {L : List Clu} {lo hi lo2 hi2 : Nat} {v v2 : Value} (w : World) (hm : L.length ≤ 1048576) (h1 : RCl L lo hi v w) (h2 : RCl L lo2 hi2 v2 w) :
    Calls Try.prog 54 #[v, v2] w fun e w' => e = .returned (.bool true) ∧ Below w.heap.size w w' := by
  obtain ⟨A, cap, rfl, h1⟩ := h1
  obtain ⟨A2, cap2, rfl, h2⟩ := h2
  rcases h1 with hn | ⟨g, rfl, _, _, h1⟩
  · rw [hn]; exact eqClueS_zero A A2 cap cap2 w
  · rcases h2 with hn | ⟨g2, rfl, _, _, h2⟩
    · rw [hn]; exact eqClueS_zero _ A2 cap cap2 w
    · exact eqClueS_in g g2 L.length cap cap2 L w (by omega) h1 h2

set_option maxHeartbeats 400000 in
theorem markClueS_zero (A : Option Addr) (cap : Nat) (kk : Int) (w : World) :
    Calls Try.prog 55 #[.slice A 0 cap, .int .i64 kk] w fun e w' => e = .returned (.int .i64 kk) ∧ w = w' := by
  go_enter Try.func55, Try.ntmps55
  go_wp2
  refine wp_loop_rounds 1 ?_
  rw [rounds_succ]
  go_wp2
  go_ret
  exact ⟨rfl, rfl⟩
set_option maxHeartbeats 400000 in
theorem heldClueS_zero (A : Option Addr) (cap : Nat) (kk : Int) (w : World) :
    Calls Try.prog 56 #[.slice A 0 cap, .int .i64 kk] w fun e w' => e = .returned (.int .i64 kk) ∧ w = w' := by
  go_enter Try.func56, Try.ntmps56
  go_wp2
  refine wp_loop_rounds 1 ?_
  rw [rounds_succ]
  go_wp2
  go_ret
  exact ⟨rfl, rfl⟩

set_option maxHeartbeats 2000000 in
theorem markClueS_in (g n cap : Nat) (kk : Int) (f : Nat → Value) (w : World) (h0 : 0 ≤ kk) (h1 : kk ≤ 1048577) (hn : n ≤ 1048576) (hx : Own w g 130 (3 * n) f) :
    Calls Try.prog 55 #[.slice (some ⟨g, 0, none⟩) n cap, .int .i64 kk] w fun e w' => e = .returned (.int .i64 (kk + (3 * n : Nat))) ∧ w.grownBy w' (some g) ∧ Own w' g 130 (3 * n) (fun j => .int .i64 (kk + j)) := by
  have HX := Lib.hid hx
  have hgl := hx.lt
  clear hx
  go_enter Try.func55, Try.ntmps55
  go_wp2
  go_loopw [1, 5] (fun q i wr => ∃ k : Nat, k ≤ n ∧ i = .int .i64 k ∧ q = .int .i64 (kk + 3 * k) ∧ Own wr g 130 (3 * n) (fun j => if j < k * 3 then .int .i64 (kk + j) else f j) ∧ w.grownBy wr (some g)) (fun _ i _ => n - (intOf i).toNat)
  case atStart => exact ⟨0, Nat.zero_le _, rfl, by simp, HX.out.congr fun i _ => by simp, grown_refl _ _⟩
  case round =>
    obtain ⟨k, hk, rfl, rfl, hown, hg⟩ := hrel
    have HO := Lib.hid hown
    have HG := Lib.hid hg
    have hgs := hg.size
    clear hown hg
    by_cases hlt : k < n
    · have hold0 := HO.out.cell (i := k * 3) (by omega)
      have hold1 := HO.out.cell (i := k * 3 + 1) (by omega)
      have hold2 := HO.out.cell (i := k * 3 + 2) (by omega)
      have hfr0 := HO.out.frozen (k * 3)
      have hfr1 := HO.out.frozen (k * 3 + 1)
      have hfr2 := HO.out.frozen (k * 3 + 2)
      simp only [Nat.lt_irrefl, if_false] at hold0
      rw [if_neg (by omega)] at hold1 hold2
      have HS := Lib.hid (((HO.out.set (k * 3) (.int .i64 (kk + 3 * k))).set (k * 3 + 1) (.int .i64 (kk + 3 * k + 1))).set (k * 3 + 2) (.int .i64 (kk + 3 * k + 1 + 1)))
      have HG2 := Lib.hid (grown_set (grown_set (grown_set HG.out (k * 3) (.int .i64 (kk + 3 * k))) (k * 3 + 1) (.int .i64 (kk + 3 * k + 1))) (k * 3 + 2) (.int .i64 (kk + 3 * k + 1 + 1)))
      go_wp2
      go_roundw
      case rel =>
        refine ⟨k + 1, by omega, by go_num, by go_num, ?_, HG2.out⟩
        refine HS.out.congr fun i hi => ?_
        by_cases e2 : i = k * 3 + 2
        · subst e2; rw [if_pos rfl, if_pos (by omega)]; congr 1; omega
        · rw [if_neg e2]
          by_cases e1 : i = k * 3 + 1
          · subst e1; rw [if_pos rfl, if_pos (by omega)]; congr 1; omega
          · rw [if_neg e1]
            by_cases e0 : i = k * 3
            · subst e0; rw [if_pos rfl, if_pos (by omega)]; congr 1; omega
            · rw [if_neg e0]
              by_cases h : i < k * 3
              · rw [if_pos h, if_pos (by omega)]
              · rw [if_neg h, if_neg (by omega)]
      case measure => simp [intOf]; omega
    · obtain rfl : k = n := by omega
      go_wp2
      go_ret
      exact ⟨by congr 2, HG.out, HO.out.congr fun i hi => by simp [show i < k * 3 by omega]⟩

set_option maxHeartbeats 2000000 in
theorem heldClueS_in (g n cap : Nat) (kk : Int) (w : World) (h0 : 0 ≤ kk) (h1 : kk ≤ 1048577) (hn : n ≤ 1048576) (hx : Own w g 130 (3 * n) (fun j => .int .i64 (kk + j))) :
    Calls Try.prog 56 #[.slice (some ⟨g, 0, none⟩) n cap, .int .i64 kk] w fun e w' => e = .returned (.int .i64 (kk + (3 * n : Nat))) ∧ Below w.heap.size w w' := by
  have HX := Lib.hid hx
  have hgl := hx.lt
  clear hx
  go_enter Try.func56, Try.ntmps56
  go_wp2
  go_loopw [1, 5] (fun q i wr => ∃ k : Nat, k ≤ n ∧ i = .int .i64 k ∧ q = .int .i64 (kk + 3 * k) ∧ Below w.heap.size w wr) (fun _ i _ => n - (intOf i).toNat)
  case atStart => exact ⟨0, Nat.zero_le _, rfl, by simp, Below.refl _ _⟩
  case round =>
    obtain ⟨k, hk, rfl, rfl, hb⟩ := hrel
    by_cases hlt : k < n
    · have hc0 := (HX.out.below hb hgl).cell (i := k * 3) (by omega)
      have hc1 := (HX.out.below hb hgl).cell (i := k * 3 + 1) (by omega)
      have hc2 := (HX.out.below hb hgl).cell (i := k * 3 + 2) (by omega)
      have e0 : kk + ((k * 3 : Nat) : Int) = kk + 3 * k := by omega
      have e1 : kk + ((k * 3 + 1 : Nat) : Int) = kk + 3 * k + 1 := by omega
      have e2 : kk + ((k * 3 + 2 : Nat) : Int) = kk + 3 * k + 1 + 1 := by omega
      rw [e0] at hc0
      rw [e1] at hc1
      rw [e2] at hc2
      clear e0 e1 e2
      go_wp2
      go_roundw
      case rel => exact ⟨k + 1, by omega, by go_num, by go_num, hb⟩
      case measure => simp [intOf]; omega
    · obtain rfl : k = n := by omega
      go_wp2
      go_ret
      exact ⟨by congr 2, hb⟩

theorem markClueS_v {L : List Clu} {lo hi : Nat} {v : Value} (kk : Int) (w : World) (h0 : 0 ≤ kk) (h1 : kk ≤ 1048577) (hn : L.length ≤ 1048576) (h : RCl L lo hi v w) :
    Calls Try.prog 55 #[v, .int .i64 kk] w fun e w' => e = .returned (.int .i64 (kk + (3 * L.length : Nat))) ∧ Turn lo hi w w' ∧ MCl L lo hi kk v w' := by
  obtain ⟨A, cap, rfl, h⟩ := h
  by_cases hz : L.length = 0
  · rw [hz]
    refine (markClueS_zero A cap kk w).mono ?_
    rintro e w' ⟨rfl, rfl⟩
    exact ⟨by simp, Turn.refl _ _ _, A, cap, by rw [hz], Or.inl hz⟩
  · obtain ⟨g, rfl, h2, h3, h⟩ : ∃ g, A = some ⟨g, 0, none⟩ ∧ lo ≤ g ∧ g < hi ∧ Cls w g L.length L := by
      rcases h with h | h
      · exact absurd h hz
      · exact h
    refine (markClueS_in g L.length cap kk _ w h0 h1 hn h).mono ?_
    rintro e w' ⟨rfl, ho, hm⟩
    exact ⟨rfl, Turn.of_grown ho (fun k hk => by injection hk with hk; omega), _, cap, rfl, Or.inr ⟨g, rfl, h2, h3, hm⟩⟩
theorem heldClueS_v {L : List Clu} {lo hi : Nat} {v : Value} (kk : Int) (w : World) (h0 : 0 ≤ kk) (h1 : kk ≤ 1048577) (hn : L.length ≤ 1048576) (h : MCl L lo hi kk v w) :
    Calls Try.prog 56 #[v, .int .i64 kk] w fun e w' => e = .returned (.int .i64 (kk + (3 * L.length : Nat))) ∧ Below w.heap.size w w' := by
  obtain ⟨A, cap, rfl, h⟩ := h
  rcases h with hz | ⟨g, rfl, _, _, h⟩
  · rw [hz]
    refine (heldClueS_zero A cap kk w).mono ?_
    rintro e w' ⟨rfl, rfl⟩
    exact ⟨by simp, Below.refl _ _⟩
  · exact heldClueS_in g L.length cap kk w h0 h1 hn h

theorem run_make_clus (n : Nat) (h : n ≤ 1048576) (w : World) :
    (Instr.makeSlice 26 (.int .i64 (n : Int)) (.int .i64 (n : Int))).run Try.prog w = .ok (.slice (some ⟨w.heap.size, 0, none⟩) n n) (w.alloc (.cells (madeCells #[.int .i64 0, .int .i64 0, .int .i64 0] (n * 3)) 130)) := by
  obtain ⟨i, hi, hzz⟩ := Option.map_eq_some_iff.1 infoClue
  simp only [Prod.mk.injEq] at hzz
  obtain ⟨hz, hs, hb⟩ := hzz
  have hr := run_make (P := Try.prog) w 26 130 i (.agg #[.int .i64 0, .int .i64 0, .int .i64 0]) Try.underlying26 hi hz .i64 .i64 n n (by omega) (Int.le_refl _) (by rw [hb]; omega) (by omega)
  simp only [Int.toNat_natCast, hs] at hr
  exact hr
theorem clus_made (w : World) (n : Nat) : Own (w.alloc (.cells (madeCells #[.int .i64 0, .int .i64 0, .int .i64 0] (n * 3)) 130)) w.heap.size 130 (3 * n) (fun _ => .int .i64 0) := by
  refine ⟨_, heap_alloc_new w _, by rw [size_madeCells]; omega, fun i hi => ?_⟩
  have h2 : i % 3 = 0 ∨ i % 3 = 1 ∨ i % 3 = 2 := by omega
  have h3 : i < n * 3 := by omega
  show _ = some (Value.int .i64 0)
  rcases h2 with h2 | h2 | h2 <;> simp [madeCells, h3, h2]

set_option maxRecDepth 20000 in
set_option maxHeartbeats 4000000 in
theorem toClueS_any (A : Option Addr) (n cap : Nat) (C : List Clu) (w : World) (hn : n ≤ 1048576) (hk : KCl w A n C) :
    Calls Try.prog 51 #[.slice A n cap] w fun e w' => e = .returned (.slice (some ⟨w.heap.size, 0, none⟩) n n) ∧ Cls w' w.heap.size n C ∧ Below w.heap.size w w' := by
  have hmk := run_make_clus n (by omega)
  have HK := Lib.hid hk
  have HMADE := Lib.hid (clus_made w n)
  clear hk
  go_enter Try.func51, Try.ntmps51
  go_wp2
  go_loopw [4] (fun i wr => ∃ k : Nat, k ≤ n ∧ i = .int .i64 k ∧ Own wr w.heap.size 130 (3 * n) (fun j => if j < k * 3 then .int .i64 (clF C j) else .int .i64 0) ∧ Below w.heap.size w wr) (fun i _ => n - (intOf i).toNat)
  case atStart =>
    refine ⟨0, Nat.zero_le _, rfl, ?_, below1 _ _⟩
    refine HMADE.out.congr fun i _ => ?_
    rw [if_neg (by omega)]
  case round =>
    obtain ⟨k, hkn, rfl, hown, hb⟩ := hrel
    have HO := Lib.hid hown
    have hgl := hown.lt
    clear hown
    by_cases hlt : k < n
    · obtain ⟨b, off, rfl, hcl⟩ := (HK.out.now hb).get (by omega)
      obtain ⟨hc0, hc1, hc2⟩ := hcl.at hlt
      have hbl := hcl.lt
      clear hcl
      have H0 := Lib.hid (clF_0 C k)
      have H1 := Lib.hid (clF_1 C k)
      have H2 := Lib.hid (clF_2 C k)
      generalize (cAt C k).1 = x0 at *
      generalize (cAt C k).2.1 = x1 at *
      generalize (cAt C k).2.2 = x2 at *
      have hold0 := HO.out.cell (i := k * 3) (by omega)
      have hold1 := HO.out.cell (i := k * 3 + 1) (by omega)
      have hold2 := HO.out.cell (i := k * 3 + 2) (by omega)
      simp only [Nat.lt_irrefl, if_false] at hold0
      rw [if_neg (by omega)] at hold1 hold2
      have hfr0 := HO.out.frozen (k * 3)
      have hfr1 := HO.out.frozen (k * 3 + 1)
      have hfr2 := HO.out.frozen (k * 3 + 2)
      have K := Lib.hid (show ∀ W, Below wr.heap.size wr W → (W.cell? ⟨w.heap.size, k * 3, none⟩ = some (.int .i64 0) ∧ W.cell? ⟨w.heap.size, k * 3 + 1, none⟩ = some (.int .i64 0) ∧ W.cell? ⟨w.heap.size, k * 3 + 2, none⟩ = some (.int .i64 0) ∧ W.frozen? ⟨w.heap.size, k * 3, none⟩ = false ∧ W.frozen? ⟨w.heap.size, k * 3 + 1, none⟩ = false ∧ W.frozen? ⟨w.heap.size, k * 3 + 2, none⟩ = false) from fun W hW => ⟨(hW.cell (p := ⟨w.heap.size, k * 3, none⟩) hgl).trans hold0, (hW.cell (p := ⟨w.heap.size, k * 3 + 1, none⟩) hgl).trans hold1, (hW.cell (p := ⟨w.heap.size, k * 3 + 2, none⟩) hgl).trans hold2, (hW.frozen (p := ⟨w.heap.size, k * 3, none⟩) hgl).trans hfr0, (hW.frozen (p := ⟨w.heap.size, k * 3 + 1, none⟩) hgl).trans hfr1, (hW.frozen (p := ⟨w.heap.size, k * 3 + 2, none⟩) hgl).trans hfr2⟩)
      clear hold0 hold1 hold2 hfr0 hfr1 hfr2
      go_wp2_with (go_at_call 92; refine (toClue_any x0 x1 x2 _).mono ?_; rintro e w2 ⟨rfl, hb2⟩; obtain ⟨u0, u1, u2, u3, u4, u5⟩ := K.out _ hb2)
      have HO2 := Lib.hid ((((HO.out.below hb2 hgl).set (k * 3) (.int .i64 x0)).set (k * 3 + 1) (.int .i64 x1)).set (k * 3 + 2) (.int .i64 x2))
      have HB2 := Lib.hid ((((bfrom hb hb2).setCell (p := ⟨w.heap.size, k * 3, none⟩) (by simp) (.int .i64 x0)).setCell (p := ⟨w.heap.size, k * 3 + 1, none⟩) (by simp) (.int .i64 x1)).setCell (p := ⟨w.heap.size, k * 3 + 2, none⟩) (by simp) (.int .i64 x2))
      go_roundw
      case rel =>
        refine ⟨k + 1, by omega, by go_num, ?_, HB2.out⟩
        refine HO2.out.congr fun i hi => ?_
        by_cases e2 : i = k * 3 + 2
        · subst e2; rw [if_pos rfl, if_pos (by omega), H2.out]
        · rw [if_neg e2]
          by_cases e1 : i = k * 3 + 1
          · subst e1; rw [if_pos rfl, if_pos (by omega), H1.out]
          · rw [if_neg e1]
            by_cases e0 : i = k * 3
            · subst e0; rw [if_pos rfl, if_pos (by omega), H0.out]
            · rw [if_neg e0]
              by_cases h : i < k * 3
              · rw [if_pos h, if_pos (by omega)]
              · rw [if_neg h, if_neg (by omega)]
      case measure => simp [intOf]; omega
    · obtain rfl : k = n := by omega
      go_wp2
      go_ret
      exact ⟨rfl, HO.out.congr fun i hi => by simp [show i < k * 3 by omega], hb⟩

set_option maxHeartbeats 1000000 in
theorem toPuzzle_any (m : Int) (A : Option Addr) (n cap : Nat) (C : List Clu) (w : World) (hn : n ≤ 1048576) (hk : KCl w A n C) :
    Calls Try.prog 12 #[.agg #[.int .i64 m, .slice A n cap]] w fun e w' => e = .returned (.agg #[.int .i64 m, .slice (some ⟨w.heap.size + 3, 0, none⟩) n n]) ∧ Lies (RCl C (w.heap.size + 3) w'.heap.size (.slice (some ⟨w.heap.size + 3, 0, none⟩) n n)) (w.heap.size + 3) w'.heap.size w' ∧ Below w.heap.size w w' := by
  have HK := Lib.hid hk
  have HL := Lib.hid hk.1
  clear hk
  go_enter Try.func12, Try.ntmps12
  go_wp2_with fail
  refine (toClueS_any A n cap C _ hn (((HK.out.now (below1 _ _)).now (below1 _ _)).now (below1 _ _))).mono ?_
  rintro e w4 ⟨rfl, hI, hb⟩
  simp only [World.size_alloc] at hI
  have HI := Lib.hid hI
  clear hI
  obtain ⟨hc, hf⟩ := bcell hb
  have hz := hb.size
  have hlt := HI.out.lt
  simp only [World.size_alloc] at hc hf hz
  go_wp2
  refine bodyPost_ret (v := .agg #[.int .i64 m, .slice (some ⟨w.heap.size + 3, 0, none⟩) n n]) (by simp [results, Try.results12, go_sem, hc]) rfl ⟨rfl, ?_, ?_⟩
  · exact (RCl.of_own HL.out (Nat.le_refl _) (by simpa using hlt) (Own.far (Own.far (Own.far HI.out (by first | (simp; done) | (simp; omega)) _) (by first | (simp; done) | (simp; omega)) _) (by first | (simp; done) | (simp; omega)) _)).lies (Nat.le_refl _)
  · exact (((bfrom (((below1 w _).alloc (by simp) _).alloc (by simp; omega) _) hb).setCell (by simp; omega) _).setCell (by simp) _).setCell (by simp) _

set_option maxHeartbeats 1000000 in
theorem eqPuzzle_v (m : Int) {L : List Clu} {lo hi lo2 hi2 : Nat} (A A2 : Option Addr) (n c c2 : Nat) (w : World) (hm : L.length ≤ 1048576) (h1 : Lies (RCl L lo hi (.slice A n c)) lo hi w) (h2 : Lies (RCl L lo2 hi2 (.slice A2 n c2)) lo2 hi2 w) :
    Calls Try.prog 14 #[.agg #[.int .i64 m, .slice A n c], .agg #[.int .i64 m, .slice A2 n c2]] w fun e w' => e = .returned (.bool true) ∧ Below w.heap.size w w' := by
  have H1 := Lib.hid h1
  have H2 := Lib.hid h2
  have HM := Lib.hid hm
  clear h1 h2 hm
  go_enter Try.func14, Try.ntmps14
  go_wp2_with fail
  refine (eqClueS_v _ HM.out ((H1.out.alloc _).alloc _).here ((H2.out.alloc _).alloc _).here).mono ?_
  rintro e w1 ⟨rfl, hb⟩
  go_wp2
  go_ret
  exact ⟨rfl, bfrom ((below1 w _).alloc (by simp) _) hb⟩

set_option maxHeartbeats 1000000 in
theorem markPuzzle_v (m : Int) {L : List Clu} {lo hi : Nat} (A : Option Addr) (n c : Nat) (w : World) (hm : L.length ≤ 1048576) (h : Lies (RCl L lo hi (.slice A n c)) lo hi w) :
    Calls Try.prog 15 #[.agg #[.int .i64 m, .slice A n c], .int .i64 1] w fun e w' => e = .returned (.int .i64 (1 + (3 * L.length : Nat))) ∧ Turn lo hi w w' ∧ MCl L lo hi 1 (.slice A n c) w' := by
  have H := Lib.hid h
  have HM := Lib.hid hm
  clear h hm
  obtain ⟨N, hN⟩ : ∃ N, N = 3 * L.length := ⟨_, rfl⟩
  have HN := Lib.hid hN
  rw [← hN]
  clear hN
  go_enter Try.func15, Try.ntmps15
  go_wp2_with fail
  refine (markClueS_v 1 _ (by omega) (by omega) HM.out (H.out.alloc _).here).mono ?_
  rw [← HN.out]
  rintro e w1 ⟨rfl, ht, hk⟩
  have HT := Lib.hid ht
  have HK := Lib.hid hk
  clear ht hk
  go_wp2
  go_ret
  exact ⟨rfl, (Turn.of_below (below1 w _)).trans HT.out, HK.out⟩

set_option maxHeartbeats 1000000 in
theorem heldPuzzle_v (m : Int) {L : List Clu} {lo hi : Nat} (A : Option Addr) (n c : Nat) (w : World) (hm : L.length ≤ 1048576) (h : Lies (MCl L lo hi 1 (.slice A n c)) lo hi w) :
    Calls Try.prog 16 #[.agg #[.int .i64 m, .slice A n c], .int .i64 1] w fun e w' => e = .returned (.int .i64 (1 + (3 * L.length : Nat))) ∧ Below w.heap.size w w' := by
  have H := Lib.hid h
  have HM := Lib.hid hm
  have hN2 : (0 : Int) ≤ 1 + (3 * L.length : Nat) := by omega
  obtain ⟨N, hN⟩ : ∃ N, N = 3 * L.length := ⟨_, rfl⟩
  have hNm : N ≤ 3145728 := by omega
  have HN := Lib.hid hN
  rw [← hN]
  clear h hm hN hN2
  go_enter Try.func16, Try.ntmps16
  go_wp2_with fail
  refine (heldClueS_v 1 _ (by omega) (by omega) HM.out (H.out.alloc _).here).mono ?_
  rw [← HN.out]
  rintro e w1 ⟨rfl, hb⟩
  go_wp2
  go_ret
  exact ⟨rfl, bfrom (below1 w _) hb⟩
end Go.Proofs.Ytnldodnpakpeeaa

namespace Go.Proofs.Ytnldodnpakpeeaa
open Go.RowKit Vo

theorem goodB_parts (q : Int) (ws : List Int) (n : Nat) : goodB q ws n = (inB n 1 9 && allB 0 1000 ws n && inB q 1 (sumK ws n)) := by
  by_cases h1 : (1 : Int) ≤ n ∧ (n : Int) ≤ 9
  · rw [inB_yes h1.1 h1.2]
    by_cases h2 : InK 0 1000 ws n
    · rw [allB_yes h2]
      by_cases h3 : 1 ≤ q ∧ q ≤ sumK ws n
      · rw [inB_yes h3.1 h3.2, goodB_true ⟨by omega, by omega, h2, h3.1, h3.2⟩]; rfl
      · rw [inB_no h3, goodB_false (fun g => h3 ⟨g.q1, g.q2⟩)]; rfl
    · rw [allB_no h2, goodB_false (fun g => h2 g.ok)]; rfl
  · rw [inB_no h1, goodB_false (fun g => h1 (by have := g.lo; have := g.hi; omega))]; rfl

set_option maxHeartbeats 1000000 in
theorem voGood_any (q : Int) (A : Option Addr) (n cap : Nat) (ws : List Int) (w : World) (hm : n ≤ 9223372036854775807) (hk : Known w A n ws) :
    Calls Try.prog 128 #[.agg #[.int .i64 q, .slice A n cap]] w fun e w' => e = .returned (.bool (goodB q ws n)) ∧ Below w.heap.size w w' := by
  have HK := Lib.hid hk
  clear hk
  have hb0 := below1 w (.cells #[.int .i64 q, .slice A n cap] 116)
  have hx := Box.new w (.int .i64 q) (.slice A n cap)
  have HP := Lib.hid (goodB_parts q ws n)
  by_cases h1 : 1 ≤ n ∧ n ≤ 9
  · obtain ⟨b, off, rfl, hsl⟩ := HK.out.get h1.1
    have HI := Lib.hid (inB_yes (x := n) (lo := 1) (hi := 9) (by omega) (by omega))
    have HSL := Lib.hid (hsl.now hb0)
    clear hsl
    obtain ⟨ha, hb⟩ := h1
    by_cases h2 : InK 0 1000 ws n
    · have HA := Lib.hid (allB_yes h2)
      have HOK := Lib.hid h2
      clear h2
      go_enter Try.func128, Try.ntmps128
      go_wp2_with fail
      refine (l1In_any n 1 9 _).mono ?_
      rintro e w1 ⟨rfl, rfl⟩
      rw [HI.out]
      go_wp2_with fail
      refine (l1All_any b off n cap ws 0 1000 _ hm HSL.out).mono ?_
      rintro e w1 ⟨rfl, rfl⟩
      rw [HA.out]
      go_wp2_with fail
      go_region_held3 (fun w' => w'.cell? ⟨w.heap.size, 0, none⟩ = some (.int .i64 q) ∧ w'.cell? ⟨w.heap.size, 1, none⟩ = some (.slice (some ⟨b, off, none⟩) n cap))
        (first | go_keep | exact hx.cells)
        (first
          | (go_at_call 168; refine (voSum_any b off n cap ws _ (by omega) HOK.out (HSL.out.drew)).mono ?_; rintro e w2 ⟨rfl, rfl⟩)
          | (go_at_call 49; refine (l1In_any q 1 (sumK ws n) _).mono ?_; rintro e w2 ⟨rfl, rfl⟩))
      go_wp2
      go_ret
      exact ⟨by rw [HP.out, HI.out, HA.out]; simp, (below1 w _).drew⟩
    · have HA := Lib.hid (allB_no h2)
      clear h2
      go_enter Try.func128, Try.ntmps128
      go_wp2_with fail
      refine (l1In_any n 1 9 _).mono ?_
      rintro e w1 ⟨rfl, rfl⟩
      rw [HI.out]
      go_wp2_with fail
      refine (l1All_any b off n cap ws 0 1000 _ hm HSL.out).mono ?_
      rintro e w1 ⟨rfl, rfl⟩
      rw [HA.out]
      go_wp2
      go_ret
      exact ⟨by rw [HP.out, HI.out, HA.out]; simp, (below1 w _)⟩
  · have HI := Lib.hid (inB_no (x := n) (lo := 1) (hi := 9) (by omega))
    clear h1
    go_enter Try.func128, Try.ntmps128
    go_wp2_with fail
    refine (l1In_any n 1 9 _).mono ?_
    rintro e w1 ⟨rfl, rfl⟩
    rw [HI.out]
    go_wp2
    go_ret
    exact ⟨by rw [HP.out, HI.out]; simp, (below1 w _)⟩

set_option maxHeartbeats 1000000 in
theorem l1Rising_any (n b off m cap : Nat) (xs : List Int) (w : World) (_hn : n < 10) (hm : m ≤ 9223372036854775807) (hsl : Sl w b off m xs) :
    Calls Try.prog 187 #[.slice (some ⟨b, off, none⟩) m cap, .int .i64 0, .int .i64 ((n : Int) - 1)] w fun e w' => e = .returned (.bool (riseB n xs m)) ∧ w = w' := by
  have HSL := Lib.hid hsl
  clear hsl
  have hlt0 := HSL.out.lt
  go_enter Try.func187, Try.ntmps187
  go_wp2
  go_loop [7, 8, 11] (fun _ _ i => ∃ k : Nat, k ≤ m ∧ i = .int .i64 k ∧ RiseK n xs k) (fun _ _ i => m - (intOf i).toNat)
  case atStart => exact ⟨0, Nat.zero_le _, rfl, RiseK.zero⟩
  case round =>
    obtain ⟨k, hk, rfl, hr⟩ := hrel
    have HR := Lib.hid hr
    clear hr
    by_cases hlt : k < m
    · have hcell : w.cell? ⟨b, off + k, none⟩ = some (.int .i64 (xs.getD k 0)) := HSL.out.cell k hlt
      by_cases hi : 0 ≤ xs.getD k 0 ∧ xs.getD k 0 ≤ (n : Int) - 1
      · have HB := Lib.hid (inB_yes hi.1 hi.2)
        by_cases hk0 : k = 0
        · have hk1 : k ≤ 0 := by omega
          have HS := Lib.hid (HR.out.succ hi.1 (by omega) (fun h => by omega))
          clear hi hk0
          generalize xs.getD k 0 = x at *
          go_wp2_with (go_at_call 49; refine (l1In_any x 0 _ _).mono ?_; rintro e w' ⟨rfl, rfl⟩; rw [HB.out])
          go_round
          case rel => exact ⟨k + 1, by omega, by go_num, HS.out⟩
          case measure => simp [intOf]; omega
        · have hcell2 : w.cell? ⟨b, off + (k - 1), none⟩ = some (.int .i64 (xs.getD (k-1) 0)) := HSL.out.cell (k-1) (by omega)
          obtain ⟨j, rfl⟩ : ∃ j, k = j + 1 := ⟨k - 1, by omega⟩
          simp only [Nat.add_sub_cancel] at hcell2
          by_cases hc : xs.getD j 0 < xs.getD (j+1) 0
          · have HS := Lib.hid (HR.out.succ hi.1 (by omega) (fun _ => hc))
            clear hi
            generalize xs.getD (j+1) 0 = x at *
            generalize xs.getD j 0 = y at *
            go_wp2_with (go_at_call 49; refine (l1In_any x 0 _ _).mono ?_; rintro e w' ⟨rfl, rfl⟩; rw [HB.out])
            go_round
            case rel => exact ⟨j + 2, by omega, by go_num, HS.out⟩
            case measure => simp [intOf]; omega
          · have HN := Lib.hid (riseB_no (fun g : RiseK n xs m => hc ((g (j+1) hlt).2.2 (by omega))))
            clear hi
            generalize xs.getD (j+1) 0 = x at *
            generalize xs.getD j 0 = y at *
            go_wp2_with (go_at_call 49; refine (l1In_any x 0 _ _).mono ?_; rintro e w' ⟨rfl, rfl⟩; rw [HB.out])
            go_ret
            exact ⟨by rw [HN.out]; rfl, rfl⟩
      · have HB := Lib.hid (inB_no hi)
        have HN := Lib.hid (riseB_no (fun g : RiseK n xs m => hi (by have := g k hlt; omega)))
        clear hi
        generalize xs.getD k 0 = x at *
        go_wp2_with (go_at_call 49; refine (l1In_any x 0 _ _).mono ?_; rintro e w' ⟨rfl, rfl⟩; rw [HB.out])
        go_ret
        exact ⟨by rw [HN.out]; rfl, rfl⟩
    · obtain rfl : k = m := by omega
      go_wp2
      go_ret
      exact ⟨by rw [riseB_yes HR.out]; rfl, rfl⟩

set_option maxHeartbeats 400000 in
theorem voSet_any (n b off m cap : Nat) (xs : List Int) (w : World) (hn : n < 10) (hm : m ≤ 9223372036854775807) (hsl : Sl w b off m xs) :
    Calls Try.prog 157 #[.int .i64 n, .slice (some ⟨b, off, none⟩) m cap] w fun e w' => e = .returned (.bool (riseB n xs m)) ∧ w = w' := by
  have HSL := Lib.hid hsl
  clear hsl
  go_enter Try.func157, Try.ntmps157
  go_wp2_with fail
  refine (l1Rising_any n b off m cap xs _ hn hm HSL.out).mono ?_
  rintro e w1 ⟨rfl, rfl⟩
  go_wp2
  go_ret
  exact ⟨rfl, rfl⟩

theorem or_pow64 (s k : Nat) (hk : k < 9) (hs : s < 512) : bits BinOp.or IntKind.i64 (s : Int) (wrap64 (2 ^ k)) = ((s ||| 2 ^ k : Nat) : Int) := by
  have h1 : (2:Nat)^k < 2^9 := Nat.pow_lt_pow_right (by omega) (by omega)
  have e : wrap64 (2 ^ k) = ((2 ^ k : Nat) : Int) := by
    rw [show ((2:Int) ^ k) = ((2 ^ k : Nat) : Int) from by simp]
    generalize 2^k = p at *
    exact IntWalk.wrap64_in _ (by omega)
  rw [e]
  generalize 2^k = p at *
  have hx : s ||| p < 2 ^ 9 := Nat.or_lt_two_pow (by omega) (by omega)
  show IntKind.i64.wrap ((BitVec.ofInt 64 (s : Int) ||| BitVec.ofInt 64 (p : Int)).toNat : Int) = _
  rw [BitVec.toNat_or, ofInt_u64 s (by omega), ofInt_u64 p (by omega)]
  exact IntWalk.i64_in _ (by omega)

set_option maxHeartbeats 400000 in
theorem voBits_any (n b off m cap : Nat) (xs : List Int) (w : World) (hn : n < 10) (hm : m ≤ 9223372036854775807) (hr : RiseK n xs m) (hsl : Sl w b off m xs) :
    Calls Try.prog 115 #[.slice (some ⟨b, off, none⟩) m cap] w fun e w' => e = .returned (.int .i64 (ofK xs m : Nat)) ∧ w = w' := by
  have HSL := Lib.hid hsl
  have HR := Lib.hid hr
  clear hsl hr
  have hlt0 := HSL.out.lt
  go_enter Try.func115, Try.ntmps115
  go_wp2
  go_loop [3, 5, 8] (fun t _ i => ∃ k : Nat, k ≤ m ∧ i = .int .i64 k ∧ t = .int .i64 (ofK xs k : Nat)) (fun _ _ i => m - (intOf i).toNat)
  case atStart => exact ⟨0, Nat.zero_le _, rfl, rfl⟩
  case round =>
    obtain ⟨k, hk, rfl, rfl⟩ := hrel
    have hof := ofK_lt (HR.out.mono hk)
    have h512 := pow_lt (n := n) (by omega)
    by_cases hlt : k < m
    · have hcell : w.cell? ⟨b, off + k, none⟩ = some (.int .i64 (xs.getD k 0)) := HSL.out.cell k hlt
      have hi := HR.out k hlt
      have HO := Lib.hid (show ofK xs (k+1) = ofK xs k ||| 2 ^ (xs.getD k 0).toNat from rfl)
      obtain ⟨x, hx⟩ : ∃ x : Nat, xs.getD k 0 = x := ⟨(xs.getD k 0).toNat, by omega⟩
      rw [hx] at hcell HO hi
      clear hx
      rw [Int.toNat_natCast] at HO
      obtain ⟨_, hi2, _⟩ := hi
      generalize ofK xs k = s at *
      have HE := Lib.hid (or_pow64 s x (by omega) (by omega))
      go_wp2
      go_round
      case rel => exact ⟨k + 1, by omega, by go_num, by rw [HE.out, HO.out]⟩
      case measure => simp [intOf]; omega
    · obtain rfl : k = m := by omega
      go_wp2
      go_ret
      exact ⟨rfl, rfl⟩

end Go.Proofs.Ytnldodnpakpeeaa
