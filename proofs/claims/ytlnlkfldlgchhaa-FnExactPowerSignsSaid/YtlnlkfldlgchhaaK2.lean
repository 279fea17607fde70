/- Answers that are slices of shares in the call's own memory: how they are marked, held and compared. -/
import Derived.Test.YtlnlkfldlgchhaaK1
import Derived.Deep.RegionHeld3
import Derived.Outline
namespace Go.Proofs.Ytlnlkfldlgchhaa
open Go.RowKit Vo

set_option maxHeartbeats 1000000 in
theorem eqShare_same (x y : Int) (w : World) :
    Calls Try.prog 30 #[.agg #[.int .i64 x, .int .i64 y], .agg #[.int .i64 x, .int .i64 y]] w fun e w' => e = .returned (.bool true) ∧ Below w.heap.size w w' := by
  have hb0 : Below w.heap.size w ((w.alloc (.cells #[.int .i64 x, .int .i64 y] 38)).alloc (.cells #[.int .i64 x, .int .i64 y] 38)) := (below1 w _).alloc (by simp) _
  go_enter Try.func30, Try.ntmps30
  go_wp2
  go_ret
  exact ⟨rfl, hb0⟩

/-- The shares' numbers, one behind the other. -/
def shF (L : List (Int × Int)) (i : Nat) : Int := if i % 2 = 0 then (L.getD (i / 2) (0, 0)).1 else (L.getD (i / 2) (0, 0)).2
theorem shF_num (L : List (Int × Int)) (k : Nat) : shF L (k * 2) = (L.getD k (0, 0)).1 := by simp [shF]
theorem shF_den (L : List (Int × Int)) (k : Nat) : shF L (k * 2 + 1) = (L.getD k (0, 0)).2 := by
  have h1 : (k * 2 + 1) % 2 = 1 := by omega
  have h2 : (k * 2 + 1) / 2 = k := by omega
  simp [shF, h1, h2]

/-- A slice of shares whose block, if it has one, is in lo .. hi. -/
def RSh (L : List (Int × Int)) (lo hi : Nat) (v : Value) (w : World) : Prop :=
  ∃ A cap, v = .slice A L.length cap ∧ (L.length = 0 ∨ ∃ g, A = some ⟨g, 0, none⟩ ∧ lo ≤ g ∧ g < hi ∧ Own w g 38 (2 * L.length) (fun i => .int .i64 (shF L i)))
def MSh (L : List (Int × Int)) (lo hi : Nat) (kk : Int) (v : Value) (w : World) : Prop :=
  ∃ A cap, v = .slice A L.length cap ∧ (L.length = 0 ∨ ∃ g, A = some ⟨g, 0, none⟩ ∧ lo ≤ g ∧ g < hi ∧ Own w g 38 (2 * L.length) (fun j => .int .i64 (kk + j)))
theorem RSh.lies {L : List (Int × Int)} {lo hi : Nat} {v : Value} {w : World} (h : RSh L lo hi v w) (hh : hi ≤ w.heap.size) : Lies (RSh L lo hi v) lo hi w := by
  refine ⟨hh, fun w' e => ?_⟩
  obtain ⟨A, cap, hv, h⟩ := h
  refine ⟨A, cap, hv, ?_⟩
  rcases h with h | ⟨g, hA, h1, h2, h⟩
  · exact Or.inl h
  · exact Or.inr ⟨g, hA, h1, h2, Own.of_block h (e g h1 h2)⟩
theorem MSh.lies {L : List (Int × Int)} {lo hi : Nat} {kk : Int} {v : Value} {w : World} (h : MSh L lo hi kk v w) (hh : hi ≤ w.heap.size) : Lies (MSh L lo hi kk v) lo hi w := by
  refine ⟨hh, fun w' e => ?_⟩
  obtain ⟨A, cap, hv, h⟩ := h
  refine ⟨A, cap, hv, ?_⟩
  rcases h with h | ⟨g, hA, h1, h2, h⟩
  · exact Or.inl h
  · exact Or.inr ⟨g, hA, h1, h2, Own.of_block h (e g h1 h2)⟩

set_option maxHeartbeats 2000000 in
theorem eqShareS_in (g g2 n c c2 : Nat) (L : List (Int × Int)) (w : World) (hm : n ≤ 1048576) (hx : Own w g 38 (2 * n) (fun i => .int .i64 (shF L i))) (hy : Own w g2 38 (2 * n) (fun i => .int .i64 (shF L i))) :
    Calls Try.prog 33 #[.slice (some ⟨g, 0, none⟩) n c, .slice (some ⟨g2, 0, none⟩) n c2] w fun e w' => e = .returned (.bool true) ∧ Below w.heap.size w w' := by
  have HX := Lib.hid hx
  have HY := Lib.hid hy
  have hgl := hx.lt
  have hgl2 := hy.lt
  clear hx hy
  go_enter Try.func33, Try.ntmps33
  go_wp2
  go_loopw [5] (fun i wr => ∃ k : Nat, k ≤ n ∧ i = .int .i64 k ∧ Below w.heap.size w wr) (fun i _ => n - (intOf i).toNat)
  case atStart => exact ⟨0, Nat.zero_le _, rfl, Below.refl _ _⟩
  case round =>
    obtain ⟨k, hk, rfl, hb⟩ := hrel
    by_cases hlt : k < n
    · have KX := Lib.hid (show ∀ W, Below w.heap.size w W → (W.cell? ⟨g, k * 2, none⟩ = some (.int .i64 (L.getD k (0, 0)).1) ∧ W.cell? ⟨g, k * 2 + 1, none⟩ = some (.int .i64 (L.getD k (0, 0)).2) ∧ W.cell? ⟨g2, k * 2, none⟩ = some (.int .i64 (L.getD k (0, 0)).1) ∧ W.cell? ⟨g2, k * 2 + 1, none⟩ = some (.int .i64 (L.getD k (0, 0)).2)) from fun W h => by
        have e1 := (HX.out.below h hgl).cell (i := k * 2) (by omega)
        have e2 := (HX.out.below h hgl).cell (i := k * 2 + 1) (by omega)
        have e3 := (HY.out.below h hgl2).cell (i := k * 2) (by omega)
        have e4 := (HY.out.below h hgl2).cell (i := k * 2 + 1) (by omega)
        rw [shF_num] at e1 e3
        rw [shF_den] at e2 e4
        exact ⟨e1, e2, e3, e4⟩)
      generalize (L.getD k (0, 0)).1 = x at *
      generalize (L.getD k (0, 0)).2 = y at *
      obtain ⟨c0, c1, c2', c3⟩ := KX.out wr hb
      have hlt' : (k : Int) < n := by omega
      go_wp2_with fail
      go_region_held3 (fun w' => w'.cell? ⟨g, k * 2, none⟩ = some (.int .i64 x) ∧ w'.cell? ⟨g, k * 2 + 1, none⟩ = some (.int .i64 y) ∧ w'.cell? ⟨g2, k * 2, none⟩ = some (.int .i64 x) ∧ w'.cell? ⟨g2, k * 2 + 1, none⟩ = some (.int .i64 y))
        (first | exact ⟨c0, c1, c2', c3⟩ | exact hd | go_keep)
        (first
          | (go_at_call 30; refine (eqShare_same x y _).mono ?_; rintro e w2 ⟨rfl, hb2⟩; have hd := KX.out _ (hb.drew.trans (hb2.mono hb.drew.size))))
      all_goals
        have b2 : Below w.heap.size w w2 := hb.drew.trans (hb2.mono hb.drew.size)
        go_wp2
        go_roundw
        case rel => exact ⟨k + 1, by omega, by go_num, b2⟩
        case measure => simp [intOf]; omega
    · obtain rfl : k = n := by omega
      go_wp2
      go_ret
      exact ⟨rfl, hb⟩

set_option maxHeartbeats 400000 in
theorem eqShareS_zero (A A2 : Option Addr) (c c2 : Nat) (w : World) :
    Calls Try.prog 33 #[.slice A 0 c, .slice A2 0 c2] w fun e w' => e = .returned (.bool true) ∧ Below w.heap.size w w' := by
  go_enter Try.func33, Try.ntmps33
  go_wp2
  refine wp_loop_rounds 1 ?_
  rw [rounds_succ]
  go_wp2
  go_ret
  exact ⟨rfl, Below.refl _ _⟩
theorem eqShareS_v {L : List (Int × Int)} {lo hi lo2 hi2 : Nat} {v v2 : Value} (w : World) (hm : 2 * L.length ≤ 1048576) (h1 : RSh L lo hi v w) (h2 : RSh L lo2 hi2 v2 w) :
    Calls Try.prog 33 #[v, v2] w fun e w' => e = .returned (.bool true) ∧ Below w.heap.size w w' := by
  obtain ⟨A, cap, rfl, h1⟩ := h1
  obtain ⟨A2, cap2, rfl, h2⟩ := h2
  rcases h1 with hn | ⟨g, rfl, _, _, h1⟩
  · rw [hn]; exact eqShareS_zero A A2 cap cap2 w
  · rcases h2 with hn | ⟨g2, rfl, _, _, h2⟩
    · rw [hn]; exact eqShareS_zero _ A2 cap cap2 w
    · exact eqShareS_in g g2 L.length cap cap2 L w (by omega) h1 h2

set_option maxHeartbeats 400000 in
theorem markShareS_zero (A : Option Addr) (cap : Nat) (kk : Int) (w : World) :
    Calls Try.prog 34 #[.slice A 0 cap, .int .i64 kk] w fun e w' => e = .returned (.int .i64 kk) ∧ w = w' := by
  go_enter Try.func34, Try.ntmps34
  go_wp2
  refine wp_loop_rounds 1 ?_
  rw [rounds_succ]
  go_wp2
  go_ret
  exact ⟨rfl, rfl⟩
set_option maxHeartbeats 400000 in
theorem heldShareS_zero (A : Option Addr) (cap : Nat) (kk : Int) (w : World) :
    Calls Try.prog 35 #[.slice A 0 cap, .int .i64 kk] w fun e w' => e = .returned (.int .i64 kk) ∧ w = w' := by
  go_enter Try.func35, Try.ntmps35
  go_wp2
  refine wp_loop_rounds 1 ?_
  rw [rounds_succ]
  go_wp2
  go_ret
  exact ⟨rfl, rfl⟩

set_option maxHeartbeats 2000000 in
theorem markShareS_in (g n cap : Nat) (kk : Int) (f : Nat → Value) (w : World) (h0 : 0 ≤ kk) (h1 : kk ≤ 1048577) (hn : 2 * n ≤ 1048576) (hx : Own w g 38 (2 * n) f) :
    Calls Try.prog 34 #[.slice (some ⟨g, 0, none⟩) n cap, .int .i64 kk] w fun e w' => e = .returned (.int .i64 (kk + (2 * n : Nat))) ∧ w.grownBy w' (some g) ∧ Own w' g 38 (2 * n) (fun j => .int .i64 (kk + j)) := by
  have HX := Lib.hid hx
  have hgl := hx.lt
  clear hx
  go_enter Try.func34, Try.ntmps34
  go_wp2
  go_loopw [1, 5] (fun q i wr => ∃ k : Nat, k ≤ n ∧ i = .int .i64 k ∧ q = .int .i64 (kk + 2 * k) ∧ Own wr g 38 (2 * n) (fun j => if j < k * 2 then .int .i64 (kk + j) else f j) ∧ w.grownBy wr (some g)) (fun _ i _ => n - (intOf i).toNat)
  case atStart => exact ⟨0, Nat.zero_le _, rfl, by simp, HX.out.congr fun i _ => by simp, grown_refl _ _⟩
  case round =>
    obtain ⟨k, hk, rfl, rfl, hown, hg⟩ := hrel
    have HO := Lib.hid hown
    have HG := Lib.hid hg
    have hgs := hg.size
    clear hown hg
    by_cases hlt : k < n
    · have hold0 := HO.out.cell (i := k * 2) (by omega)
      have hold1 := HO.out.cell (i := k * 2 + 1) (by omega)
      have hfr0 := HO.out.frozen (k * 2)
      have hfr1 := HO.out.frozen (k * 2 + 1)
      simp only [Nat.lt_irrefl, if_false] at hold0
      rw [if_neg (by omega)] at hold1
      have HS := Lib.hid ((HO.out.set (k * 2) (.int .i64 (kk + 2 * k))).set (k * 2 + 1) (.int .i64 (kk + 2 * k + 1)))
      have HG2 := Lib.hid (grown_set (grown_set HG.out (k * 2) (.int .i64 (kk + 2 * k))) (k * 2 + 1) (.int .i64 (kk + 2 * k + 1)))
      go_wp2
      go_roundw
      case rel =>
        refine ⟨k + 1, by omega, by go_num, by go_num, ?_, HG2.out⟩
        refine HS.out.congr fun i hi => ?_
        by_cases e1 : i = k * 2 + 1
        · subst e1; rw [if_pos rfl, if_pos (by omega)]; congr 1; omega
        · rw [if_neg e1]
          by_cases e0 : i = k * 2
          · subst e0; rw [if_pos rfl, if_pos (by omega)]; congr 1; omega
          · rw [if_neg e0]
            by_cases h : i < k * 2
            · rw [if_pos h, if_pos (by omega)]
            · rw [if_neg h, if_neg (by omega)]
      case measure => simp [intOf]; omega
    · obtain rfl : k = n := by omega
      go_wp2
      go_ret
      exact ⟨by congr 2, HG.out, HO.out.congr fun i hi => by simp [show i < k * 2 by omega]⟩

set_option maxHeartbeats 2000000 in
theorem heldShareS_in (g n cap : Nat) (kk : Int) (w : World) (h0 : 0 ≤ kk) (h1 : kk ≤ 1048577) (hn : 2 * n ≤ 1048576) (hx : Own w g 38 (2 * n) (fun j => .int .i64 (kk + j))) :
    Calls Try.prog 35 #[.slice (some ⟨g, 0, none⟩) n cap, .int .i64 kk] w fun e w' => e = .returned (.int .i64 (kk + (2 * n : Nat))) ∧ Below w.heap.size w w' := by
  have HX := Lib.hid hx
  have hgl := hx.lt
  clear hx
  go_enter Try.func35, Try.ntmps35
  go_wp2
  go_loopw [1, 5] (fun q i wr => ∃ k : Nat, k ≤ n ∧ i = .int .i64 k ∧ q = .int .i64 (kk + 2 * k) ∧ Below w.heap.size w wr) (fun _ i _ => n - (intOf i).toNat)
  case atStart => exact ⟨0, Nat.zero_le _, rfl, by simp, Below.refl _ _⟩
  case round =>
    obtain ⟨k, hk, rfl, rfl, hb⟩ := hrel
    by_cases hlt : k < n
    · have hc0 := (HX.out.below hb hgl).cell (i := k * 2) (by omega)
      have hc1 := (HX.out.below hb hgl).cell (i := k * 2 + 1) (by omega)
      have e0 : kk + ((k * 2 : Nat) : Int) = kk + 2 * k := by omega
      have e1 : kk + ((k * 2 + 1 : Nat) : Int) = kk + 2 * k + 1 := by omega
      rw [e0] at hc0
      rw [e1] at hc1
      clear e0 e1
      go_wp2
      go_roundw
      case rel => exact ⟨k + 1, by omega, by go_num, by go_num, hb⟩
      case measure => simp [intOf]; omega
    · obtain rfl : k = n := by omega
      go_wp2
      go_ret
      exact ⟨by congr 2, hb⟩

theorem markShareS_v {L : List (Int × Int)} {lo hi : Nat} {v : Value} (kk : Int) (w : World) (h0 : 0 ≤ kk) (h1 : kk ≤ 1048577) (hn : 2 * L.length ≤ 1048576) (h : RSh L lo hi v w) :
    Calls Try.prog 34 #[v, .int .i64 kk] w fun e w' => e = .returned (.int .i64 (kk + (2 * L.length : Nat))) ∧ Turn lo hi w w' ∧ MSh L lo hi kk v w' := by
  obtain ⟨A, cap, rfl, h⟩ := h
  by_cases hz : L.length = 0
  · rw [hz]
    refine (markShareS_zero A cap kk w).mono ?_
    rintro e w' ⟨rfl, rfl⟩
    exact ⟨by simp, Turn.refl _ _ _, A, cap, by rw [hz], Or.inl hz⟩
  · obtain ⟨g, rfl, h2, h3, h⟩ : ∃ g, A = some ⟨g, 0, none⟩ ∧ lo ≤ g ∧ g < hi ∧ Own w g 38 (2 * L.length) (fun i => .int .i64 (shF L i)) := by
      rcases h with h | h
      · exact absurd h hz
      · exact h
    refine (markShareS_in g L.length cap kk _ w h0 h1 hn h).mono ?_
    rintro e w' ⟨rfl, ho, hm⟩
    exact ⟨rfl, Turn.of_grown ho (fun k hk => by injection hk with hk; omega), _, cap, rfl, Or.inr ⟨g, rfl, h2, h3, hm⟩⟩
theorem heldShareS_v {L : List (Int × Int)} {lo hi : Nat} {v : Value} (kk : Int) (w : World) (h0 : 0 ≤ kk) (h1 : kk ≤ 1048577) (hn : 2 * L.length ≤ 1048576) (h : MSh L lo hi kk v w) :
    Calls Try.prog 35 #[v, .int .i64 kk] w fun e w' => e = .returned (.int .i64 (kk + (2 * L.length : Nat))) ∧ Below w.heap.size w w' := by
  obtain ⟨A, cap, rfl, h⟩ := h
  rcases h with hz | ⟨g, rfl, _, _, h⟩
  · rw [hz]
    refine (heldShareS_zero A cap kk w).mono ?_
    rintro e w' ⟨rfl, rfl⟩
    exact ⟨by simp, Below.refl _ _⟩
  · exact heldShareS_in g L.length cap kk w h0 h1 hn h
end Go.Proofs.Ytlnlkfldlgchhaa
