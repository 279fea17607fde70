/- Powers of members, and where one is in a list of them: the program's side. -/
import Derived.Test.YtibmaofcnibjnaaNa
import Derived.Test.YtibmaofcnibjnaaN7
import Derived.Deep.RegionHeld3
import Derived.Outline
namespace Go.Proofs.Ytibmaofcnibjnaa
open Go.RowKit Vo

/-- How many swings and pivots a member has. -/
def powF (q : Int) (ws : List Int) (n : Nat) (k : Nat) : Nat × Nat := (cnt (swP (winB q ws n) k) (2^n), pivN (winB q ws n) n k (2^n))
def powV (L : List (Nat × Nat)) : List Value := L.flatMap fun p => [.int .i64 (p.1 : Nat), .int .i64 (p.2 : Nat)]
theorem powV_snoc (L : List (Nat × Nat)) (p : Nat × Nat) : powV (L ++ [p]) = powV L ++ [.int .i64 (p.1 : Nat), .int .i64 (p.2 : Nat)] := by simp [powV]
theorem powV_len (L : List (Nat × Nat)) : (powV L).length = L.length * 2 := by
  induction L with
  | nil => rfl
  | cons p L ih => simp only [powV, List.flatMap_cons, List.length_append, List.length_cons, List.length_nil] at ih ⊢; omega
theorem powV_at (L : List (Nat × Nat)) (i : Nat) (h : i < L.length) : (powV L)[i*2]? = some (.int .i64 ((L.getD i (0, 0)).1 : Nat)) ∧ (powV L)[i*2+1]? = some (.int .i64 ((L.getD i (0, 0)).2 : Nat)) := by
  induction L generalizing i with
  | nil => simp at h
  | cons p L ih =>
    cases i with
    | zero => exact ⟨rfl, rfl⟩
    | succ i =>
      have := ih i (by simpa using h)
      simp only [powV, List.flatMap_cons] at this ⊢
      rw [show (i + 1) * 2 = i * 2 + 2 from by omega]
      exact this
theorem infoPow : (Try.prog.info? 83).map (fun i => (i.zero, i.size, i.bytes)) = some (some (.agg #[.int .i64 0, .int .i64 0]), 2, 16) := by kernel_rfl

theorem isSome_setP {w : World} {p a : Addr} {u : Value} (h : (w.cell? a).isSome = true) : ((w.setCell p u).cell? a).isSome = true := by
  by_cases e : p = a
  · subst e; rw [World.cell?_setCell_same' w p u h]; rfl
  · rw [World.cell?_setCell_other w p a u e]; exact h
theorem owns_headN2 {w : World} {base : Nat} {e : TypeId} {size : Nat} {v : Value} {n : Nat} {xs : List Value} (h : w.ownsRow base e size v n xs) (hn : 0 < n) : ∃ g cap, v = .slice (some ⟨g, 0, none⟩) n cap ∧ base ≤ g ∧ n ≤ cap ∧ cap ≤ maxLen := by
  obtain ⟨h1, h2⟩ := h
  rcases h2 with ⟨_, h2⟩ | ⟨g', cap, cur, hv, hg', hh, h3, h4, r⟩
  · omega
  · exact ⟨g', cap, hv, hg', h3, h4⟩
set_option maxRecDepth 20000 in
set_option maxHeartbeats 4000000 in
theorem powerOf_any (q : Int) (b off n cap : Nat) (ws : List Int) (k : Nat) (w : World) (hn : n < 10) (hk : k < n) (hok : InK 0 1000 ws n) (hsl : Sl w b off n ws) :
    Calls Try.prog 67 #[.agg #[.int .i64 q, .slice (some ⟨b, off, none⟩) n cap], .int .i64 k] w fun e w' => e = .returned (.agg #[.int .i64 ((powF q ws n k).1 : Nat), .int .i64 ((powF q ws n k).2 : Nat)]) ∧ Below w.heap.size w w' := by
  have hb0 : Below w.heap.size w ((w.alloc (.cells #[.int .i64 q, .slice (some ⟨b, off, none⟩) n cap] 24)).alloc (.cells #[.int .i64 0, .int .i64 0] 83)) := (below1 w _).alloc (by simp) _
  have hx := (BoxT.new 24 w (.int .i64 q) (.slice (some ⟨b, off, none⟩) n cap)).alloc (.cells #[.int .i64 0, .int .i64 0] 83)
  have hr := BoxT.new 83 (w.alloc (.cells #[.int .i64 q, .slice (some ⟨b, off, none⟩) n cap] 24)) (.int .i64 0) (.int .i64 0)
  simp only [World.size_alloc] at hr
  obtain ⟨w0, hw0⟩ : ∃ w0, w0 = (w.alloc (.cells #[.int .i64 q, .slice (some ⟨b, off, none⟩) n cap] 24)).alloc (.cells #[.int .i64 0, .int .i64 0] 83) := ⟨_, rfl⟩
  have hsz0 : w.heap.size + 2 ≤ w0.heap.size := by rw [hw0]; simp
  have HS0 := Lib.hid (show Sl w0 b off n ws from by rw [hw0]; exact hsl.now hb0)
  have HG0 := Lib.hid (show Below w.heap.size w w0 from by rw [hw0]; exact hb0)
  have K := Lib.hid (show ∀ W, Below w0.heap.size w0 W → (W.cell? ⟨w.heap.size, 0, none⟩ = some (.int .i64 q) ∧ W.cell? ⟨w.heap.size, 1, none⟩ = some (.slice (some ⟨b, off, none⟩) n cap) ∧ (W.cell? ⟨w.heap.size + 1, 0, none⟩).isSome = true ∧ (W.cell? ⟨w.heap.size + 1, 1, none⟩).isSome = true ∧ W.frozen? ⟨w.heap.size + 1, 0, none⟩ = false ∧ W.frozen? ⟨w.heap.size + 1, 1, none⟩ = false) from fun W hb => by
    rw [hw0] at hb
    have h1 := hx.now hb
    have h2 := hr.now hb
    exact ⟨h1.cells.1, h1.cells.2, by rw [h2.cells.1]; rfl, by rw [h2.cells.2]; rfl, (by unfold BoxT at h2; simp [World.frozen?, h2]), (by unfold BoxT at h2; simp [World.frozen?, h2])⟩)
  have K2 := Lib.hid (show ∀ W, Below w0.heap.size w0 W → W.cell? ⟨w.heap.size + 1, 0, none⟩ = some (.int .i64 0) ∧ W.cell? ⟨w.heap.size + 1, 1, none⟩ = some (.int .i64 0) from fun W hb => by
    rw [hw0] at hb
    exact (hr.now hb).cells)
  have HCS := Lib.hid (fun W (hb : Below w0.heap.size w0 W) => countSwings_any q b off n cap ws k W hn hk hok (HS0.out.now hb))
  have HCP := Lib.hid (fun W (hb : Below w0.heap.size w0 W) => countPivots_any q b off n cap ws k W hn hk hok (HS0.out.now hb))
  obtain ⟨P, hP⟩ : ∃ P : World → Ending → Prop, P = fun w' e => e = .returned (.agg #[.int .i64 ((powF q ws n k).1 : Nat), .int .i64 ((powF q ws n k).2 : Nat)]) ∧ Below w.heap.size w w' := ⟨_, rfl⟩
  suffices h : Calls Try.prog 67 #[.agg #[.int .i64 q, .slice (some ⟨b, off, none⟩) n cap], .int .i64 k] w fun e w' => P w' e by rw [hP] at h; exact h
  have HPP := Lib.hid (show ∀ w' e, e = .returned (.agg #[.int .i64 (cnt (swP (winB q ws n) k) (2^n) : Nat), .int .i64 (pivN (winB q ws n) n k (2^n) : Nat)]) → Below w.heap.size w w' → P w' e from fun w' e h1 h2 => by rw [hP]; exact ⟨h1, h2⟩)
  clear hP
  generalize cnt (swP (winB q ws n) k) (2^n) = N1 at *
  generalize pivN (winB q ws n) n k (2^n) = N2 at *
  clear hx hr hb0 hok hsl
  obtain ⟨c0, c1, c2, c3, c4, c5⟩ := K.out _ (Below.refl _ _)
  go_enter Try.func67, Try.ntmps67
  go_wp2_with fail
  rw [← hw0]
  clear hw0
  go_region_held3 (fun W => W.cell? ⟨w.heap.size, 0, none⟩ = some (.int .i64 q) ∧ W.cell? ⟨w.heap.size, 1, none⟩ = some (.slice (some ⟨b, off, none⟩) n cap) ∧ (W.cell? ⟨w.heap.size + 1, 0, none⟩).isSome = true ∧ (W.cell? ⟨w.heap.size + 1, 1, none⟩).isSome = true ∧ W.frozen? ⟨w.heap.size + 1, 0, none⟩ = false ∧ W.frozen? ⟨w.heap.size + 1, 1, none⟩ = false)
    (first | exact ⟨c0, c1, c2, c3, c4, c5⟩ | exact ⟨s0, s1, s2, s3, s4, s5⟩ | exact ⟨p0, p1, p2, p3, p4, p5⟩ | ((try dsimp only); (repeat' apply And.intro); all_goals (first | exact isSome_setP (isSome_setP s2) | exact isSome_setP (isSome_setP s3) | exact isSome_setP (isSome_setP p2) | exact isSome_setP (isSome_setP p3) | go_keep)) | go_keep)
    (first
      | (go_at_call 94; refine (HCS.out _ (by first | exact bP | exact (Below.refl _ _).drew | exact Below.refl _ _)).mono ?_; rintro e wS ⟨rfl, hbS⟩; have bS : Below w0.heap.size w0 wS := bfrom (by first | exact bP | exact (Below.refl _ w0).drew | exact Below.refl _ w0) hbS; obtain ⟨s0, s1, s2, s3, s4, s5⟩ := K.out _ bS; obtain ⟨z0, z1⟩ := K2.out _ bS)
      | (go_at_call 95; refine (HCP.out _ (by first | exact bS | exact (Below.refl _ _).drew | exact Below.refl _ _)).mono ?_; rintro e wP ⟨rfl, hbP⟩; have bP : Below w0.heap.size w0 wP := bfrom (by first | exact bS | exact (Below.refl _ w0).drew | exact Below.refl _ w0) hbP; obtain ⟨p0, p1, p2, p3, p4, p5⟩ := K.out _ bP; obtain ⟨z0, z1⟩ := K2.out _ bP)
      | fail)
  all_goals
    clear c0 c1 c2 c3 c4 c5
    go_wp2
    refine bodyPost_ret (v := .agg #[.int .i64 (N1 : Nat), .int .i64 (N2 : Nat)]) (by simp [results, Try.results67, go_sem, z0, z1]) rfl (HPP.out _ _ rfl ?_)
    first
    | exact ((HG0.out.trans (bP.mono (by omega))).setCell (by simp) _).setCell (by simp) _
    | exact ((HG0.out.trans (bS.mono (by omega))).setCell (by simp) _).setCell (by simp) _

theorem eq_power (x y a b : Int) (W : World) : (binOp .eql 83 (.agg #[.int .i64 x, .int .i64 y]) (.agg #[.int .i64 a, .int .i64 b])).run Try.prog W = .ok (.bool (decide ((x, y) = (a, b)))) W := by
  have hi : ∀ W, (isAgg 3).run Try.prog W = .ok false W := fun W => by simp [isAgg, run_underlying Try.underlying3]
  have he : ∀ (p q : Int) W, (Op.equalIn 9999 3 (.int .i64 p) (.int .i64 q)).run Try.prog W = .ok (p == q) W := fun p q W => run_equalIn_int W 9998 3 .i64 .i64 p q Try.underlying3
  rw [run_eql_struct, run_equalIn_struct W 9999 83 _ _ (by unfold Program.fieldsOf; rw [Try.underlying83]) (by kernel_rfl)]
  unfold Program.fieldsOf
  rw [Try.underlying83]
  by_cases h1 : x = a <;> by_cases h2 : y = b <;> simp [Op.eqFields, part, hi, he, Result.andThen, h1, h2]

set_option maxRecDepth 20000 in
set_option maxHeartbeats 4000000 in
theorem indexP_any (base N cp : Nat) (B : Option Addr) (L : List (Nat × Nat)) (p : Nat × Nat) (w : World) (hN : N = L.length) (hN9 : N ≤ 9) (ho : w.ownsRow base 83 2 (.slice B N cp) N (powV L)) :
    Calls Try.prog 68 #[.slice B N cp, .agg #[.int .i64 (p.1 : Nat), .int .i64 (p.2 : Nat)]] w fun e w' => ((∃ j : Nat, j < N ∧ e = .returned (.int .i64 j) ∧ L.getD j (0, 0) = p ∧ ∀ t, t < j → L.getD t (0, 0) ≠ p) ∨ (e = .returned (.int .i64 (-1)) ∧ ∀ t, t < N → L.getD t (0, 0) ≠ p)) ∧ Below w.heap.size w w' := by
  have b0 := below1 w (.cells #[.int .i64 (p.1 : Nat), .int .i64 (p.2 : Nat)] 83)
  have hx := BoxT.new 83 w (.int .i64 (p.1 : Nat)) (.int .i64 (p.2 : Nat))
  have HX := Lib.hid hx
  have HO := Lib.hid (owns_now ho b0)
  have HAT := Lib.hid (fun j (hj : j < N) => powV_at L j (by omega))
  have HB0 := Lib.hid b0
  clear ho hN hx b0
  obtain ⟨p1, p2⟩ := p
  go_enter Try.func68, Try.ntmps68
  go_wp2_with fail
  go_loopw [5, 8] (fun _ i wr => ∃ j : Nat, j ≤ N ∧ i = .int .i64 j ∧ (∀ t, t < j → L.getD t (0, 0) ≠ (p1, p2)) ∧ Below (w.alloc (.cells #[.int .i64 (p1 : Nat), .int .i64 (p2 : Nat)] 83)).heap.size (w.alloc (.cells #[.int .i64 (p1 : Nat), .int .i64 (p2 : Nat)] 83)) wr) (fun _ i _ => N - (intOf i).toNat)
  case atStart => exact ⟨0, Nat.zero_le _, rfl, fun _ h => by omega, Below.refl _ _⟩
  case round =>
    obtain ⟨j, hj, rfl, hno, hbr⟩ := hrel
    have HNO := Lib.hid hno
    have HBR := Lib.hid hbr
    clear hno hbr
    by_cases hlt : j < N
    · obtain ⟨c0, c1⟩ := (HX.out.now HBR.out).cells
      have hown := owns_now HO.out HBR.out
      obtain ⟨g, cg, hv, _, _, _⟩ := owns_headN2 hown (by omega)
      obtain ⟨rfl, rfl⟩ : B = some ⟨g, 0, none⟩ ∧ cp = cg := by simpa using hv
      obtain ⟨x0, x1⟩ := HAT.out j hlt
      have hll := hown.1
      have e0 : wr.cell? ⟨g, j * 2, none⟩ = some (.int .i64 ((L.getD j (0, 0)).1 : Nat)) := by rw [hown.cellAt (j*2) (by omega)]; exact x0
      have e1 : wr.cell? ⟨g, j * 2 + 1, none⟩ = some (.int .i64 ((L.getD j (0, 0)).2 : Nat)) := by rw [hown.cellAt (j*2+1) (by omega)]; exact x1
      have HE := Lib.hid (show ∀ z, L.getD j (0, 0) = z → L.getD j (0, 0) = z from fun _ h => h)
      obtain ⟨⟨a1, a2⟩, ha⟩ : ∃ a, a = L.getD j (0, 0) := ⟨_, rfl⟩
      have HAE := Lib.hid ha
      rw [← ha] at e0 e1
      simp only at e0 e1
      have heq := eq_power (p1 : Int) (p2 : Int) (a1 : Int) (a2 : Int)
      clear x0 x1 hown hll hv ha
      by_cases hm : (a1, a2) = (p1, p2)
      · obtain ⟨rfl, rfl⟩ : a1 = p1 ∧ a2 = p2 := by simpa using hm
        have hd : decide (((a1 : Int), (a2 : Int)) = ((a1 : Int), (a2 : Int))) = true := by simp
        rw [hd] at heq
        clear hm hd
        go_wp2_with fail
        go_region_held3 (fun W => W.cell? ⟨w.heap.size, 0, none⟩ = some (.int .i64 (a1 : Nat)) ∧ W.cell? ⟨w.heap.size, 1, none⟩ = some (.int .i64 (a2 : Nat)) ∧ W.cell? ⟨g, j * 2, none⟩ = some (.int .i64 (a1 : Nat)) ∧ W.cell? ⟨g, j * 2 + 1, none⟩ = some (.int .i64 (a2 : Nat)))
          (first | exact ⟨c0, c1, e0, e1⟩ | go_keep)
          (first | fail)
        all_goals
          go_wp2
          go_ret
          exact ⟨Or.inl ⟨j, hlt, rfl, HAE.out.symm, HNO.out⟩, by first | exact bfrom HB0.out HBR.out | exact bfrom HB0.out HBR.out.drew⟩
      · have hd : decide (((p1 : Int), (p2 : Int)) = ((a1 : Int), (a2 : Int))) = false := decide_eq_false (fun e => hm (by
          simp only [Prod.mk.injEq] at e
          simp only [Prod.mk.injEq]
          omega))
        rw [hd] at heq
        have HNE := Lib.hid (show ∀ t, t < j + 1 → L.getD t (0, 0) ≠ (p1, p2) from fun t ht => by
          by_cases e : t = j
          · subst e; rw [← HAE.out]; exact hm
          · exact HNO.out t (by omega))
        clear hm hd
        go_wp2_with fail
        go_region_held3 (fun W => W.cell? ⟨w.heap.size, 0, none⟩ = some (.int .i64 (p1 : Nat)) ∧ W.cell? ⟨w.heap.size, 1, none⟩ = some (.int .i64 (p2 : Nat)) ∧ W.cell? ⟨g, j * 2, none⟩ = some (.int .i64 (a1 : Nat)) ∧ W.cell? ⟨g, j * 2 + 1, none⟩ = some (.int .i64 (a2 : Nat)))
          (first | exact ⟨c0, c1, e0, e1⟩ | go_keep)
          (first | fail)
        all_goals
          go_wp2
          go_roundw
          case rel => exact ⟨j + 1, by omega, by go_num, HNE.out, by first | exact HBR.out | exact HBR.out.drew⟩
          case measure => simp [intOf]; omega
    · obtain rfl : j = N := by omega
      go_wp2
      go_ret
      exact ⟨Or.inr ⟨rfl, HNO.out⟩, bfrom HB0.out HBR.out⟩
end Go.Proofs.Ytibmaofcnibjnaa
