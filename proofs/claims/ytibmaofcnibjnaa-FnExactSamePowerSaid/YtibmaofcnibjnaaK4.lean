/- Games as answers: how they are marked, held and compared. -/
import Derived.Test.YtibmaofcnibjnaaK1
import Derived.Deep.RegionHeld3
import Derived.Outline
namespace Go.Proofs.Ytibmaofcnibjnaa
open Go.RowKit Vo

/-- The lengths of the first k lists together. -/
def totK (L : List (List Int)) : Nat → Nat
  | 0 => 0
  | k+1 => totK L k + (L.getD k []).length
def tot (L : List (List Int)) : Nat := totK L L.length
theorem totK_le (L : List (List Int)) {k n : Nat} (h : k ≤ n) : totK L k ≤ totK L n := by
  induction n with
  | zero => have : k = 0 := by omega
            rw [this]; exact Nat.le_refl _
  | succ n ih =>
    by_cases e : k = n + 1
    · rw [e]; exact Nat.le_refl _
    · exact Nat.le_trans (ih (by omega)) (by simp only [totK]; omega)

/-- A slice value that reads as these integers; its block, if it matters, is in lo .. hi. -/
abbrev RI (l : List Int) (lo hi : Nat) (v : Value) (w : World) : Prop := RS l lo hi v w

/-- A slice of slices of integers, for whoever reads. -/
def RSS0 (L : List (List Int)) (lo hi : Nat) (v : Value) (w : World) : Prop :=
  ∃ A cap, v = .slice A L.length cap ∧ (L.length = 0 ∨ ∃ g f, A = some ⟨g, 0, none⟩ ∧ lo ≤ g ∧ g < hi ∧ Own w g 22 L.length f ∧ ∀ i, i < L.length → RI (L.getD i []) lo hi (f i) w)
/-- So, each list in a block of its own (G i), apart from the outer one. -/
def RSS (L : List (List Int)) (lo hi : Nat) (v : Value) (w : World) : Prop :=
  ∃ A cap, v = .slice A L.length cap ∧ (L.length = 0 ∨ ∃ g f, A = some ⟨g, 0, none⟩ ∧ lo ≤ g ∧ g < hi ∧ Own w g 22 L.length f ∧ ∃ G : Nat → Nat, ∀ i, i < L.length → RI (L.getD i []) (G i) (G i + 1) (f i) w ∧ ((L.getD i []).length = 0 ∨ (lo ≤ G i ∧ G i < hi ∧ G i ≠ g ∧ ∀ j, j < i → (L.getD j []).length = 0 ∨ G j ≠ G i)))
def MSS (L : List (List Int)) (lo hi : Nat) (kk : Int) (v : Value) (w : World) : Prop :=
  ∃ A cap, v = .slice A L.length cap ∧ (L.length = 0 ∨ ∃ g f, A = some ⟨g, 0, none⟩ ∧ lo ≤ g ∧ g < hi ∧ Own w g 22 L.length f ∧ ∀ i, i < L.length → MS (L.getD i []) lo hi (kk + (totK L i : Nat)) (f i) w)

theorem RS.wide {l : List Int} {lo hi lo2 hi2 : Nat} {v : Value} {w : World} (h : RS l lo hi v w) (hl : l.length = 0 ∨ (lo2 ≤ lo ∧ hi ≤ hi2)) : RS l lo2 hi2 v w := by
  obtain ⟨A, cap, hv, h⟩ := h
  refine ⟨A, cap, hv, ?_⟩
  rcases h with h | ⟨g, hA, h1, h2, h⟩
  · exact Or.inl h
  · rcases hl with hl | hl
    · exact Or.inl hl
    · exact Or.inr ⟨g, hA, by omega, by omega, h⟩
theorem MS.wide {l : List Int} {lo hi lo2 hi2 : Nat} {kk : Int} {v : Value} {w : World} (h : MS l lo hi kk v w) (hl : l.length = 0 ∨ (lo2 ≤ lo ∧ hi ≤ hi2)) : MS l lo2 hi2 kk v w := by
  obtain ⟨A, cap, hv, h⟩ := h
  refine ⟨A, cap, hv, ?_⟩
  rcases h with h | ⟨g, hA, h1, h2, h⟩
  · exact Or.inl h
  · rcases hl with hl | hl
    · exact Or.inl hl
    · exact Or.inr ⟨g, hA, by omega, by omega, h⟩
theorem RS.keep {l : List Int} {lo hi : Nat} {v : Value} {w w' : World} (h : RS l lo hi v w) (e : l.length = 0 ∨ ∀ k, lo ≤ k → k < hi → w'.heap[k]? = w.heap[k]?) : RS l lo hi v w' := by
  obtain ⟨A, cap, hv, h⟩ := h
  refine ⟨A, cap, hv, ?_⟩
  rcases h with h | ⟨g, hA, h1, h2, h⟩
  · exact Or.inl h
  · rcases e with e | e
    · exact Or.inl e
    · exact Or.inr ⟨g, hA, h1, h2, Own.of_block h (e g h1 h2)⟩
theorem MS.keep {l : List Int} {lo hi : Nat} {kk : Int} {v : Value} {w w' : World} (h : MS l lo hi kk v w) (e : l.length = 0 ∨ ∀ k, lo ≤ k → k < hi → w'.heap[k]? = w.heap[k]?) : MS l lo hi kk v w' := by
  obtain ⟨A, cap, hv, h⟩ := h
  refine ⟨A, cap, hv, ?_⟩
  rcases h with h | ⟨g, hA, h1, h2, h⟩
  · exact Or.inl h
  · rcases e with e | e
    · exact Or.inl e
    · exact Or.inr ⟨g, hA, h1, h2, Own.of_block h (e g h1 h2)⟩

theorem RSS.weak {L : List (List Int)} {lo hi : Nat} {v : Value} {w : World} (h : RSS L lo hi v w) : RSS0 L lo hi v w := by
  obtain ⟨A, cap, hv, h⟩ := h
  refine ⟨A, cap, hv, ?_⟩
  rcases h with h | ⟨g, f, hA, h1, h2, ho, G, h⟩
  · exact Or.inl h
  · refine Or.inr ⟨g, f, hA, h1, h2, ho, fun i hi => ?_⟩
    obtain ⟨a, b⟩ := h i hi
    refine a.wide ?_
    rcases b with b | b
    · exact Or.inl b
    · exact Or.inr ⟨b.1, b.2.1⟩
theorem RSS0.lies {L : List (List Int)} {lo hi : Nat} {v : Value} {w : World} (h : RSS0 L lo hi v w) (hh : hi ≤ w.heap.size) : Lies (RSS0 L lo hi v) lo hi w := by
  refine ⟨hh, fun w' e => ?_⟩
  obtain ⟨A, cap, hv, h⟩ := h
  refine ⟨A, cap, hv, ?_⟩
  rcases h with h | ⟨g, f, hA, h1, h2, ho, h⟩
  · exact Or.inl h
  · exact Or.inr ⟨g, f, hA, h1, h2, ho.of_block (e g h1 h2), fun i hi => (h i hi).keep (Or.inr e)⟩
theorem RSS.lies {L : List (List Int)} {lo hi : Nat} {v : Value} {w : World} (h : RSS L lo hi v w) (hh : hi ≤ w.heap.size) : Lies (RSS L lo hi v) lo hi w := by
  refine ⟨hh, fun w' e => ?_⟩
  obtain ⟨A, cap, hv, h⟩ := h
  refine ⟨A, cap, hv, ?_⟩
  rcases h with h | ⟨g, f, hA, h1, h2, ho, G, h⟩
  · exact Or.inl h
  · refine Or.inr ⟨g, f, hA, h1, h2, ho.of_block (e g h1 h2), G, fun i hi => ⟨(h i hi).1.keep ?_, (h i hi).2⟩⟩
    rcases (h i hi).2 with h0 | h0
    · exact Or.inl h0
    · exact Or.inr fun k k1 k2 => e k (by omega) (by omega)
theorem MSS.lies {L : List (List Int)} {lo hi : Nat} {kk : Int} {v : Value} {w : World} (h : MSS L lo hi kk v w) (hh : hi ≤ w.heap.size) : Lies (MSS L lo hi kk v) lo hi w := by
  refine ⟨hh, fun w' e => ?_⟩
  obtain ⟨A, cap, hv, h⟩ := h
  refine ⟨A, cap, hv, ?_⟩
  rcases h with h | ⟨g, f, hA, h1, h2, ho, h⟩
  · exact Or.inl h
  · exact Or.inr ⟨g, f, hA, h1, h2, ho.of_block (e g h1 h2), fun i hi => (h i hi).keep (Or.inr e)⟩

set_option maxHeartbeats 400000 in
theorem eqIntSS_zero (A A2 : Option Addr) (c c2 : Nat) (w : World) :
    Calls Try.prog 35 #[.slice A 0 c, .slice A2 0 c2] w fun e w' => e = .returned (.bool true) ∧ Below w.heap.size w w' := by
  go_enter Try.func35, Try.ntmps35
  go_wp2
  refine wp_loop_rounds 1 ?_
  rw [rounds_succ]
  go_wp2
  go_ret
  exact ⟨rfl, Below.refl _ _⟩

set_option maxHeartbeats 4000000 in
theorem eqIntSS_in (g g2 n c c2 lo hi lo2 hi2 : Nat) (L : List (List Int)) (f f2 : Nat → Value) (w : World) (hn : n = L.length) (hm : tot L + n ≤ 1048576) (hh : hi ≤ w.heap.size) (hh2 : hi2 ≤ w.heap.size) (hx : Own w g 22 n f) (hy : Own w g2 22 n f2)
    (hrx : ∀ i, i < n → RI (L.getD i []) lo hi (f i) w) (hry : ∀ i, i < n → RI (L.getD i []) lo2 hi2 (f2 i) w) :
    Calls Try.prog 35 #[.slice (some ⟨g, 0, none⟩) n c, .slice (some ⟨g2, 0, none⟩) n c2] w fun e w' => e = .returned (.bool true) ∧ Below w.heap.size w w' := by
  have HX := Lib.hid hx
  have HY := Lib.hid hy
  have hgl := hx.lt
  have hgl2 := hy.lt
  have HRX := Lib.hid hrx
  have HRY := Lib.hid hry
  have HLL := Lib.hid (show ∀ i, i < n → (L.getD i []).length ≤ 1048576 from fun i hi => by
    have h1 : totK L (i+1) ≤ totK L n := totK_le L (by omega)
    have h2 : totK L (i+1) = totK L i + (L.getD i []).length := rfl
    have h3 : totK L n = tot L := by rw [hn]; rfl
    omega)
  clear hx hy hrx hry hn
  go_enter Try.func35, Try.ntmps35
  go_wp2
  go_loopw [5] (fun i wr => ∃ k : Nat, k ≤ n ∧ i = .int .i64 k ∧ Below w.heap.size w wr) (fun i _ => n - (intOf i).toNat)
  case atStart => exact ⟨0, Nat.zero_le _, rfl, Below.refl _ _⟩
  case round =>
    obtain ⟨k, hk, rfl, hb⟩ := hrel
    by_cases hlt : k < n
    · have K := Lib.hid (show ∀ W, Below w.heap.size w W → (W.cell? ⟨g, k, none⟩ = some (f k) ∧ W.cell? ⟨g2, k, none⟩ = some (f2 k)) from fun W h => ⟨(HX.out.below h hgl).cell hlt, (HY.out.below h hgl2).cell hlt⟩)
      have hlt' : (k : Int) < n := by omega
      have HEQ := Lib.hid (show ∀ W, Below w.heap.size w W → Calls Try.prog 69 #[f k, f2 k] W fun e w' => e = .returned (.bool true) ∧ Below W.heap.size W w' from fun W h =>
        eqIntS_v W (HLL.out k hlt) ((HRX.out k hlt).keep (Or.inr fun j _ j2 => h.block j (by omega))) ((HRY.out k hlt).keep (Or.inr fun j _ j2 => h.block j (by omega))))
      obtain ⟨ax, cx, hfx⟩ : ∃ a c, f k = .slice a (L.getD k []).length c := by obtain ⟨a, c, h, _⟩ := HRX.out k hlt; exact ⟨a, c, h⟩
      obtain ⟨ay, cy, hfy⟩ : ∃ a c, f2 k = .slice a (L.getD k []).length c := by obtain ⟨a, c, h, _⟩ := HRY.out k hlt; exact ⟨a, c, h⟩
      rw [hfx, hfy] at K HEQ
      clear hfx hfy
      generalize (L.getD k []).length = ln at *
      obtain ⟨c0, c1⟩ := K.out wr hb
      go_wp2_with fail
      go_region_held3 (fun w' => w'.cell? ⟨g, k, none⟩ = some (.slice ax ln cx) ∧ w'.cell? ⟨g2, k, none⟩ = some (.slice ay ln cy))
        (first | exact ⟨c0, c1⟩ | exact hd | go_keep)
        (first
          | (go_at_call 69; refine (HEQ.out _ hb.drew).mono ?_; rintro e w2 ⟨rfl, hb2⟩; have hd := K.out _ (hb.drew.trans (hb2.mono hb.drew.size))))
      all_goals
        have b2 : Below w.heap.size w w2 := hb.drew.trans (hb2.mono hb.drew.size)
        go_wp2
        go_roundw
        case rel => exact ⟨k + 1, by omega, by go_num, b2⟩
        case measure => simp [intOf]; omega
    · obtain rfl : k = n := by omega
      go_wp2
      go_ret
      exact ⟨rfl, hb⟩

theorem eqIntSS_v {L : List (List Int)} {lo hi lo2 hi2 : Nat} {v v2 : Value} (w : World) (hm : tot L + L.length ≤ 1048576) (h1 : Lies (RSS L lo hi v) lo hi w) (h2 : Lies (RSS0 L lo2 hi2 v2) lo2 hi2 w) :
    Calls Try.prog 35 #[v, v2] w fun e w' => e = .returned (.bool true) ∧ Below w.heap.size w w' := by
  have hh := h1.hi_le
  have hh2 := h2.hi_le
  have r1 := RSS.weak (Lies.here h1)
  have r2 := Lies.here h2
  clear h1 h2
  obtain ⟨A, cap, rfl, h1⟩ := r1
  obtain ⟨A2, cap2, rfl, h2⟩ := r2
  rcases h1 with hn | ⟨g, f, rfl, _, _, ho, hr⟩
  · rw [hn]; exact eqIntSS_zero A A2 cap cap2 w
  · rcases h2 with hn | ⟨g2, f2, rfl, _, _, ho2, hr2⟩
    · rw [hn]; exact eqIntSS_zero _ A2 cap cap2 w
    · exact eqIntSS_in g g2 L.length cap cap2 lo hi lo2 hi2 L f f2 w rfl hm hh hh2 ho ho2 hr hr2

set_option maxHeartbeats 400000 in
theorem markIntSS_zero (A : Option Addr) (cap : Nat) (kk : Int) (w : World) :
    Calls Try.prog 38 #[.slice A 0 cap, .int .i64 kk] w fun e w' => e = .returned (.int .i64 kk) ∧ w = w' := by
  go_enter Try.func38, Try.ntmps38
  go_wp2
  refine wp_loop_rounds 1 ?_
  rw [rounds_succ]
  go_wp2
  go_ret
  exact ⟨rfl, rfl⟩
set_option maxHeartbeats 400000 in
theorem heldIntSS_zero (A : Option Addr) (cap : Nat) (kk : Int) (w : World) :
    Calls Try.prog 39 #[.slice A 0 cap, .int .i64 kk] w fun e w' => e = .returned (.int .i64 kk) ∧ w = w' := by
  go_enter Try.func39, Try.ntmps39
  go_wp2
  refine wp_loop_rounds 1 ?_
  rw [rounds_succ]
  go_wp2
  go_ret
  exact ⟨rfl, rfl⟩

theorem tot_parts (L : List (List Int)) {i n : Nat} (hn : n = L.length) (hi : i < n) (hm : tot L + n ≤ 1048576) : totK L i + (L.getD i []).length ≤ 1048576 := by
  have h1 : totK L (i+1) ≤ totK L n := totK_le L (by omega)
  have h2 : totK L (i+1) = totK L i + (L.getD i []).length := rfl
  have h3 : totK L n = tot L := by rw [hn]; rfl
  omega

set_option maxRecDepth 20000 in
set_option maxHeartbeats 4000000 in
theorem markIntSS_in (g n c lo hi : Nat) (L : List (List Int)) (f : Nat → Value) (G : Nat → Nat) (w : World) (hn : n = L.length) (hm : tot L + n ≤ 1048576) (hh : hi ≤ w.heap.size) (hx : Own w g 22 n f)
    (hr : ∀ i, i < n → RI (L.getD i []) (G i) (G i + 1) (f i) w ∧ ((L.getD i []).length = 0 ∨ (lo ≤ G i ∧ G i < hi ∧ G i ≠ g ∧ ∀ j, j < i → (L.getD j []).length = 0 ∨ G j ≠ G i))) :
    Calls Try.prog 38 #[.slice (some ⟨g, 0, none⟩) n c, .int .i64 1] w fun e w' => e = .returned (.int .i64 (1 + (tot L : Nat))) ∧ Turn lo hi w w' ∧ Own w' g 22 n f ∧ ∀ i, i < n → MS (L.getD i []) lo hi (1 + (totK L i : Nat)) (f i) w' := by
  have HX := Lib.hid hx
  have hgl := hx.lt
  have HR := Lib.hid hr
  have HT := Lib.hid (show totK L n = tot L from by rw [hn]; rfl)
  have HP := Lib.hid (fun i (hi : i < n) => tot_parts L hn hi hm)
  clear hx hr hn
  go_enter Try.func38, Try.ntmps38
  go_wp2
  go_loopw [1, 5] (fun q i wr => ∃ k : Nat, k ≤ n ∧ i = .int .i64 k ∧ q = .int .i64 (1 + (totK L k : Nat)) ∧ Own wr g 22 n f ∧ Turn lo hi w wr ∧ (∀ i, i < k → MS (L.getD i []) (G i) (G i + 1) (1 + (totK L i : Nat)) (f i) wr) ∧ (∀ i, k ≤ i → i < n → RI (L.getD i []) (G i) (G i + 1) (f i) wr)) (fun _ i _ => n - (intOf i).toNat)
  case atStart => exact ⟨0, Nat.zero_le _, rfl, by simp [totK], HX.out, Turn.refl _ _ _, fun i h => by omega, fun i _ h => (HR.out i h).1⟩
  case round =>
    obtain ⟨k, hk, rfl, rfl, hown, hturn, hms, hri⟩ := hrel
    have HO := Lib.hid hown
    have HTU := Lib.hid hturn
    have HMS := Lib.hid hms
    have HRI := Lib.hid hri
    have hszr := hturn.size
    clear hown hturn hms hri
    by_cases hlt : k < n
    · have hcell := HO.out.cell hlt
      have hgr := HO.out.lt
      have HS := Lib.hid (show totK L (k+1) = totK L k + (L.getD k []).length from rfl)
      have hpk := HP.out k hlt
      have hrk := HRI.out k (Nat.le_refl _) hlt
      have hgk := (HR.out k hlt).2
      by_cases hz : (L.getD k []).length = 0
      · obtain ⟨a, c2, hfk, _⟩ := hrk
        have HFK := Lib.hid hfk
        rw [hfk, hz] at hcell
        rw [hz] at HS
        have HMK := Lib.hid (show MS (L.getD k []) (G k) (G k + 1) (1 + (totK L k : Nat)) (f k) wr from ⟨a, c2, hfk, Or.inl hz⟩)
        clear hfk hgk hz
        go_wp2_with (go_at_call 70; refine (markIntS_zero a c2 _ _).mono ?_; rintro e w2 ⟨rfl, rfl⟩)
        go_roundw
        case rel =>
          refine ⟨k + 1, by omega, by go_num, by rw [HS.out]; simp, HO.out, HTU.out, fun i hi => ?_, fun i h1 h2 => HRI.out i (by omega) h2⟩
          by_cases e : i = k
          · subst e; exact HMK.out
          · exact HMS.out i (by omega)
        case measure => simp [intOf]; omega
      · have hgk' : lo ≤ G k ∧ G k < hi ∧ G k ≠ g ∧ ∀ j, j < k → (L.getD j []).length = 0 ∨ G j ≠ G k := by
          rcases hgk with h | h
          · exact absurd h hz
          · exact h
        have HGK := Lib.hid hgk'
        have HMARK := Lib.hid (markIntS_v (1 + (totK L k : Nat)) wr (by omega) (by omega) (by omega) hrk)
        obtain ⟨a, c2, hfk, _⟩ := hrk
        have HFK := Lib.hid hfk
        rw [hfk] at hcell HMARK
        have HGO := Lib.hid (show ∀ j, j < n → k < j → (L.getD j []).length = 0 ∨ G j ≠ G k from fun j hj hkj => by
          rcases (HR.out j hj).2 with h | h
          · exact Or.inl h
          · rcases h.2.2.2 k hkj with h0 | h0
            · exact absurd h0 hz
            · exact Or.inr (fun e => h0 e.symm))
        have HGS := Lib.hid (show ∀ j, j < n → (L.getD j []).length = 0 ∨ G j < wr.heap.size from fun j hj => by
          rcases (HR.out j hj).2 with h | h
          · exact Or.inl h
          · exact Or.inr (by omega))
        clear hfk hgk hgk' hz
        go_wp2_with (go_at_call 70; refine HMARK.out.mono ?_; rintro e w2 ⟨rfl, ht2, hm2⟩)
        have HO2 := Lib.hid (HO.out.turn ht2 (by have := HGK.out.2.2.1; omega))
        have HT2 := Lib.hid (show Turn lo hi w w2 from HTU.out.trans ⟨ht2.os, ht2.tape, ht2.output, ht2.size, fun j hj ho => ht2.block j hj (by have := HGK.out; omega)⟩)
        go_roundw
        case rel =>
          refine ⟨k + 1, by omega, by go_num, by rw [HS.out]; first | (congr 1; omega) | (simp; omega), HO2.out, HT2.out, fun i hi => ?_, fun i h1 h2 => ?_⟩
          · by_cases e : i = k
            · subst e; rw [HFK.out]; exact hm2
            · refine (HMS.out i (by omega)).keep ?_
              rcases HGK.out.2.2.2 i (by omega) with h | h
              · exact Or.inl h
              · rcases HGS.out i (by omega) with h0 | h0
                · exact Or.inl h0
                · exact Or.inr fun b b1 b2 => ht2.block b (by omega) (by omega)
          · refine (HRI.out i (by omega) h2).keep ?_
            rcases HGO.out i h2 (by omega) with h | h
            · exact Or.inl h
            · rcases HGS.out i h2 with h0 | h0
              · exact Or.inl h0
              · exact Or.inr fun b b1 b2 => ht2.block b (by omega) (by omega)
        case measure => simp [intOf]; omega
    · obtain rfl : n = k := by omega
      go_wp2
      go_ret
      refine ⟨by rw [HT.out]; rfl, HTU.out, HO.out, fun i hi => (HMS.out i hi).wide ?_⟩
      rcases (HR.out i hi).2 with h | h
      · exact Or.inl h
      · exact Or.inr ⟨h.1, h.2.1⟩

set_option maxHeartbeats 4000000 in
theorem heldIntSS_in (g n c lo hi : Nat) (L : List (List Int)) (f : Nat → Value) (w : World) (hn : n = L.length) (hm : tot L + n ≤ 1048576) (hh : hi ≤ w.heap.size) (hx : Own w g 22 n f)
    (hr : ∀ i, i < n → MS (L.getD i []) lo hi (1 + (totK L i : Nat)) (f i) w) :
    Calls Try.prog 39 #[.slice (some ⟨g, 0, none⟩) n c, .int .i64 1] w fun e w' => e = .returned (.int .i64 (1 + (tot L : Nat))) ∧ Below w.heap.size w w' := by
  have HX := Lib.hid hx
  have hgl := hx.lt
  have HR := Lib.hid hr
  have HT := Lib.hid (show totK L n = tot L from by rw [hn]; rfl)
  have HP := Lib.hid (fun i (hi : i < n) => tot_parts L hn hi hm)
  clear hx hr hn
  go_enter Try.func39, Try.ntmps39
  go_wp2
  go_loopw [1, 5] (fun q i wr => ∃ k : Nat, k ≤ n ∧ i = .int .i64 k ∧ q = .int .i64 (1 + (totK L k : Nat)) ∧ Below w.heap.size w wr) (fun _ i _ => n - (intOf i).toNat)
  case atStart => exact ⟨0, Nat.zero_le _, rfl, by simp [totK], Below.refl _ _⟩
  case round =>
    obtain ⟨k, hk, rfl, rfl, hb⟩ := hrel
    by_cases hlt : k < n
    · have hcell := (HX.out.below hb hgl).cell hlt
      have hgr : g < wr.heap.size := Nat.lt_of_lt_of_le hgl hb.size
      have HS := Lib.hid (show totK L (k+1) = totK L k + (L.getD k []).length from rfl)
      have hpk := HP.out k hlt
      have hrk := (HR.out k hlt).keep (w' := wr) (Or.inr fun j _ j2 => hb.block j (by omega))
      have HHELD := Lib.hid (heldIntS_v (1 + (totK L k : Nat)) wr (by omega) (by omega) (by omega) hrk)
      obtain ⟨a, c2, hfk, _⟩ := hrk
      rw [hfk] at hcell HHELD
      clear hfk
      go_wp2_with (go_at_call 71; refine HHELD.out.mono ?_; rintro e w2 ⟨rfl, hb2⟩)
      go_roundw
      case rel => exact ⟨k + 1, by omega, by go_num, by rw [HS.out]; first | (congr 1; omega) | (simp; omega), hb.trans (hb2.mono hb.size)⟩
      case measure => simp [intOf]; omega
    · obtain rfl : n = k := by omega
      go_wp2
      go_ret
      exact ⟨by rw [HT.out]; rfl, hb⟩

theorem markIntSS_v {L : List (List Int)} {lo hi : Nat} {v : Value} (w : World) (hn : tot L + L.length ≤ 1048576) (h : Lies (RSS L lo hi v) lo hi w) :
    Calls Try.prog 38 #[v, .int .i64 1] w fun e w' => e = .returned (.int .i64 (1 + (tot L : Nat))) ∧ Turn lo hi w w' ∧ MSS L lo hi 1 v w' := by
  have hh := h.hi_le
  have r1 := Lies.here h
  clear h
  obtain ⟨A, cap, rfl, h⟩ := r1
  rcases h with hz | ⟨g, f, rfl, h1, h2, ho, G, h⟩
  · have e0 : tot L = 0 := by unfold tot; rw [hz]; rfl
    rw [hz, e0]
    refine (markIntSS_zero A cap 1 w).mono ?_
    rintro e w' ⟨rfl, rfl⟩
    exact ⟨by simp, Turn.refl _ _ _, A, cap, by rw [hz], Or.inl hz⟩
  · refine (markIntSS_in g L.length cap lo hi L f G w rfl hn hh ho h).mono ?_
    rintro e w' ⟨rfl, ht, ho', hm⟩
    exact ⟨rfl, ht, _, cap, rfl, Or.inr ⟨g, f, rfl, h1, h2, ho', hm⟩⟩
theorem heldIntSS_v {L : List (List Int)} {lo hi : Nat} {v : Value} (w : World) (hn : tot L + L.length ≤ 1048576) (h : Lies (MSS L lo hi 1 v) lo hi w) :
    Calls Try.prog 39 #[v, .int .i64 1] w fun e w' => e = .returned (.int .i64 (1 + (tot L : Nat))) ∧ Below w.heap.size w w' := by
  have hh := h.hi_le
  have r1 := Lies.here h
  clear h
  obtain ⟨A, cap, rfl, h⟩ := r1
  rcases h with hz | ⟨g, f, rfl, h1, h2, ho, h⟩
  · have e0 : tot L = 0 := by unfold tot; rw [hz]; rfl
    rw [hz, e0]
    refine (heldIntSS_zero A cap 1 w).mono ?_
    rintro e w' ⟨rfl, rfl⟩
    exact ⟨by simp, Below.refl _ _⟩
  · exact heldIntSS_in g L.length cap lo hi L f w rfl hn hh ho h
end Go.Proofs.Ytibmaofcnibjnaa

namespace Go.Proofs.Ytibmaofcnibjnaa
open Go.RowKit Vo

/-- A game in memory of the call's own, and a truth. -/
def AnsG (R : List (List Int) → Nat → Nat → Value → World → Prop) (m : Int) (L : List (List Int)) (ok : Bool) (w w' : World) (e : Ending) : Prop :=
  ∃ A cap, e = .returned (.tuple #[.agg #[.int .i64 m, .slice A L.length cap], .bool ok]) ∧ Lies (R L w.heap.size w'.heap.size (.slice A L.length cap)) w.heap.size w'.heap.size w' ∧ Below w.heap.size w w'

theorem Lies.alloc {R : World → Prop} {lo hi : Nat} {w : World} (h : Lies R lo hi w) (o : Obj) : Lies R lo hi (w.alloc o) := h.now (below1 w o)
theorem Lies.rss0 {L : List (List Int)} {lo hi : Nat} {v : Value} {w : World} (h : Lies (RSS L lo hi v) lo hi w) : Lies (RSS0 L lo hi v) lo hi w := h.mono fun _ h => RSS.weak h

theorem RSS.wide {L : List (List Int)} {lo lo' hi hi' : Nat} {v : Value} {w : World} (h : RSS L lo hi v w) (hl : lo' ≤ lo) (hh : hi ≤ hi') : RSS L lo' hi' v w := by
  obtain ⟨A, cap, hv, h⟩ := h
  refine ⟨A, cap, hv, ?_⟩
  rcases h with h | ⟨g, f, hA, h1, h2, ho, G, h⟩
  · exact Or.inl h
  · refine Or.inr ⟨g, f, hA, by omega, by omega, ho, G, fun i hi => ⟨(h i hi).1, ?_⟩⟩
    rcases (h i hi).2 with h0 | ⟨a, b, c⟩
    · exact Or.inl h0
    · exact Or.inr ⟨by omega, by omega, c⟩
theorem Lies.rss_wide {L : List (List Int)} {lo lo' hi hi' : Nat} {v : Value} {w : World} (h : Lies (RSS L lo hi v) lo hi w) (hl : lo' ≤ lo) (hh : hi ≤ hi') (hs : hi' ≤ w.heap.size) : Lies (RSS L lo' hi' v) lo' hi' w :=
  ⟨hs, fun w' e => (h.2 w' fun k a b => e k (by omega) (by omega)).wide hl hh⟩
theorem Lies.far {R : World → Prop} {lo hi : Nat} {w : World} (h : Lies R lo hi w) {p : Addr} (hp : p.block < lo) (u : Value) : Lies R lo hi (w.setCell p u) :=
  h.keep (by simp) fun k a _ => Below.heap_setCell w p u k (by omega)
end Go.Proofs.Ytibmaofcnibjnaa
