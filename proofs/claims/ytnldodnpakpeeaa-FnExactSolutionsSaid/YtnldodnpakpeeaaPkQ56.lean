/- Texts of Kp, Yx, Yy, LL3. -/
import Derived.Test.YtnldodnpakpeeaaPkQ05
import Derived.Outline
import Derived.Test.YtnldodnpakpeeaaPkQ38
import Derived.Deep.RegionHeld3
import Derived.Test.YtnldodnpakpeeaaPkQ44
import Derived.Test.YtnldodnpakpeeaaPkQ47
import Derived.Test.YtnldodnpakpeeaaPkQ01
import Derived.BigQuiet
namespace Go.Proofs.Ytnldodnpakpeeaa
open Go.RowKit Vo

set_option maxRecDepth 20000 in
set_option maxHeartbeats 4000000 in
theorem markIntSS_ink (kk : Int) (hk0 : 0 ≤ kk) (g n c lo hi : Nat) (L : List (List Int)) (f : Nat → Value) (G : Nat → Nat) (w : World) (hn : n = L.length) (hm : tot L + n ≤ 1048576) (hkm : kk + (tot L : Nat) ≤ 1048577) (hh : hi ≤ w.heap.size) (hx : Own w g 35 n f)
    (hr : ∀ i, i < n → RI (L.getD i []) (G i) (G i + 1) (f i) w ∧ ((L.getD i []).length = 0 ∨ (lo ≤ G i ∧ G i < hi ∧ G i ≠ g ∧ ∀ j, j < i → (L.getD j []).length = 0 ∨ G j ≠ G i))) :
    Calls Try.prog 27 #[.slice (some ⟨g, 0, none⟩) n c, .int .i64 kk] w fun e w' => e = .returned (.int .i64 (kk + (tot L : Nat))) ∧ Turn lo hi w w' ∧ Own w' g 35 n f ∧ ∀ i, i < n → MS (L.getD i []) lo hi (kk + (totK L i : Nat)) (f i) w' := by
  have HX := Lib.hid hx
  have hgl := hx.lt
  have HR := Lib.hid hr
  have HT := Lib.hid (show totK L n = tot L from by rw [hn]; rfl)
  have HP := Lib.hid (fun i (hi : i < n) => (⟨tot_parts L hn hi hm, by have h := totK_le L (k := i) (n := n) (by omega); have e : totK L n = tot L := (by rw [hn]; rfl); omega⟩ : totK L i + (L.getD i []).length ≤ 1048576 ∧ kk + (totK L i : Nat) ≤ 1048577))
  clear hx hr hn
  go_enter Try.func27, Try.ntmps27
  go_wp2
  go_loopw [1, 5] (fun q i wr => ∃ k : Nat, k ≤ n ∧ i = .int .i64 k ∧ q = .int .i64 (kk + (totK L k : Nat)) ∧ Own wr g 35 n f ∧ Turn lo hi w wr ∧ (∀ i, i < k → MS (L.getD i []) (G i) (G i + 1) (kk + (totK L i : Nat)) (f i) wr) ∧ (∀ i, k ≤ i → i < n → RI (L.getD i []) (G i) (G i + 1) (f i) wr)) (fun _ i _ => n - (intOf i).toNat)
  case atStart => exact ⟨0, Nat.zero_le _, rfl, by simp [totK], HX.out, Turn.refl _ _ _, fun i h => by omega, fun i _ h => (HR.out i h).1⟩
  case round =>
    obtain ⟨k, hk, rfl, rfl, hown, hturn, hms, hri⟩ := hrel
    have HO := Lib.hid hown
    have HTU := Lib.hid hturn
    have HMS := Lib.hid hms
    have HRI := Lib.hid hri
    have hszr := hturn.size
    clear hown hturn hms hri
    by_cases hlt : k < n
    · have hcell := HO.out.cell hlt
      have hgr := HO.out.lt
      have HS := Lib.hid (show totK L (k+1) = totK L k + (L.getD k []).length from rfl)
      obtain ⟨hpk, hpk2⟩ := HP.out k hlt
      have hrk := HRI.out k (Nat.le_refl _) hlt
      have hgk := (HR.out k hlt).2
      by_cases hz : (L.getD k []).length = 0
      · obtain ⟨a, c2, hfk, _⟩ := hrk
        have HFK := Lib.hid hfk
        rw [hfk, hz] at hcell
        rw [hz] at HS
        have HMK := Lib.hid (show MS (L.getD k []) (G k) (G k + 1) (kk + (totK L k : Nat)) (f k) wr from ⟨a, c2, hfk, Or.inl hz⟩)
        clear hfk hgk hz
        go_wp2_with (go_at_call 20; refine (markIntS_zero a c2 _ _).mono ?_; rintro e w2 ⟨rfl, rfl⟩)
        go_roundw
        case rel =>
          refine ⟨k + 1, by omega, by go_num, by rw [HS.out]; simp, HO.out, HTU.out, fun i hi => ?_, fun i h1 h2 => HRI.out i (by omega) h2⟩
          by_cases e : i = k
          · subst e; exact HMK.out
          · exact HMS.out i (by omega)
        case measure => simp [intOf]; omega
      · have hgk' : lo ≤ G k ∧ G k < hi ∧ G k ≠ g ∧ ∀ j, j < k → (L.getD j []).length = 0 ∨ G j ≠ G k := by
          rcases hgk with h | h
          · exact absurd h hz
          · exact h
        have HGK := Lib.hid hgk'
        have HMARK := Lib.hid (markIntS_v (kk + (totK L k : Nat)) wr (by omega) (by omega) (by omega) hrk)
        obtain ⟨a, c2, hfk, _⟩ := hrk
        have HFK := Lib.hid hfk
        rw [hfk] at hcell HMARK
        have HGO := Lib.hid (show ∀ j, j < n → k < j → (L.getD j []).length = 0 ∨ G j ≠ G k from fun j hj hkj => by
          rcases (HR.out j hj).2 with h | h
          · exact Or.inl h
          · rcases h.2.2.2 k hkj with h0 | h0
            · exact absurd h0 hz
            · exact Or.inr (fun e => h0 e.symm))
        have HGS := Lib.hid (show ∀ j, j < n → (L.getD j []).length = 0 ∨ G j < wr.heap.size from fun j hj => by
          rcases (HR.out j hj).2 with h | h
          · exact Or.inl h
          · exact Or.inr (by omega))
        clear hfk hgk hgk' hz
        go_wp2_with (go_at_call 20; refine HMARK.out.mono ?_; rintro e w2 ⟨rfl, ht2, hm2⟩)
        have HO2 := Lib.hid (HO.out.turn ht2 (by have := HGK.out.2.2.1; omega))
        have HT2 := Lib.hid (show Turn lo hi w w2 from HTU.out.trans ⟨ht2.os, ht2.tape, ht2.output, ht2.size, fun j hj ho => ht2.block j hj (by have := HGK.out; omega)⟩)
        go_roundw
        case rel =>
          refine ⟨k + 1, by omega, by go_num, by rw [HS.out]; first | (congr 1; omega) | (simp; omega), HO2.out, HT2.out, fun i hi => ?_, fun i h1 h2 => ?_⟩
          · by_cases e : i = k
            · subst e; rw [HFK.out]; exact hm2
            · refine (HMS.out i (by omega)).keep ?_
              rcases HGK.out.2.2.2 i (by omega) with h | h
              · exact Or.inl h
              · rcases HGS.out i (by omega) with h0 | h0
                · exact Or.inl h0
                · exact Or.inr fun b b1 b2 => ht2.block b (by omega) (by omega)
          · refine (HRI.out i (by omega) h2).keep ?_
            rcases HGO.out i h2 (by omega) with h | h
            · exact Or.inl h
            · rcases HGS.out i h2 with h0 | h0
              · exact Or.inl h0
              · exact Or.inr fun b b1 b2 => ht2.block b (by omega) (by omega)
        case measure => simp [intOf]; omega
    · obtain rfl : n = k := by omega
      go_wp2
      go_ret
      refine ⟨by rw [HT.out]; rfl, HTU.out, HO.out, fun i hi => (HMS.out i hi).wide ?_⟩
      rcases (HR.out i hi).2 with h | h
      · exact Or.inl h
      · exact Or.inr ⟨h.1, h.2.1⟩

set_option maxHeartbeats 4000000 in
theorem heldIntSS_ink (kk : Int) (hk0 : 0 ≤ kk) (g n c lo hi : Nat) (L : List (List Int)) (f : Nat → Value) (w : World) (hn : n = L.length) (hm : tot L + n ≤ 1048576) (hkm : kk + (tot L : Nat) ≤ 1048577) (hh : hi ≤ w.heap.size) (hx : Own w g 35 n f)
    (hr : ∀ i, i < n → MS (L.getD i []) lo hi (kk + (totK L i : Nat)) (f i) w) :
    Calls Try.prog 28 #[.slice (some ⟨g, 0, none⟩) n c, .int .i64 kk] w fun e w' => e = .returned (.int .i64 (kk + (tot L : Nat))) ∧ Below w.heap.size w w' := by
  have HX := Lib.hid hx
  have hgl := hx.lt
  have HR := Lib.hid hr
  have HT := Lib.hid (show totK L n = tot L from by rw [hn]; rfl)
  have HP := Lib.hid (fun i (hi : i < n) => (⟨tot_parts L hn hi hm, by have h := totK_le L (k := i) (n := n) (by omega); have e : totK L n = tot L := (by rw [hn]; rfl); omega⟩ : totK L i + (L.getD i []).length ≤ 1048576 ∧ kk + (totK L i : Nat) ≤ 1048577))
  clear hx hr hn
  go_enter Try.func28, Try.ntmps28
  go_wp2
  go_loopw [1, 5] (fun q i wr => ∃ k : Nat, k ≤ n ∧ i = .int .i64 k ∧ q = .int .i64 (kk + (totK L k : Nat)) ∧ Below w.heap.size w wr) (fun _ i _ => n - (intOf i).toNat)
  case atStart => exact ⟨0, Nat.zero_le _, rfl, by simp [totK], Below.refl _ _⟩
  case round =>
    obtain ⟨k, hk, rfl, rfl, hb⟩ := hrel
    by_cases hlt : k < n
    · have hcell := (HX.out.below hb hgl).cell hlt
      have hgr : g < wr.heap.size := Nat.lt_of_lt_of_le hgl hb.size
      have HS := Lib.hid (show totK L (k+1) = totK L k + (L.getD k []).length from rfl)
      obtain ⟨hpk, hpk2⟩ := HP.out k hlt
      have hrk := (HR.out k hlt).keep (w' := wr) (Or.inr fun j _ j2 => hb.block j (by omega))
      have HHELD := Lib.hid (heldIntS_v (kk + (totK L k : Nat)) wr (by omega) (by omega) (by omega) hrk)
      obtain ⟨a, c2, hfk, _⟩ := hrk
      rw [hfk] at hcell HHELD
      clear hfk
      go_wp2_with (go_at_call 21; refine HHELD.out.mono ?_; rintro e w2 ⟨rfl, hb2⟩)
      go_roundw
      case rel => exact ⟨k + 1, by omega, by go_num, by rw [HS.out]; first | (congr 1; omega) | (simp; omega), hb.trans (hb2.mono hb.size)⟩
      case measure => simp [intOf]; omega
    · obtain rfl : n = k := by omega
      go_wp2
      go_ret
      exact ⟨by rw [HT.out]; rfl, hb⟩

theorem markIntSS_vk (kk : Int) (hk0 : 0 ≤ kk) {L : List (List Int)} {lo hi : Nat} {v : Value} (w : World) (hn : tot L + L.length ≤ 1048576) (hkm : kk + (tot L : Nat) ≤ 1048577) (h : Lies (RSS L lo hi v) lo hi w) :
    Calls Try.prog 27 #[v, .int .i64 kk] w fun e w' => e = .returned (.int .i64 (kk + (tot L : Nat))) ∧ Turn lo hi w w' ∧ MSS L lo hi kk v w' := by
  have hh := h.hi_le
  have r1 := Lies.here h
  clear h
  obtain ⟨A, cap, rfl, h⟩ := r1
  rcases h with hz | ⟨g, f, rfl, h1, h2, ho, G, h⟩
  · have e0 : tot L = 0 := by unfold tot; rw [hz]; rfl
    rw [hz, e0]
    refine (markIntSS_zero A cap kk w).mono ?_
    rintro e w' ⟨rfl, rfl⟩
    exact ⟨by simp, Turn.refl _ _ _, A, cap, by rw [hz], Or.inl hz⟩
  · refine (markIntSS_ink kk hk0 g L.length cap lo hi L f G w rfl hn hkm hh ho h).mono ?_
    rintro e w' ⟨rfl, ht, ho', hm⟩
    exact ⟨rfl, ht, _, cap, rfl, Or.inr ⟨g, f, rfl, h1, h2, ho', hm⟩⟩
theorem heldIntSS_vk (kk : Int) (hk0 : 0 ≤ kk) {L : List (List Int)} {lo hi : Nat} {v : Value} (w : World) (hn : tot L + L.length ≤ 1048576) (hkm : kk + (tot L : Nat) ≤ 1048577) (h : Lies (MSS L lo hi kk v) lo hi w) :
    Calls Try.prog 28 #[v, .int .i64 kk] w fun e w' => e = .returned (.int .i64 (kk + (tot L : Nat))) ∧ Below w.heap.size w w' := by
  have hh := h.hi_le
  have r1 := Lies.here h
  clear h
  obtain ⟨A, cap, rfl, h⟩ := r1
  rcases h with hz | ⟨g, f, rfl, h1, h2, ho, h⟩
  · have e0 : tot L = 0 := by unfold tot; rw [hz]; rfl
    rw [hz, e0]
    refine (heldIntSS_zero A cap kk w).mono ?_
    rintro e w' ⟨rfl, rfl⟩
    exact ⟨by simp, Below.refl _ _⟩
  · exact heldIntSS_ink kk hk0 g L.length cap lo hi L f w rfl hn hkm hh ho h
end Go.Proofs.Ytnldodnpakpeeaa

namespace Go.Proofs.Ytnldodnpakpeeaa
open Go.RowKit Vo

/-- How many numbers the first k games hold, their members counted. -/
def totG (K : List (List (List Int))) : Nat → Nat
  | 0 => 0
  | k+1 => totG K k + (1 + tot (K.getD k []))
def gszK (K : List (List (List Int))) : Nat → Nat
  | 0 => 0
  | k+1 => gszK K k + (2 + tot (K.getD k []) + (K.getD k []).length)
/-- How much a list of games is, at most. -/
def gsz (K : List (List (List Int))) : Nat := gszK K K.length
theorem gszK_le (K : List (List (List Int))) {k n : Nat} (h : k ≤ n) : gszK K k ≤ gszK K n := by
  induction n with
  | zero => have : k = 0 := by omega
            rw [this]; exact Nat.le_refl _
  | succ n ih =>
    by_cases e : k = n + 1
    · rw [e]; exact Nat.le_refl _
    · exact Nat.le_trans (ih (by omega)) (by simp only [gszK]; omega)
theorem totG_gsz (K : List (List (List Int))) : ∀ k, totG K k + k ≤ gszK K k
  | 0 => Nat.le_refl _
  | k+1 => by simp only [totG, gszK]; have := totG_gsz K k; omega
theorem gsz_at {K : List (List (List Int))} {i : Nat} (hi : i < K.length) (hm : gsz K ≤ 1048576) : totG K i + 1 + tot (K.getD i []) ≤ 1048576 ∧ tot (K.getD i []) + (K.getD i []).length ≤ 1048576 := by
  have h1 := gszK_le K (show i + 1 ≤ K.length from hi)
  have h2 := totG_gsz K i
  unfold gsz at hm
  simp only [gszK] at h1
  omega
theorem gsz_len {K : List (List (List Int))} (hm : gsz K ≤ 1048576) : totG K K.length + K.length ≤ 1048576 := Nat.le_trans (totG_gsz K K.length) hm
def gfV (M : Nat → Int) (F : Nat → Value) (i : Nat) : Value := if i % 2 = 0 then .int .i64 (M (i / 2)) else F (i / 2)
theorem gfV_0 (M : Nat → Int) (F : Nat → Value) (i : Nat) : gfV M F (i * 2) = .int .i64 (M i) := by simp [gfV]
theorem gfV_1 (M : Nat → Int) (F : Nat → Value) (i : Nat) : gfV M F (i * 2 + 1) = F i := by
  unfold gfV
  rw [if_neg (by omega), show (i * 2 + 1) / 2 = i from by omega]

/-- A list of games, for whoever reads. -/
def RGS0 (m : Int) (K : List (List (List Int))) (lo hi : Nat) (v : Value) (w : World) : Prop :=
  ∃ A cap, v = .slice A K.length cap ∧ (K.length = 0 ∨ ∃ g F, A = some ⟨g, 0, none⟩ ∧ lo ≤ g ∧ g < hi ∧ Own w g 55 (K.length * 2) (gfV (fun _ => m) F) ∧ ∀ i, i < K.length → RSS0 (K.getD i []) lo hi (F i) w)
/-- So, each game in blocks of its own. -/
def RGS (m : Int) (K : List (List (List Int))) (lo hi : Nat) (v : Value) (w : World) : Prop :=
  ∃ A cap, v = .slice A K.length cap ∧ (K.length = 0 ∨ ∃ g F, A = some ⟨g, 0, none⟩ ∧ lo ≤ g ∧ g < hi ∧ Own w g 55 (K.length * 2) (gfV (fun _ => m) F) ∧ ∃ LO HI : Nat → Nat, ∀ i, i < K.length → lo ≤ LO i ∧ HI i ≤ hi ∧ (g < LO i ∨ HI i ≤ g) ∧ (∀ j, j < i → HI j ≤ LO i) ∧ RSS (K.getD i []) (LO i) (HI i) (F i) w)
def MGS (K : List (List (List Int))) (lo hi : Nat) (kk : Int) (v : Value) (w : World) : Prop :=
  ∃ A cap, v = .slice A K.length cap ∧ (K.length = 0 ∨ ∃ g F, A = some ⟨g, 0, none⟩ ∧ lo ≤ g ∧ g < hi ∧ Own w g 55 (K.length * 2) (gfV (fun i => kk + (totG K i : Nat)) F) ∧ ∃ LO HI : Nat → Nat, ∀ i, i < K.length → lo ≤ LO i ∧ HI i ≤ hi ∧ MSS (K.getD i []) (LO i) (HI i) (kk + (totG K i : Nat) + 1) (F i) w)

theorem RGS0.lies {m : Int} {K : List (List (List Int))} {lo hi : Nat} {v : Value} {w : World} (h : RGS0 m K lo hi v w) (hh : hi ≤ w.heap.size) : Lies (RGS0 m K lo hi v) lo hi w := by
  refine ⟨hh, fun w' e => ?_⟩
  obtain ⟨A, cap, hv, h⟩ := h
  refine ⟨A, cap, hv, ?_⟩
  rcases h with h | ⟨g, F, hA, h1, h2, ho, h⟩
  · exact Or.inl h
  · exact Or.inr ⟨g, F, hA, h1, h2, ho.of_block (e g h1 h2), fun i hi => (RSS0.lies (h i hi) hh).2 w' e⟩
theorem RGS.lies {m : Int} {K : List (List (List Int))} {lo hi : Nat} {v : Value} {w : World} (h : RGS m K lo hi v w) (hh : hi ≤ w.heap.size) : Lies (RGS m K lo hi v) lo hi w := by
  refine ⟨hh, fun w' e => ?_⟩
  obtain ⟨A, cap, hv, h⟩ := h
  refine ⟨A, cap, hv, ?_⟩
  rcases h with h | ⟨g, F, hA, h1, h2, ho, LO, HI, h⟩
  · exact Or.inl h
  · refine Or.inr ⟨g, F, hA, h1, h2, ho.of_block (e g h1 h2), LO, HI, fun i hi => ?_⟩
    obtain ⟨a, b, c, d, r⟩ := h i hi
    exact ⟨a, b, c, d, (RSS.lies r (by omega)).2 w' (fun k k1 k2 => e k (by omega) (by omega))⟩
theorem MGS.lies {K : List (List (List Int))} {lo hi : Nat} {kk : Int} {v : Value} {w : World} (h : MGS K lo hi kk v w) (hh : hi ≤ w.heap.size) : Lies (MGS K lo hi kk v) lo hi w := by
  refine ⟨hh, fun w' e => ?_⟩
  obtain ⟨A, cap, hv, h⟩ := h
  refine ⟨A, cap, hv, ?_⟩
  rcases h with h | ⟨g, F, hA, h1, h2, ho, LO, HI, h⟩
  · exact Or.inl h
  · refine Or.inr ⟨g, F, hA, h1, h2, ho.of_block (e g h1 h2), LO, HI, fun i hi => ?_⟩
    obtain ⟨a, b, r⟩ := h i hi
    exact ⟨a, b, (MSS.lies r (by omega)).2 w' (fun k k1 k2 => e k (by omega) (by omega))⟩
theorem RSS.slice {L : List (List Int)} {lo hi : Nat} {v : Value} {w : World} (h : RSS L lo hi v w) : ∃ A c, v = .slice A L.length c := by
  obtain ⟨A, c, hv, _⟩ := h; exact ⟨A, c, hv⟩
theorem RSS0.slice {L : List (List Int)} {lo hi : Nat} {v : Value} {w : World} (h : RSS0 L lo hi v w) : ∃ A c, v = .slice A L.length c := by
  obtain ⟨A, c, hv, _⟩ := h; exact ⟨A, c, hv⟩
theorem MSS.slice {L : List (List Int)} {lo hi : Nat} {kk : Int} {v : Value} {w : World} (h : MSS L lo hi kk v w) : ∃ A c, v = .slice A L.length c := by
  obtain ⟨A, c, hv, _⟩ := h; exact ⟨A, c, hv⟩

set_option maxHeartbeats 400000 in
theorem eqGameS_zero (A A2 : Option Addr) (c c2 : Nat) (w : World) :
    Calls Try.prog 31 #[.slice A 0 c, .slice A2 0 c2] w fun e w' => e = .returned (.bool true) ∧ Below w.heap.size w w' := by
  go_enter Try.func31, Try.ntmps31
  go_wp2
  refine wp_loop_rounds 1 ?_
  rw [rounds_succ]
  go_wp2
  go_ret
  exact ⟨rfl, Below.refl _ _⟩
set_option maxHeartbeats 400000 in
theorem markGameS_zero (A : Option Addr) (cap : Nat) (kk : Int) (w : World) :
    Calls Try.prog 32 #[.slice A 0 cap, .int .i64 kk] w fun e w' => e = .returned (.int .i64 kk) ∧ w = w' := by
  go_enter Try.func32, Try.ntmps32
  go_wp2
  refine wp_loop_rounds 1 ?_
  rw [rounds_succ]
  go_wp2
  go_ret
  exact ⟨rfl, rfl⟩
set_option maxHeartbeats 400000 in
theorem heldGameS_zero (A : Option Addr) (cap : Nat) (kk : Int) (w : World) :
    Calls Try.prog 33 #[.slice A 0 cap, .int .i64 kk] w fun e w' => e = .returned (.int .i64 kk) ∧ w = w' := by
  go_enter Try.func33, Try.ntmps33
  go_wp2
  refine wp_loop_rounds 1 ?_
  rw [rounds_succ]
  go_wp2
  go_ret
  exact ⟨rfl, rfl⟩

set_option maxRecDepth 20000 in
set_option maxHeartbeats 4000000 in
theorem eqGameS_in (m : Int) (g g2 n c c2 lo2 hi2 : Nat) (LO HI : Nat → Nat) (K : List (List (List Int))) (F F2 : Nat → Value) (w : World) (hn : n = K.length) (hm : gsz K ≤ 1048576) (hh2 : hi2 ≤ w.heap.size) (hx : Own w g 55 (n * 2) (gfV (fun _ => m) F)) (hy : Own w g2 55 (n * 2) (gfV (fun _ => m) F2))
    (hrx : ∀ i, i < n → HI i ≤ w.heap.size ∧ RSS (K.getD i []) (LO i) (HI i) (F i) w) (hry : ∀ i, i < n → RSS0 (K.getD i []) lo2 hi2 (F2 i) w) :
    Calls Try.prog 31 #[.slice (some ⟨g, 0, none⟩) n c, .slice (some ⟨g2, 0, none⟩) n c2] w fun e w' => e = .returned (.bool true) ∧ Below w.heap.size w w' := by
  have HX := Lib.hid hx
  have HY := Lib.hid hy
  have hgl := hx.lt
  have hgl2 := hy.lt
  have HRX := Lib.hid hrx
  have HRY := Lib.hid hry
  have HBD := Lib.hid (fun i (hi : i < n) => gsz_at (K := K) (by rw [← hn]; exact hi) hm)
  have hnm : n ≤ 1048576 := by have := gsz_len hm; omega
  clear hx hy hrx hry hn hm
  go_enter Try.func31, Try.ntmps31
  go_wp2
  go_loopw [5] (fun i wr => ∃ k : Nat, k ≤ n ∧ i = .int .i64 k ∧ Below w.heap.size w wr) (fun i _ => n - (intOf i).toNat)
  case atStart => exact ⟨0, Nat.zero_le _, rfl, Below.refl _ _⟩
  case round =>
    obtain ⟨k, hk, rfl, hb⟩ := hrel
    by_cases hlt : k < n
    · obtain ⟨hhi, hrk⟩ := HRX.out k hlt
      have hrk2 := HRY.out k hlt
      obtain ⟨ax, cx, hfx⟩ := hrk.slice
      obtain ⟨ay, cy, hfy⟩ := hrk2.slice
      have HL1 := Lib.hid (RSS.lies hrk hhi)
      have HL2 := Lib.hid (RSS0.lies hrk2 hh2)
      have HBK := Lib.hid (HBD.out k hlt).2
      have KX := Lib.hid (show ∀ W, Below w.heap.size w W → (W.cell? ⟨g, k * 2, none⟩ = some (.int .i64 m) ∧ W.cell? ⟨g, k * 2 + 1, none⟩ = some (F k) ∧ W.cell? ⟨g2, k * 2, none⟩ = some (.int .i64 m) ∧ W.cell? ⟨g2, k * 2 + 1, none⟩ = some (F2 k)) from fun W h => by
        have a := HX.out.below h hgl
        have b := HY.out.below h hgl2
        refine ⟨?_, ?_, ?_, ?_⟩
        · rw [a.cell (by omega), gfV_0]
        · rw [a.cell (by omega), gfV_1]
        · rw [b.cell (by omega), gfV_0]
        · rw [b.cell (by omega), gfV_1])
      rw [hfx] at HL1
      rw [hfy] at HL2
      rw [hfx, hfy] at KX
      have HEQ := Lib.hid (show ∀ W, Below w.heap.size w W → Calls Try.prog 38 #[.agg #[.int .i64 m, .slice ax (K.getD k []).length cx], .agg #[.int .i64 m, .slice ay (K.getD k []).length cy]] W fun e w' => e = .returned (.bool true) ∧ Below W.heap.size W w' from fun W h => eqGame_v m ax ay _ cx cy W HBK.out (HL1.out.now h) (HL2.out.now h))
      clear hfx hfy hrk hrk2
      generalize (K.getD k []).length = ln at *
      obtain ⟨c0, c1, c3, c4⟩ := KX.out wr hb
      have hk1 : (k : Int) < (n : Int) := by omega
      go_wp2_with fail
      go_region_held3 (fun w' => w'.cell? ⟨g, k * 2, none⟩ = some (.int .i64 m) ∧ w'.cell? ⟨g, k * 2 + 1, none⟩ = some (.slice ax ln cx) ∧ w'.cell? ⟨g2, k * 2, none⟩ = some (.int .i64 m) ∧ w'.cell? ⟨g2, k * 2 + 1, none⟩ = some (.slice ay ln cy))
        (first | exact ⟨c0, c1, c3, c4⟩ | exact hd | go_keep)
        (first
          | (go_at_call 38; refine (HEQ.out _ hb.drew).mono ?_; rintro e w2 ⟨rfl, hb2⟩; have hd := KX.out _ (hb.drew.trans (hb2.mono hb.drew.size))))
      all_goals
        have b2 : Below w.heap.size w w2 := hb.drew.trans (hb2.mono hb.drew.size)
        go_wp2
        go_roundw
        case rel => exact ⟨k + 1, by omega, by go_num, b2⟩
        case measure => simp [intOf]; omega
    · obtain rfl : k = n := by omega
      go_wp2
      go_ret
      exact ⟨rfl, hb⟩
theorem eqGameS_v {m : Int} {K : List (List (List Int))} {lo hi lo2 hi2 : Nat} {v v2 : Value} (w : World) (hm : gsz K ≤ 1048576) (h1 : Lies (RGS m K lo hi v) lo hi w) (h2 : Lies (RGS0 m K lo2 hi2 v2) lo2 hi2 w) :
    Calls Try.prog 31 #[v, v2] w fun e w' => e = .returned (.bool true) ∧ Below w.heap.size w w' := by
  have hh := h1.hi_le
  have hh2 := h2.hi_le
  have r1 := Lies.here h1
  have r2 := Lies.here h2
  clear h1 h2
  obtain ⟨A, cap, rfl, h1⟩ := r1
  obtain ⟨A2, cap2, rfl, h2⟩ := r2
  rcases h1 with hn | ⟨g, F, rfl, _, _, ho, LO, HI, hr⟩
  · rw [hn]; exact eqGameS_zero A A2 cap cap2 w
  · rcases h2 with hn | ⟨g2, F2, rfl, _, _, ho2, hr2⟩
    · rw [hn]; exact eqGameS_zero _ A2 cap cap2 w
    · exact eqGameS_in m g g2 K.length cap cap2 lo2 hi2 LO HI K F F2 w rfl hm hh2 ho ho2 (fun i hi => ⟨by have := (hr i hi).2.1; omega, (hr i hi).2.2.2.2⟩) hr2

set_option maxRecDepth 20000 in
set_option maxHeartbeats 4000000 in
theorem markGameS_in (m : Int) (g n c lo hi : Nat) (LO HI : Nat → Nat) (K : List (List (List Int))) (F : Nat → Value) (w : World) (hn : n = K.length) (hm : gsz K ≤ 1048576) (hh : hi ≤ w.heap.size) (hg : lo ≤ g ∧ g < hi) (hx : Own w g 55 (n * 2) (gfV (fun _ => m) F))
    (hr : ∀ i, i < n → lo ≤ LO i ∧ HI i ≤ hi ∧ (g < LO i ∨ HI i ≤ g) ∧ (∀ j, j < i → HI j ≤ LO i) ∧ RSS (K.getD i []) (LO i) (HI i) (F i) w) :
    Calls Try.prog 32 #[.slice (some ⟨g, 0, none⟩) n c, .int .i64 1] w fun e w' => e = .returned (.int .i64 (1 + (totG K n : Nat))) ∧ Turn lo hi w w' ∧ Own w' g 55 (n * 2) (gfV (fun i => 1 + (totG K i : Nat)) F) ∧ ∀ i, i < n → MSS (K.getD i []) (LO i) (HI i) (1 + (totG K i : Nat) + 1) (F i) w' := by
  have HX := Lib.hid hx
  have hgl := hx.lt
  have HR := Lib.hid hr
  have HBD := Lib.hid (fun i (hi : i < n) => gsz_at (K := K) (by rw [← hn]; exact hi) hm)
  have hnm : totG K n + n ≤ 1048576 := by rw [hn]; exact gsz_len hm
  clear hx hr hn hm
  go_enter Try.func32, Try.ntmps32
  go_wp2
  go_loopw [1, 5] (fun q i wr => ∃ k : Nat, k ≤ n ∧ i = .int .i64 k ∧ q = .int .i64 (1 + (totG K k : Nat)) ∧ Own wr g 55 (n * 2) (gfV (fun i => if i < k then 1 + (totG K i : Nat) else m) F) ∧ Turn lo hi w wr ∧ (∀ i, i < k → MSS (K.getD i []) (LO i) (HI i) (1 + (totG K i : Nat) + 1) (F i) wr) ∧ (∀ i, k ≤ i → i < n → RSS (K.getD i []) (LO i) (HI i) (F i) wr)) (fun _ i _ => n - (intOf i).toNat)
  case atStart => exact ⟨0, Nat.zero_le _, rfl, by simp [totG], HX.out.congr fun i _ => by simp [gfV], Turn.refl _ _ _, fun i h => by omega, fun i _ h => (HR.out i h).2.2.2.2⟩
  case round =>
    obtain ⟨k, hk, rfl, rfl, hown, hturn, hms, hri⟩ := hrel
    have HO := Lib.hid hown
    have HTU := Lib.hid hturn
    have HMS := Lib.hid hms
    have HRI := Lib.hid hri
    have hszr := hturn.size
    clear hown hturn hms hri
    by_cases hlt : k < n
    · obtain ⟨r1, r2, r3, r4, _⟩ := HR.out k hlt
      have HR4 := Lib.hid r4
      have hbk := HBD.out k hlt
      have hc0 : wr.cell? ⟨g, k * 2, none⟩ = some (.int .i64 m) := by rw [HO.out.cell (by omega), gfV_0, if_neg (by omega)]
      have hc1 := HO.out.cell (show k * 2 + 1 < n * 2 by omega)
      rw [gfV_1] at hc1
      have hf0 := HO.out.frozen (k * 2)
      have HO1 := Lib.hid ((HO.out.set (k * 2) (.int .i64 (1 + (totG K k : Nat)))).congr (f' := gfV (fun i => if i < k + 1 then 1 + (totG K i : Nat) else m) F) fun i _ => by
        unfold gfV
        by_cases e : i = k * 2
        · subst e; rw [if_pos rfl, if_pos (by omega), show k * 2 / 2 = k from by omega]; dsimp only; rw [if_pos (by omega)]
        · rw [if_neg e]
          by_cases e2 : i % 2 = 0
          · rw [if_pos e2, if_pos e2]
            dsimp only
            by_cases e3 : i / 2 < k
            · rw [if_pos e3, if_pos (by omega)]
            · rw [if_neg e3, if_neg (by omega)]
          · rw [if_neg e2, if_neg e2])
      have hrk := HRI.out k (Nat.le_refl _) hlt
      obtain ⟨ax, cx, hfx⟩ := hrk.slice
      have HFX := Lib.hid hfx
      have HL1 := Lib.hid ((RSS.lies hrk (by omega)).keep (w' := wr.setCell ⟨g, k * 2, none⟩ (.int .i64 (1 + (totG K k : Nat)))) (by simp) (fun b b1 b2 => Below.heap_setCell wr ⟨g, k * 2, none⟩ _ b (by simp; omega)))
      have HS := Lib.hid (show totG K (k+1) = totG K k + (1 + tot (K.getD k [])) from rfl)
      rw [hfx] at hc1 HL1
      have HMK := Lib.hid (markIntSS_vk (1 + (totG K k : Nat) + 1) (by omega) (wr.setCell ⟨g, k * 2, none⟩ (.int .i64 (1 + (totG K k : Nat)))) hbk.2 (by omega) HL1.out)
      have hgr := HO.out.lt
      have hc1' : (wr.setCell ⟨g, k * 2, none⟩ (.int .i64 (1 + (totG K k : Nat)))).cell? ⟨g, k * 2 + 1, none⟩ = some (.slice ax (K.getD k []).length cx) := by rw [← hfx]; have := HO1.out.cell (show k * 2 + 1 < n * 2 by omega); rw [gfV_1] at this; exact this
      obtain ⟨T, hT⟩ : ∃ T, T = tot (K.getD k []) := ⟨_, rfl⟩
      rw [← hT] at HMK HS hbk
      clear hT hfx hrk
      go_wp2_with (go_at_call 27; refine HMK.out.mono ?_; rintro e w2 ⟨rfl, ht2, hm2⟩)
      have HT2 := Lib.hid (show Turn lo hi w w2 from (HTU.out.trans (show Turn lo hi wr (wr.setCell ⟨g, k * 2, none⟩ (.int .i64 (1 + (totG K k : Nat)))) from Turn.of_grown (r := some g) ⟨rfl, rfl, rfl, by simp, fun b _ hb => Below.heap_setCell wr ⟨g, k * 2, none⟩ _ b (fun e => hb (by rw [e]))⟩ (fun b hb => by injection hb with hb; omega))).trans ⟨ht2.os, ht2.tape, ht2.output, ht2.size, fun j hj ho => ht2.block j hj (by omega)⟩)
      have hs1 : (wr.setCell ⟨g, k * 2, none⟩ (.int .i64 (1 + (totG K k : Nat)))).heap.size = wr.heap.size := by simp
      have HB2 := Lib.hid (show ∀ b, b < wr.heap.size → b ≠ g → (b < LO k ∨ HI k ≤ b) → w2.heap[b]? = wr.heap[b]? from fun b hb hbg ho => (ht2.block b (by rw [hs1]; exact hb) ho).trans (Below.heap_setCell wr ⟨g, k * 2, none⟩ _ b hbg))
      have HOG := Lib.hid (HO1.out.turn ht2 r3)
      have hsz2 := ht2.size
      go_roundw
      case rel =>
        refine ⟨k + 1, by omega, by go_num, by rw [HS.out]; first | (congr 1; omega) | (simp; omega), HOG.out, HT2.out, fun i hi => ?_, fun i h1 h2 => ?_⟩
        · by_cases e : i = k
          · subst e; rw [HFX.out]; exact hm2
          · obtain ⟨q1, q2, q3, _, _⟩ := HR.out i (by omega)
            have := HR4.out i (by omega)
            exact ((MSS.lies (HMS.out i (by omega)) (by omega)).keep (w' := w2) (by omega) (fun b b1 b2 => HB2.out b (by omega) (by omega) (by omega))).here
        · obtain ⟨q1, q2, q3, q4, _⟩ := HR.out i h2
          have := q4 k (by omega)
          exact ((RSS.lies (HRI.out i (by omega) h2) (by omega)).keep (w' := w2) (by omega) (fun b b1 b2 => HB2.out b (by omega) (by omega) (by omega))).here
      case measure => simp [intOf]; omega
    · obtain rfl : n = k := by omega
      go_wp2
      go_ret
      exact ⟨rfl, HTU.out, HO.out.congr fun i hi => by unfold gfV; by_cases e : i % 2 = 0; (rw [if_pos e, if_pos e]; dsimp only; rw [if_pos (by omega)]); (rw [if_neg e, if_neg e]), HMS.out⟩
theorem markGameS_v {m : Int} {K : List (List (List Int))} {lo hi : Nat} {v : Value} (w : World) (hm : gsz K ≤ 1048576) (h : Lies (RGS m K lo hi v) lo hi w) :
    Calls Try.prog 32 #[v, .int .i64 1] w fun e w' => e = .returned (.int .i64 (1 + (totG K K.length : Nat))) ∧ Turn lo hi w w' ∧ MGS K lo hi 1 v w' := by
  have hh := h.hi_le
  have r1 := Lies.here h
  clear h
  obtain ⟨A, cap, rfl, h⟩ := r1
  rcases h with hz | ⟨g, F, rfl, h1, h2, ho, LO, HI, h⟩
  · have e0 : totG K K.length = 0 := by rw [hz]; rfl
    rw [e0, hz]
    refine (markGameS_zero A cap 1 w).mono ?_
    rintro e w' ⟨rfl, rfl⟩
    exact ⟨by simp, Turn.refl _ _ _, A, cap, by rw [hz], Or.inl hz⟩
  · refine (markGameS_in m g K.length cap lo hi LO HI K F w rfl hm hh ⟨h1, h2⟩ ho h).mono ?_
    rintro e w' ⟨rfl, ht, ho', hms⟩
    exact ⟨rfl, ht, _, cap, rfl, Or.inr ⟨g, F, rfl, h1, h2, ho', LO, HI, fun i hi => ⟨(h i hi).1, (h i hi).2.1, hms i hi⟩⟩⟩

set_option maxRecDepth 20000 in
set_option maxHeartbeats 4000000 in
theorem heldGameS_in (g n c hi : Nat) (LO HI : Nat → Nat) (K : List (List (List Int))) (F : Nat → Value) (w : World) (hn : n = K.length) (hm : gsz K ≤ 1048576) (hh : hi ≤ w.heap.size) (hx : Own w g 55 (n * 2) (gfV (fun i => 1 + (totG K i : Nat)) F))
    (hr : ∀ i, i < n → HI i ≤ hi ∧ MSS (K.getD i []) (LO i) (HI i) (1 + (totG K i : Nat) + 1) (F i) w) :
    Calls Try.prog 33 #[.slice (some ⟨g, 0, none⟩) n c, .int .i64 1] w fun e w' => e = .returned (.int .i64 (1 + (totG K n : Nat))) ∧ Below w.heap.size w w' := by
  have HX := Lib.hid hx
  have hgl := hx.lt
  have HR := Lib.hid hr
  have HBD := Lib.hid (fun i (hi : i < n) => gsz_at (K := K) (by rw [← hn]; exact hi) hm)
  have hnm : totG K n + n ≤ 1048576 := by rw [hn]; exact gsz_len hm
  clear hx hr hn hm
  go_enter Try.func33, Try.ntmps33
  go_wp2
  go_loopw [1, 5] (fun q i wr => ∃ k : Nat, k ≤ n ∧ i = .int .i64 k ∧ q = .int .i64 (1 + (totG K k : Nat)) ∧ Below w.heap.size w wr) (fun _ i _ => n - (intOf i).toNat)
  case atStart => exact ⟨0, Nat.zero_le _, rfl, by simp [totG], Below.refl _ _⟩
  case round =>
    obtain ⟨k, hk, rfl, rfl, hb⟩ := hrel
    by_cases hlt : k < n
    · have ho := HX.out.below hb hgl
      have hc0 := ho.cell (show k * 2 < n * 2 by omega)
      have hc1 := ho.cell (show k * 2 + 1 < n * 2 by omega)
      rw [gfV_0] at hc0
      rw [gfV_1] at hc1
      have hgr : g < wr.heap.size := Nat.lt_of_lt_of_le hgl hb.size
      obtain ⟨r1, r2⟩ := HR.out k hlt
      have hbk := HBD.out k hlt
      obtain ⟨ax, cx, hfx⟩ := r2.slice
      have HL1 := Lib.hid ((MSS.lies r2 (by omega)).now hb)
      rw [hfx] at hc1 HL1
      have HS := Lib.hid (show totG K (k+1) = totG K k + (1 + tot (K.getD k [])) from rfl)
      have HHD := Lib.hid (heldIntSS_vk (1 + (totG K k : Nat) + 1) (by omega) wr hbk.2 (by omega) HL1.out)
      obtain ⟨T, hT⟩ : ∃ T, T = tot (K.getD k []) := ⟨_, rfl⟩
      rw [← hT] at HHD HS hbk
      clear hT hfx r2 ho
      go_wp2_with (go_at_call 28; refine HHD.out.mono ?_; rintro e w2 ⟨rfl, hb2⟩; have hneg : ¬ (1 + (totG K k : Nat) + 1 + (T : Nat) : Int) < 0 := by omega)
      go_roundw
      case rel => exact ⟨k + 1, by omega, by go_num, by rw [HS.out]; first | (congr 1; omega) | (simp; omega), hb.trans (hb2.mono hb.size)⟩
      case measure => simp [intOf]; omega
    · obtain rfl : n = k := by omega
      go_wp2
      go_ret
      exact ⟨rfl, hb⟩
theorem heldGameS_v {K : List (List (List Int))} {lo hi : Nat} {v : Value} (w : World) (hm : gsz K ≤ 1048576) (h : Lies (MGS K lo hi 1 v) lo hi w) :
    Calls Try.prog 33 #[v, .int .i64 1] w fun e w' => e = .returned (.int .i64 (1 + (totG K K.length : Nat))) ∧ Below w.heap.size w w' := by
  have hh := h.hi_le
  have r1 := Lies.here h
  clear h
  obtain ⟨A, cap, rfl, h⟩ := r1
  rcases h with hz | ⟨g, F, rfl, h1, h2, ho, LO, HI, h⟩
  · have e0 : totG K K.length = 0 := by rw [hz]; rfl
    rw [e0, hz]
    refine (heldGameS_zero A cap 1 w).mono ?_
    rintro e w' ⟨rfl, rfl⟩
    exact ⟨by simp, Below.refl _ _⟩
  · exact heldGameS_in g K.length cap hi LO HI K F w rfl hm hh ho (fun i hi' => ⟨(h i hi').2.1, (h i hi').2.2⟩)
end Go.Proofs.Ytnldodnpakpeeaa

namespace Go.Proofs.Ytnldodnpakpeeaa
open Go.RowKit Vo

/-- The solutions, as lists. -/
def solG (m : Int) (C : List Clu) : List (List (List Int)) := if puzB m C then (solK m.toNat C).map setsL else []
theorem mapS_get (L : List (List Nat)) (i : Nat) : (L.map setsL).getD i [] = setsL (L.getD i []) := by
  rw [List.getD_eq_getElem?_getD, List.getElem?_map, List.getD_eq_getElem?_getD]
  cases L[i]? <;> rfl
theorem gszK_few {K : List (List (List Int))} (h : ∀ i, tot (K.getD i []) + (K.getD i []).length ≤ 160) : ∀ n, gszK K n ≤ 162 * n
  | 0 => Nat.le_refl _
  | n+1 => by simp only [gszK]; have := gszK_few h n; have := h n; omega
theorem solG_small (m : Int) (C : List Clu) : gsz (solG m C) ≤ 1048576 := by
  unfold solG
  cases h : puzB m C with
  | false => simp [gsz, gszK]
  | true =>
    rw [if_pos rfl]
    obtain ⟨q, rfl, h1, h4, _⟩ := puzB_nat h
    rw [Int.toNat_natCast]
    have hN := solK_len q C h1 h4
    have hb : ∀ i, tot (((solK q C).map setsL).getD i []) + (((solK q C).map setsL).getD i []).length ≤ 160 := fun i => by
      rw [mapS_get]
      by_cases hi : i < (solK q C).length
      · have h16 := (solK_get h1 h4 hi).1
        have h2 := setsL_len ((solK q C).getD i [])
        have h3 : tot (setsL ((solK q C).getD i [])) ≤ 9 * (setsL ((solK q C).getD i [])).length := totK_small (setsL_nine _) _
        omega
      · rw [List.getD_eq_getElem?_getD, List.getElem?_eq_none (by omega)]
        simp [setsL, tot, totK]
    have := gszK_few hb ((solK q C).map setsL).length
    unfold gsz
    rw [List.length_map] at *
    omega

/-- A list of games that is being built: each game lies behind the one before it, and the row elsewhere. -/
def GRb (base : Nat) (m : Int) (K : List (List (List Int))) (v : Value) (w : World) : Prop :=
  ∃ (xs : List Value) (F : Nat → Value) (LO HI : Nat → Nat), w.ownsRow base 55 2 v K.length xs ∧ ∀ i, i < K.length → xs[i*2]? = some (.int .i64 m) ∧ xs[i*2+1]? = some (F i) ∧ base ≤ LO i ∧ (∀ k, v.ownBlock = some k → k < LO i ∨ HI i ≤ k) ∧ (∀ j, j < i → HI j ≤ LO i) ∧ Lies (RSS (K.getD i []) (LO i) (HI i) (F i)) (LO i) (HI i) w
theorem GRb.nil (base : Nat) (m : Int) (w : World) : GRb base m [] (.slice none 0 0) w := ⟨[], fun _ => default, fun _ => 0, fun _ => 0, World.ownsRow_nil _ _ _ _, fun i h => by simp at h⟩
theorem GRb.now {base : Nat} {m : Int} {K : List (List (List Int))} {v : Value} {w w' : World} (h : GRb base m K v w) (hb : Below w.heap.size w w') : GRb base m K v w' := by
  obtain ⟨xs, F, LO, HI, ho, h⟩ := h
  exact ⟨xs, F, LO, HI, owns_now ho hb, fun i hi => ⟨(h i hi).1, (h i hi).2.1, (h i hi).2.2.1, (h i hi).2.2.2.1, (h i hi).2.2.2.2.1, (h i hi).2.2.2.2.2.now hb⟩⟩
theorem GRb.slice {base : Nat} {m : Int} {K : List (List (List Int))} {v : Value} {w : World} (h : GRb base m K v w) : ∃ B cp, v = .slice B K.length cp := by
  obtain ⟨xs, F, LO, HI, ho, _⟩ := h
  exact owns_sliceR ho
/-- A game more: told between w and w1. -/
theorem GRb.push {base : Nat} {m : Int} {K : List (List (List Int))} {v x : Value} {l : List (List Int)} {w w1 w2 w3 : World} {gg cap n : Nat} (hn : n = K.length) (hbw : base ≤ w.heap.size) (xs : List Value) (F : Nat → Value) (LO HI : Nat → Nat)
    (h : ∀ i, i < K.length → xs[i*2]? = some (.int .i64 m) ∧ xs[i*2+1]? = some (F i) ∧ base ≤ LO i ∧ (∀ k, v.ownBlock = some k → k < LO i ∨ HI i ≤ k) ∧ (∀ j, j < i → HI j ≤ LO i) ∧ Lies (RSS (K.getD i []) (LO i) (HI i) (F i)) (LO i) (HI i) w)
    (hlt : ∀ k, v.ownBlock = some k → k < w.heap.size) (hxs : xs.length = n * 2) (hb1 : Below w.heap.size w w1) (hx : Lies (RSS l w.heap.size w1.heap.size x) w.heap.size w1.heap.size w1) (hb2 : Below w1.heap.size w1 w2)
    (hown : w3.ownsRow base 55 2 (.slice (some ⟨gg, 0, none⟩) (n + 1) cap) (n + 1) (xs ++ [.int .i64 m, x])) (hgrow : w2.grownBy w3 v.ownBlock) (hat : v.ownBlock = some gg ∨ w2.heap.size ≤ gg) :
    GRb base m (K ++ [l]) (.slice (some ⟨gg, 0, none⟩) (n + 1) cap) w3 := by
  have hz1 := hb1.size
  have hz2 := hb2.size
  have hz3 := hgrow.size
  refine ⟨_, fun i => if i = n then x else F i, fun i => if i = n then w.heap.size else LO i, fun i => if i = n then w1.heap.size else HI i, by rw [List.length_append, ← hn]; exact hown, fun i hi => ?_⟩
  rw [List.length_append, List.length_cons, List.length_nil] at hi
  by_cases e : i = n
  · subst e
    simp only [if_true]
    refine ⟨?_, ?_, hbw, fun k hk => ?_, fun j hj => ?_, ?_⟩
    · rw [List.getElem?_append_right (by omega), hxs]; simp
    · rw [List.getElem?_append_right (by omega), hxs, show i * 2 + 1 - i * 2 = 1 from by omega]; rfl
    · have hk : gg = k := by simpa [Value.ownBlock] using hk
      rcases hat with h0 | h0
      · have := hlt gg h0; omega
      · omega
    · rw [if_neg (by omega)]
      have := (h j (by omega)).2.2.2.2.2.hi_le
      exact this
    · rw [List.getD_eq_getElem?_getD, List.getElem?_append_right (by omega), hn, Nat.sub_self]
      refine ((hx.now hb2).keep hz3 fun k k1 k2 => hgrow.block k (by omega) (fun e => ?_))
      have := hlt k e.symm
      omega
  · have hi' : i < K.length := by omega
    obtain ⟨a, b, c, d, f, r⟩ := h i hi'
    simp only [if_neg e]
    have hhi := r.hi_le
    refine ⟨by rw [List.getElem?_append_left (by omega)]; exact a, by rw [List.getElem?_append_left (by omega)]; exact b, c, fun k hk => ?_, fun j hj => ?_, ?_⟩
    · have hk : gg = k := by simpa [Value.ownBlock] using hk
      subst hk
      rcases hat with h0 | h0
      · exact d gg h0
      · exact Or.inr (by omega)
    · rw [if_neg (by omega)]; exact f j hj
    · rw [List.getD_eq_getElem?_getD, List.getElem?_append_left hi', ← List.getD_eq_getElem?_getD]
      refine (((r.now hb1).now hb2).keep hz3 fun k k1 k2 => hgrow.block k (by omega) (fun e => ?_))
      rcases d k e.symm with h0 | h0 <;> omega
theorem GRb.rgs {base : Nat} {m : Int} {K : List (List (List Int))} {v : Value} {w : World} (h : GRb base m K v w) : RGS m K base w.heap.size v w := by
  obtain ⟨xs, F, LO, HI, ho, h⟩ := h
  rcases ho.2 with ⟨hv, hz⟩ | ⟨g, cap, cur, hv, hg, hh, hnc, hcm, hcs, htk⟩
  · exact ⟨none, 0, by rw [hv, hz], Or.inl hz⟩
  · refine ⟨_, cap, hv, ?_⟩
    by_cases hz : K.length = 0
    · exact Or.inl hz
    · refine Or.inr ⟨g, F, rfl, hg, (Array.getElem?_eq_some_iff.1 hh).1, ⟨cur, hh, by omega, fun i hi => ?_⟩, LO, HI, fun i hi => ?_⟩
      · have h1 : xs[i]? = cur[i]? := by
          rw [← htk, List.getElem?_take, if_pos hi]
          simp
        rw [← h1]
        unfold gfV
        by_cases e : i % 2 = 0
        · rw [if_pos e]
          have := (h (i / 2) (by omega)).1
          rwa [show i / 2 * 2 = i from by omega] at this
        · rw [if_neg e]
          have := (h (i / 2) (by omega)).2.1
          rwa [show i / 2 * 2 + 1 = i from by omega] at this
      · obtain ⟨_, _, c, d, f, r⟩ := h i hi
        exact ⟨c, r.hi_le, d g (by rw [hv]; rfl), f, r.here⟩

theorem RGS.low {m : Int} {K : List (List (List Int))} {lo lo' hi : Nat} {v : Value} {w : World} (h : RGS m K lo hi v w) (hl : lo' ≤ lo) : RGS m K lo' hi v w := by
  obtain ⟨A, cap, hv, h⟩ := h
  refine ⟨A, cap, hv, ?_⟩
  rcases h with h | ⟨g, F, hA, h1, h2, ho, LO, HI, h⟩
  · exact Or.inl h
  · exact Or.inr ⟨g, F, hA, by omega, h2, ho, LO, HI, fun i hi => by obtain ⟨a, b⟩ := h i hi; exact ⟨by omega, b⟩⟩
set_option maxRecDepth 20000 in
set_option maxHeartbeats 8000000 in
theorem iSolutions_any (m : Int) (A : Option Addr) (n cap : Nat) (C : List Clu) (w : World) (hl : n ≤ 1048576) (hk : KCl w A n C) :
    Calls Try.prog 30 #[.agg #[.int .i64 m, .slice A n cap]] w fun e w' => Ans (RGS m (solG m C)) (puzB m C) w w' e := by
  obtain ⟨P, hP⟩ : ∃ P : World → Ending → Prop, P = fun w' e => Ans (RGS m (solG m C)) (puzB m C) w w' e := ⟨_, rfl⟩
  suffices h : Calls Try.prog 30 #[.agg #[.int .i64 m, .slice A n cap]] w fun e w' => P w' e by rw [hP] at h; exact h
  have HNO := Lib.hid (show puzB m C = false → ∀ w' e, Ans (RGS m []) false w w' e → P w' e from fun h w' e k => by rw [hP]; unfold solG; rw [h]; exact k)
  have HYES := Lib.hid (show puzB m C = true → ∀ w' e, Ans (RGS m ((solK m.toNat C).map setsL)) true w w' e → P w' e from fun h w' e k => by rw [hP]; unfold solG; rw [h]; exact k)
  clear hP
  have b0 := below1 w (.cells #[.int .i64 m, .slice A n cap] 28)
  have hx := BoxT.new 28 w (.int .i64 m) (.slice A n cap)
  obtain ⟨c0, c1⟩ := hx.cells
  have HR := Lib.hid (readRiddle_any m A n cap C _ hl (hk.now b0))
  clear hk hx
  cases hp : puzB m C with
  | false =>
    rw [hp] at HR
    have HN := Lib.hid (HNO.out hp)
    clear hp
    go_enter Try.func30, Try.ntmps30
    go_wp2_with fail
    refine HR.out.mono ?_
    rintro e w1 ⟨h, hb1⟩
    obtain rfl : e = .returned (.tuple #[.pointer none, .bool false]) := by
      rcases h with ⟨_, h⟩ | ⟨h, _⟩
      · exact h
      · simp at h
    clear h c0 c1
    go_wp2
    exact HN.out _ _ ⟨_, rfl, (GRb.rgs (GRb.nil w.heap.size m w1)).lies (Nat.le_refl _), bfrom b0 hb1⟩
  | true =>
    rw [hp] at HR
    have HY := Lib.hid (HYES.out hp)
    have HPP := Lib.hid hp
    obtain ⟨i0, hi0, hz0, hz1, hz2⟩ := info_parts infoGm
    clear hp
    go_enter Try.func30, Try.ntmps30
    go_wp2_with fail
    refine HR.out.mono ?_
    rintro e w1 ⟨h, hb1⟩
    obtain ⟨q, h', rfl, hq1, hq4, rfl, hrd⟩ : ∃ (q h' : Nat), m = q ∧ 1 ≤ q ∧ q ≤ 4 ∧ e = .returned (.tuple #[.pointer (some ⟨h', 0, none⟩), .bool true]) ∧ RdAt _ q C h' w1 := by
      rcases h with ⟨h, _⟩ | ⟨_, h⟩
      · simp at h
      · exact h
    have g1 := bfrom b0 hb1
    have HS := Lib.hid (solutions_any _ q C h' w1 hq1 hq4 hb1.size HPP.out hrd)
    rw [Int.toNat_natCast] at HY
    have HGET := Lib.hid (fun i (hi : i < (solK q C).length) => solK_get hq1 hq4 hi)
    have hN9 := solK_len q C hq1 hq4
    have h2q := two4 hq4
    obtain ⟨Gs, hGs⟩ : ∃ Gs, Gs = solK q C := ⟨_, rfl⟩
    rw [← hGs] at HS HY HGET hN9
    clear h c0 c1 hrd hGs
    go_wp2_with fail
    refine HS.out.mono ?_
    rintro e w2 ⟨v', rfl, hgs, hb2⟩
    obtain ⟨Bq, cq, rfl⟩ := GSb.slice hgs
    have HG := Lib.hid hgs
    have g2 := bfrom g1 hb2
    have hzw2 := g2.size
    obtain ⟨N, hN⟩ : ∃ N, N = Gs.length := ⟨_, rfl⟩
    have HNN := Lib.hid hN
    rw [← hN] at HGET hN9 ⊢
    have HTK := Lib.hid (fun j (hj : j < N) => show (Gs.take (j+1)).map setsL = (Gs.take j).map setsL ++ [setsL (Gs.getD j [])] from by
      rw [List.take_add_one, List.map_append, List.getElem?_eq_getElem (by omega), List.getD_eq_getElem?_getD, List.getElem?_eq_getElem (by omega)]
      rfl)
    have HTL := Lib.hid (fun j (hj : j ≤ N) => show ((Gs.take j).map setsL).length = j from by rw [List.length_map, List.length_take]; omega)
    clear hgs hN
    go_wp2_with fail
    go_loopw [6, 8, 19] (fun lv _ i wr => ∃ (j : Nat) (B : Option Addr) (cb : Nat), j ≤ N ∧ i = .int .i64 j ∧ lv = .slice B j cb ∧ GRb w2.heap.size (q : Int) ((Gs.take j).map setsL) (.slice B j cb) wr ∧ Below w2.heap.size w2 wr) (fun _ _ i _ => N - (intOf i).toNat)
    case atStart => exact ⟨0, none, 0, Nat.zero_le _, rfl, rfl, GRb.nil _ _ _, Below.refl _ _⟩
    case round =>
      obtain ⟨j, B, cb, hj, rfl, rfl, hgr, hbr⟩ := hrel
      have HGR := Lib.hid hgr
      have HBR := Lib.hid hbr
      have hszr := hbr.size
      clear hgr hbr
      by_cases hlt : j < N
      · obtain ⟨xs, G, Cc, hown, hgs⟩ := HG.out
        rw [← HNN.out] at hown hgs
        obtain ⟨gq, cq', hv, _, _, _⟩ := owns_headS hown (by omega)
        obtain ⟨rfl, rfl⟩ : Bq = some ⟨gq, 0, none⟩ ∧ cq = cq' := by simpa using hv
        obtain ⟨x0, x1, _, ho⟩ := hgs j hlt
        obtain ⟨h16, hS2⟩ := HGET.out j hlt
        have hlo := owns_now hown HBR.out
        have hnn := hown.1
        have e0 : wr.cell? ⟨gq, j * 2, none⟩ = some (.int .i64 q) := by rw [hlo.cellAt (j*2) (by omega)]; exact x0
        have e1 : wr.cell? ⟨gq, j * 2 + 1, none⟩ = some (.slice (some ⟨G j, 0, none⟩) (Gs.getD j []).length (Cc j)) := by rw [hlo.cellAt (j*2+1) (by omega)]; exact x1
        have bA := below1 wr (.cells #[.int .i64 q, .slice (some ⟨G j, 0, none⟩) (Gs.getD j []).length (Cc j)] 95)
        have hxg := BoxT.new 95 wr (.int .i64 q) (.slice (some ⟨G j, 0, none⟩) (Gs.getD j []).length (Cc j))
        obtain ⟨y0, y1⟩ := hxg.cells
        have HT := Lib.hid (told_any (Gs.getD j []) q _ _ (Cc j) _ (wr.alloc (.cells #[.int .i64 q, .slice (some ⟨G j, 0, none⟩) (Gs.getD j []).length (Cc j)] 95)) rfl (by omega) (fun t ht => Nat.lt_of_lt_of_le (getD_lt hS2 ht) h2q) (owns_now (owns_now ho HBR.out) bA))
        have HTKJ := Lib.hid (HTK.out j hlt)
        have HTLJ := Lib.hid (HTL.out j (by omega))
        have HGA := Lib.hid (HGR.out.now bA)
        have HBA := Lib.hid (HBR.out.trans (bA.mono hszr))
        obtain ⟨S, hS⟩ : ∃ S, S = Gs.getD j [] := ⟨_, rfl⟩
        rw [← hS] at e1 y1 HT HTKJ y0 HGA HBA
        obtain ⟨ls, hls⟩ : ∃ z, z = S.length := ⟨_, rfl⟩
        rw [← hls] at e1 y1 HT y0 HGA HBA
        have hzA : w2.heap.size ≤ (wr.alloc (.cells #[.int .i64 q, .slice (some ⟨G j, 0, none⟩) ls (Cc j)] 95)).heap.size := HBA.out.size
        obtain ⟨ys, F, LO, HI, hro, hrs⟩ := HGA.out
        rw [HTLJ.out] at hro
        have HRO := Lib.hid hro
        have HRS := Lib.hid hrs
        obtain ⟨wA, hwA⟩ : ∃ wA, wA = wr.alloc (.cells #[.int .i64 q, .slice (some ⟨G j, 0, none⟩) ls (Cc j)] 95) := ⟨_, rfl⟩
        clear hown hgs x0 x1 ho hS2 hlo hnn hv bA hxg hro hrs hS hls
        go_wp2_with (first
          | (go_at_call 66; refine HT.out.mono ?_; rintro e w3 ⟨B3, cp3, rfl, hl3, hb3⟩; have HL3 := Lib.hid hl3; have HB3 := Lib.hid hb3; have HO3 := Lib.hid (owns_now HRO.out hb3); have hz3 := hb3.size; clear hl3 hb3)
          | (at_builtin; refine wpList_append_lies _ rfl _ _ _ rfl w2.heap.size 55 i0 _ 2 32 Try.underlying47 hi0 hz0 hz1 hz2 rfl (by decide) (.slice B j cb) j ys rfl (HO3.out.alloc _) ⟨w3.heap.size, 0, none⟩ 1 1 [.int .i64 q, .slice B3 ls cp3] rfl rfl (World.news_of_block (cs := #[.int .i64 q, .slice B3 ls cp3]) (t := 55) (fr := (0, 0)) (heap_alloc_new w3 _)) (by simp [Value.oneCell']) (by omega) (by unfold maxLen; omega) (by omega) (by simp; omega) (w3.heap.size + 1) (by simp) ?_; intro gg cap3 w7 hown7 hgrow7 hat7 hlt7)
          | fail)
        have HP := Lib.hid (GRb.push (l := setsL S) (by rw [HTLJ.out]) hzA ys F LO HI HRS.out (fun k hk => (HRO.out.lt k hk).2) HRO.out.1 HB3.out HL3.out (below1 w3 (.cells #[.int .i64 q, .slice B3 ls cp3] 55)) hown7 hgrow7 (hat7.elim Or.inl (fun h => Or.inr (by simp; omega))))
        have HB7 := Lib.hid (((HBA.out.trans (HB3.out.mono hzA)).alloc (by omega) (.cells #[.int .i64 q, .slice B3 ls cp3] 55)).grown hgrow7 (by simp; omega) (fun i hi => (HO3.out.lt i hi).1))
        go_roundw
        case rel => exact ⟨j + 1, _, cap3, by omega, by go_num, rfl, by rw [HTKJ.out]; exact HP.out, HB7.out⟩
        case measure => simp [intOf]; omega
      · obtain rfl : j = N := by omega
        have HFIN := Lib.hid (show (Gs.take j).map setsL = Gs.map setsL from by rw [List.take_of_length_le (by rw [← HNN.out]; exact Nat.le_refl _)])
        have HB9 := Lib.hid (g2.trans (HBR.out.mono hzw2))
        go_wp2
        refine HY.out _ _ ⟨_, rfl, ?_, HB9.out⟩
        have h := HGR.out.rgs
        rw [HFIN.out] at h
        exact (RGS.low h hzw2).lies (Nat.le_refl _)

/-- What the model's search gives, for whoever reads. -/
theorem GL.rgs0 {base n : Nat} {P : GP} {v : Value} {w : World} (h : GL base n P v w) : RGS0 (n : Int) (P.map fun p => setsL (leastC n p.1)) base w.heap.size v w := by
  obtain ⟨ho, h⟩ := h
  rcases ho.2 with ⟨hv, hz⟩ | ⟨g, cap, cur, hv, hg, hh, hnc, hcm, hcs, htk⟩
  · exact ⟨none, 0, by rw [hv, List.length_map, hz], Or.inl (by rw [List.length_map]; exact hz)⟩
  · refine ⟨some ⟨g, 0, none⟩, cap, by rw [hv, List.length_map], ?_⟩
    by_cases hz : P.length = 0
    · exact Or.inl (by rw [List.length_map]; exact hz)
    · refine Or.inr ⟨g, fun i => (P.getD i (0, .slice none 0 0)).2, rfl, hg, (Array.getElem?_eq_some_iff.1 hh).1, ⟨cur, hh, by rw [List.length_map]; omega, fun i hi => ?_⟩, fun i hi => ?_⟩
      · rw [List.length_map] at hi
        have h1 : (gpV n P)[i]? = cur[i]? := by
          rw [← htk, List.getElem?_take, if_pos hi]
          simp
        rw [← h1]
        obtain ⟨p0, p1⟩ := gpV_pair n P (i / 2) (by omega)
        unfold gfV
        by_cases e : i % 2 = 0
        · rw [if_pos e]
          rwa [show i / 2 * 2 = i from by omega] at p0
        · rw [if_neg e]
          rwa [show i / 2 * 2 + 1 = i from by omega] at p1
      · rw [List.length_map] at hi
        have hmem : P.getD i (0, .slice none 0 0) ∈ P := by rw [List.getD_eq_getElem?_getD, List.getElem?_eq_getElem hi]; exact List.getElem_mem hi
        obtain ⟨lo, hi2, AX, cX, hlo, _, hX, hlies⟩ := h _ hmem
        have e : (P.map fun p => setsL (leastC n p.1)).getD i [] = setsL (leastC n (P.getD i (0, .slice none 0 0)).1) := by
          rw [List.getD_eq_getElem?_getD, List.getElem?_map, List.getD_eq_getElem?_getD, List.getElem?_eq_getElem hi]; rfl
        rw [e]
        exact RSS0.wide hlies.here hlo hlies.hi_le
theorem RGS0.low {m : Int} {K : List (List (List Int))} {lo lo' hi : Nat} {v : Value} {w : World} (h : RGS0 m K lo hi v w) (hl : lo' ≤ lo) : RGS0 m K lo' hi v w := by
  obtain ⟨A, cap, hv, h⟩ := h
  refine ⟨A, cap, hv, ?_⟩
  rcases h with h | ⟨g, F, hA, h1, h2, ho, h⟩
  · exact Or.inl h
  · exact Or.inr ⟨g, F, hA, by omega, h2, ho, fun i hi => RSS0.wide (h i hi) hl (Nat.le_refl _)⟩

set_option maxRecDepth 20000 in
set_option maxHeartbeats 4000000 in
theorem sSolutions_any (m : Int) (A : Option Addr) (n cap : Nat) (C : List Clu) (w : World) (hl : n ≤ 1048576) (_hc : n ≤ cap) (hk : KCl w A n C) :
    Calls Try.prog 29 #[.agg #[.int .i64 m, .slice A n cap]] w fun e w' => Ans (RGS0 m (solG m C)) (puzB m C) w w' e := by
  obtain ⟨P, hP⟩ : ∃ P : World → Ending → Prop, P = fun w' e => Ans (RGS0 m (solG m C)) (puzB m C) w w' e := ⟨_, rfl⟩
  suffices h : Calls Try.prog 29 #[.agg #[.int .i64 m, .slice A n cap]] w fun e w' => P w' e by rw [hP] at h; exact h
  have HNO := Lib.hid (show puzB m C = false → ∀ w' e, Ans (RGS0 m []) false w w' e → P w' e from fun h w' e k => by rw [hP]; unfold solG; rw [h]; exact k)
  have HYES := Lib.hid (show puzB m C = true → ∀ w' e, Ans (RGS0 m ((solK m.toNat C).map setsL)) true w w' e → P w' e from fun h w' e k => by rw [hP]; unfold solG; rw [h]; exact k)
  clear hP
  have hb0 := below1 w (.cells #[.int .i64 m, .slice A n cap] 28)
  have hx := BoxT.new 28 w (.int .i64 m) (.slice A n cap)
  obtain ⟨c0, c1⟩ := hx.cells
  have HP := Lib.hid (pzGood_any m A n cap C _ (by omega) (hk.now hb0))
  have HK := Lib.hid (hk.now hb0)
  have hcl := hk.1
  clear hk
  cases hp : puzB m C with
  | false =>
    have HN := Lib.hid (HNO.out hp)
    rw [hp] at HP
    clear hp hcl
    go_enter Try.func29, Try.ntmps29
    go_wp2_with fail
    refine HP.out.mono ?_
    rintro e w1 ⟨rfl, hb1⟩
    go_wp2
    exact HN.out _ _ ⟨_, rfl, (show RGS0 m [] w.heap.size w1.heap.size (.slice none 0 0) w1 from ⟨none, 0, rfl, Or.inl rfl⟩).lies (Nat.le_refl _), bfrom hb0 hb1⟩
  | true =>
    obtain ⟨q, rfl, h1, h4, hask⟩ := puzB_nat hp
    have HY := Lib.hid (HYES.out hp)
    rw [Int.toNat_natCast] at HY
    rw [hp] at HP
    have HALL := Lib.hid (fun W (hW : Below (w.alloc (.cells #[.int .i64 (q : Nat), .slice A n cap] 28)).heap.size (w.alloc (.cells #[.int .i64 (q : Nat), .slice A n cap] 28)) W) => (pzAll_any q n A cap C W h1 h4 hl (HK.out.now hW) (fun j hj => hask j (by omega))).mono fun e w' h => h.sol h1 h4 hask)
    have HGS := Lib.hid (show ∀ (Q : GP), Q.map (fun p => leastC q p.1) = solK q C → (Q.map fun p => setsL (leastC q p.1)) = (solK q C).map setsL from fun Q h => by rw [← h, List.map_map]; rfl)
    obtain ⟨R, hR⟩ : ∃ R, R = (solK q C).length := ⟨_, rfl⟩
    rw [← hR] at HALL
    clear hp hcl hask hR HNO HYES HK
    go_enter Try.func29, Try.ntmps29
    go_wp2_with fail
    refine HP.out.mono ?_
    rintro e w1 ⟨rfl, hb1⟩
    have g1 := bfrom hb0 hb1
    have hz1 := g1.size
    clear c0 c1
    obtain ⟨c0, c1⟩ := (hx.now hb1).cells
    have HA1 := Lib.hid (HALL.out w1 hb1)
    go_wp2_with fail
    refine HA1.out.mono ?_
    rintro e w2 ⟨Q, B, cp, rfl, hq, hG, hb2⟩
    have HQ := Lib.hid hq
    have HG := Lib.hid hG
    clear hq hG hx
    go_wp2
    refine HY.out _ _ ⟨_, rfl, ?_, bfrom g1 hb2⟩
    have h := HG.out.rgs0
    rw [HGS.out Q HQ.out] at h
    exact (RGS0.low h hz1).lies (Nat.le_refl _)
theorem iSolutions_p (m : Int) (A : Option Addr) (n cap : Nat) (C : List Clu) (w : World) (hl : n ≤ 1048576) (_hc : n ≤ cap) (hk : KCl w A n C) :
    Calls Try.prog 30 #[.agg #[.int .i64 m, .slice A n cap]] w fun e w' => Ans (RGS m (solG m C)) (puzB m C) w w' e := iSolutions_any m A n cap C w hl hk
end Go.Proofs.Ytnldodnpakpeeaa

namespace Go.Proofs.Ytnldodnpakpeeaa
open Go.RowKit Vo

set_option maxRecDepth 20000 in
set_option maxHeartbeats 6000000 in
theorem lawSolutions (m : Int) (A : Option Addr) (n cap : Nat) (L : List Clu) (w : World) (hm : n ≤ 9223372036854775807) (hk : KCl w A n L) :
    Calls Try.prog 7 #[.agg #[.int .i64 m, .slice A n cap]] w fun e w' => e = .returned (.bool true) ∧ Below w.heap.size w w' := by
  have HK := Lib.hid hk
  have HLEN := Lib.hid hk.1
  clear hk
  have hx0 := BoxT.new 24 w (.int .i64 m) (.slice A n cap)
  have hb0 := below1 w (.cells #[.int .i64 m, .slice A n cap] 24)
  have HSZ := Lib.hid (fun W => szPuzzle_any (.int .i64 m) A n cap W hm)
  have HTO := Lib.hid (fun W hn h => toPuzzle_any m A n cap L W hn h)
  obtain ⟨M, hM⟩ : ∃ M, M = solG m L := ⟨_, rfl⟩
  have HLM := Lib.hid (show gsz M ≤ 1048576 from by rw [hM]; exact solG_small m L)
  have HM := Lib.hid hM
  clear hM
  obtain ⟨N, hN⟩ : ∃ N : Nat, N = totG M M.length := ⟨_, rfl⟩
  have hNm : N ≤ 3145728 := by have := HLM.out; have := gsz_len this; omega
  have HN := Lib.hid hN
  clear hN
  obtain ⟨ok, hok⟩ : ∃ ok, ok = puzB m L := ⟨_, rfl⟩
  have HOKB := Lib.hid hok
  clear hok
  go_enter Try.func7, Try.ntmps7
  go_wp2_with fail
  refine (HSZ.out _).mono ?_
  rintro e w1 ⟨h, hb1⟩
  rcases h with rfl | ⟨hl, rfl⟩
  · go_wp2
    go_ret
    exact ⟨rfl, bfrom hb0 hb1⟩
  have hge : ¬ 1048576 - (n : Int) < 0 := by omega
  have HLL := Lib.hid (show L.length ≤ 1048576 from by rw [HLEN.out]; exact hl)
  have g1 := bfrom hb0 hb1
  have hx1 := hx0.now hb1
  have hz1 : w.heap.size + 1 ≤ w1.heap.size := by have := hb1.size; simpa using this
  obtain ⟨c0, c1⟩ := hx1.cells
  go_wp2_with fail
  refine (HTO.out _ hl (HK.out.now g1)).mono ?_
  rintro e w2 ⟨rfl, hl2, hb2⟩
  have g2 := bfrom g1 hb2
  have hx2 := hx1.now hb2
  have hz2 := hb2.size
  have HL2 := Lib.hid (show KCl w2 (some ⟨w1.heap.size + 3, 0, none⟩) n L from (Lies.here hl2).kcl)
  clear hl2 c0 c1
  obtain ⟨c0, c1⟩ := hx2.cells
  go_wp2_with fail
  refine (sSolutions_any m _ n n L _ hl (Nat.le_refl _) HL2.out).mono ?_
  rintro e w3 ⟨v3, rfl, hl3, hb3⟩
  rw [← HM.out] at hl3
  rw [← HOKB.out]
  have HH3 := Lib.hid hl3
  have g3 := bfrom g2 hb3
  have hx3 := hx2.now hb3
  have hz3 := hb3.size
  clear hl3 c0 c1
  obtain ⟨c0, c1⟩ := hx3.cells
  go_wp2_with fail
  refine (HTO.out _ hl (HK.out.now g3)).mono ?_
  rintro e w4 ⟨rfl, hl4, hb4⟩
  have hz4 := hl4.hi_le
  have hz4' := hb4.size
  have b4 := below1 w4 (.cells #[.int .i64 m, .slice (some ⟨w3.heap.size + 3, 0, none⟩) n n] 28)
  have g4 := bfrom (bfrom g3 hb4) b4
  have hx4 := (hx3.now hb4).now b4
  have HH34 := Lib.hid ((HH3.out.now hb4).now b4)
  have hy4 := BoxT.new 28 w4 (.int .i64 m) (.slice (some ⟨w3.heap.size + 3, 0, none⟩) n n)
  have HI4 := Lib.hid (hl4.now b4)
  have HL4 := Lib.hid (show KCl _ (some ⟨w3.heap.size + 3, 0, none⟩) n L from ((Lies.here hl4).kcl).now b4)
  clear hl4 c0 c1
  go_wp2_with fail
  refine (iSolutions_p m _ n n L _ hl (Nat.le_refl _) HL4.out).mono ?_
  rintro e w5 ⟨v5, rfl, hl5, hb5⟩
  rw [← HM.out] at hl5
  rw [← HOKB.out]
  have hz5 := hb5.size
  simp only [World.size_alloc] at hl5 hz5
  have b45 := hb5
  have HH5 := Lib.hid hl5
  have g5 := bfrom g4 b45
  have hx5 := hx4.now b45
  have hy5 := hy4.now b45
  have HI5 := Lib.hid (HI4.out.now b45)
  have HH35 := Lib.hid (HH34.out.now b45)
  clear hl5 hx0 hb0 hb1 g1 hx1 hb2 g2 hx2 hb3 HH3 g3 hx3 hb4 b4 g4 hx4 hy4 HH34 hb5 b45 HL2 HL4 HI4 
  go_wp2_with fail
  refine (eqGameS_v _ HLM.out HH5.out HH35.out).mono ?_
  rintro e w6 ⟨rfl, hb6⟩
  have g6 := bfrom g5 hb6
  have hx6 := hx5.now hb6
  have hy6 := hy5.now hb6
  have HI6 := Lib.hid (HI5.out.now hb6)
  have HH36 := Lib.hid (HH35.out.now hb6)
  have HH56 := Lib.hid (HH5.out.now hb6)
  have hz6 := hb6.size
  clear g5 hx5 hy5 HI5 HH35 HH5 hb6 
  obtain ⟨c0, c1⟩ := hx6.cells
  obtain ⟨d0, d1⟩ := hy6.cells
  go_wp2_with fail
  go_region_held3 (fun w' => w'.cell? ⟨w.heap.size, 0, none⟩ = some (.int .i64 m) ∧ w'.cell? ⟨w.heap.size, 1, none⟩ = some (.slice A n cap) ∧ w'.cell? ⟨w4.heap.size, 0, none⟩ = some (.int .i64 m) ∧ w'.cell? ⟨w4.heap.size, 1, none⟩ = some (.slice (some ⟨w3.heap.size + 3, 0, none⟩) n n))
    (first | exact ⟨c0, c1, d0, d1⟩ | exact ⟨c80, c81, d80, d81⟩ | exact ⟨c90, c91, d90, d91⟩ | go_keep)
    (first
      | (go_at_call 12; refine (HTO.out _ hl (HK.out.now g6.drew)).mono ?_; rintro e w7 ⟨rfl, hl7, hb7⟩; have HL7 := Lib.hid hl7; clear hl7; obtain ⟨c80, c81⟩ := (hx6.drew.now hb7).cells; obtain ⟨d80, d81⟩ := (hy6.drew.now hb7).cells)
      | (go_at_call 14; refine (eqPuzzle_v m _ _ n n n _ HLL.out (HI6.out.drew.now hb7) HL7.out).mono ?_; rintro e w8 ⟨rfl, hb8⟩; obtain ⟨c90, c91⟩ := ((hx6.drew.now hb7).now hb8).cells; obtain ⟨d90, d91⟩ := ((hy6.drew.now hb7).now hb8).cells))
  have b68 := bfrom hb7 hb8
  have g8 := bfrom g6.drew b68
  have hx8 := hx6.drew.now b68
  have hy8 := hy6.drew.now b68
  have HI8 := Lib.hid (HI6.out.drew.now b68)
  have HH38 := Lib.hid (HH36.out.drew.now b68)
  have HH58 := Lib.hid (HH56.out.drew.now b68)
  have hz8 : w6.heap.size ≤ w8.heap.size := b68.size
  clear c0 c1 d0 d1 c80 c81 d80 d81 c90 c91 d90 d91 hx6 hy6 HI6 HH36 HH56 hb7 hb8 b68 g6 HL7 
  obtain ⟨d0, d1⟩ := hy8.cells
  go_wp2_with fail
  refine (markPuzzle_v m _ n n _ HLL.out HI8.out).mono ?_
  rw [HLEN.out]
  rintro e w9 ⟨rfl, t9, _⟩
  have hk0 : ¬ (1 + ((3 * n : Nat) : Int)) < 0 := by omega
  have g9 := Turn.below g8 t9 (by omega) (by omega)
  have hx9 := hx8.turn t9 (by omega)
  have HH59 := Lib.hid (HH58.out.turn t9 (by omega))
  have HH39 := Lib.hid (HH38.out.turn t9 (by omega))
  have hz9 := t9.size
  clear t9 hx8 hy8 HI8 HH38 HH58 g8 d0 d1 
  go_wp2_with fail
  refine (eqGameS_v _ HLM.out HH59.out HH39.out).mono ?_
  rintro e w10 ⟨rfl, hb10⟩
  have g10 := bfrom g9 hb10
  have hx10 := hx9.now hb10
  have HH510 := Lib.hid (HH59.out.now hb10)
  have HH310 := Lib.hid (HH39.out.now hb10)
  have hz10 := hb10.size
  clear hx9 HH59 HH39 hb10 g9 
  go_wp2_with fail
  refine (markGameS_v _ HLM.out HH510.out).mono ?_
  rw [← HN.out]
  rintro e w11 ⟨rfl, t11, hmk⟩
  have hh11 := HH510.out.hi_le
  have hz11 := t11.size
  have HMK := Lib.hid (hmk.lies (by omega))
  have g11 := Turn.below g10 t11 (by omega) (by omega)
  have hx11 := hx10.turn t11 (by omega)
  have HH311 := Lib.hid (HH310.out.turn t11 (by omega))
  clear hmk t11 hx10 HH510 HH310 g10 hh11 
  go_wp2_with fail
  refine (heldGameS_v _ HLM.out HMK.out).mono ?_
  rw [← HN.out]
  rintro e w12 ⟨rfl, hb12⟩
  have g12 := bfrom g11 hb12
  have hx12 := hx11.now hb12
  have HH312 := Lib.hid (HH311.out.now hb12)
  have HMK12 := Lib.hid (HMK.out.now hb12)
  clear g11 hx11 HH311 HMK hb12 
  obtain ⟨c0, c1⟩ := hx12.cells
  go_wp2_with fail
  refine (HTO.out _ hl (HK.out.now g12)).mono ?_
  rintro e w13 ⟨rfl, hl13, hb13⟩
  have HL13 := Lib.hid (show KCl w13 (some ⟨w12.heap.size + 3, 0, none⟩) n L from (Lies.here hl13).kcl)
  clear hl13 c0 c1
  go_wp2_with fail
  refine (iSolutions_p m _ n n L _ hl (Nat.le_refl _) HL13.out).mono ?_
  rintro e w14 ⟨v14, rfl, hl14, hb14⟩
  rw [← HM.out] at hl14
  rw [← HOKB.out]
  have b124 := bfrom hb13 hb14
  have HH14 := Lib.hid hl14
  have g14 := bfrom g12 b124
  have HH314 := Lib.hid (HH312.out.now b124)
  have HMK14 := Lib.hid (HMK12.out.now b124)
  clear hl14 hb13 hb14 b124 g12 hx12 HH312 HMK12 HL13 
  go_wp2_with fail
  refine (eqGameS_v _ HLM.out HH14.out HH314.out).mono ?_
  rintro e w15 ⟨rfl, hb15⟩
  have g15 := bfrom g14 hb15
  have HMK15 := Lib.hid (HMK14.out.now hb15)
  go_wp2_with fail
  refine (heldGameS_v _ HLM.out HMK15.out).mono ?_
  rw [← HN.out]
  rintro e w16 ⟨rfl, hb16⟩
  go_wp2
  go_ret
  exact ⟨rfl, bfrom g15 hb16⟩

end Go.Proofs.Ytnldodnpakpeeaa
