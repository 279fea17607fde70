/- Games that are marked from any number on; sums of lists. -/
import Derived.Test.YtipplbcjdcdapaaK4
namespace Go.Proofs.Ytipplbcjdcdapaa
open Go.RowKit Vo

set_option maxRecDepth 20000 in
set_option maxHeartbeats 4000000 in
theorem markIntSS_at (g n c lo hi : Nat) (L : List (List Int)) (f : Nat → Value) (G : Nat → Nat) (kk : Int) (w : World) (h0 : 0 ≤ kk) (hn : n = L.length) (hmk : kk + (tot L : Nat) + n ≤ 1048577) (hm : tot L + n ≤ 1048576) (hh : hi ≤ w.heap.size) (hx : Own w g 22 n f)
    (hr : ∀ i, i < n → RI (L.getD i []) (G i) (G i + 1) (f i) w ∧ ((L.getD i []).length = 0 ∨ (lo ≤ G i ∧ G i < hi ∧ G i ≠ g ∧ ∀ j, j < i → (L.getD j []).length = 0 ∨ G j ≠ G i))) :
    Calls Try.prog 29 #[.slice (some ⟨g, 0, none⟩) n c, .int .i64 kk] w fun e w' => e = .returned (.int .i64 (kk + (tot L : Nat))) ∧ Turn lo hi w w' ∧ Own w' g 22 n f ∧ ∀ i, i < n → MS (L.getD i []) lo hi (kk + (totK L i : Nat)) (f i) w' := by
  have HX := Lib.hid hx
  have hgl := hx.lt
  have HR := Lib.hid hr
  have HT := Lib.hid (show totK L n = tot L from by rw [hn]; rfl)
  have HP := Lib.hid (fun i (hi : i < n) => tot_parts L hn hi hm)
  have HPK := Lib.hid (show ∀ i, i ≤ n → totK L i ≤ tot L from fun i hi => by rw [show tot L = totK L n from by rw [hn]; rfl]; exact totK_le L hi)
  clear hx hr hn
  go_enter Try.func29, Try.ntmps29
  go_wp2
  go_loopw [1, 5] (fun q i wr => ∃ k : Nat, k ≤ n ∧ i = .int .i64 k ∧ q = .int .i64 (kk + (totK L k : Nat)) ∧ Own wr g 22 n f ∧ Turn lo hi w wr ∧ (∀ i, i < k → MS (L.getD i []) (G i) (G i + 1) (kk + (totK L i : Nat)) (f i) wr) ∧ (∀ i, k ≤ i → i < n → RI (L.getD i []) (G i) (G i + 1) (f i) wr)) (fun _ i _ => n - (intOf i).toNat)
  case atStart => exact ⟨0, Nat.zero_le _, rfl, by simp [totK], HX.out, Turn.refl _ _ _, fun i h => by omega, fun i _ h => (HR.out i h).1⟩
  case round =>
    obtain ⟨k, hk, rfl, rfl, hown, hturn, hms, hri⟩ := hrel
    have HO := Lib.hid hown
    have HTU := Lib.hid hturn
    have HMS := Lib.hid hms
    have HRI := Lib.hid hri
    have hszr := hturn.size
    clear hown hturn hms hri
    by_cases hlt : k < n
    · have hcell := HO.out.cell hlt
      have hgr := HO.out.lt
      have HS := Lib.hid (show totK L (k+1) = totK L k + (L.getD k []).length from rfl)
      have hpk := HP.out k hlt
      have hpq := HPK.out k (by omega)
      have hrk := HRI.out k (Nat.le_refl _) hlt
      have hgk := (HR.out k hlt).2
      by_cases hz : (L.getD k []).length = 0
      · obtain ⟨a, c2, hfk, _⟩ := hrk
        have HFK := Lib.hid hfk
        rw [hfk, hz] at hcell
        rw [hz] at HS
        have HMK := Lib.hid (show MS (L.getD k []) (G k) (G k + 1) (kk + (totK L k : Nat)) (f k) wr from ⟨a, c2, hfk, Or.inl hz⟩)
        clear hfk hgk hz
        go_wp2_with (go_at_call 52; refine (markIntS_zero a c2 _ _).mono ?_; rintro e w2 ⟨rfl, rfl⟩)
        go_roundw
        case rel =>
          refine ⟨k + 1, by omega, by go_num, by rw [HS.out]; simp, HO.out, HTU.out, fun i hi => ?_, fun i h1 h2 => HRI.out i (by omega) h2⟩
          by_cases e : i = k
          · subst e; exact HMK.out
          · exact HMS.out i (by omega)
        case measure => simp [intOf]; omega
      · have hgk' : lo ≤ G k ∧ G k < hi ∧ G k ≠ g ∧ ∀ j, j < k → (L.getD j []).length = 0 ∨ G j ≠ G k := by
          rcases hgk with h | h
          · exact absurd h hz
          · exact h
        have HGK := Lib.hid hgk'
        have HMARK := Lib.hid (markIntS_v (kk + (totK L k : Nat)) wr (by omega) (by omega) (by omega) hrk)
        obtain ⟨a, c2, hfk, _⟩ := hrk
        have HFK := Lib.hid hfk
        rw [hfk] at hcell HMARK
        have HGO := Lib.hid (show ∀ j, j < n → k < j → (L.getD j []).length = 0 ∨ G j ≠ G k from fun j hj hkj => by
          rcases (HR.out j hj).2 with h | h
          · exact Or.inl h
          · rcases h.2.2.2 k hkj with h0 | h0
            · exact absurd h0 hz
            · exact Or.inr (fun e => h0 e.symm))
        have HGS := Lib.hid (show ∀ j, j < n → (L.getD j []).length = 0 ∨ G j < wr.heap.size from fun j hj => by
          rcases (HR.out j hj).2 with h | h
          · exact Or.inl h
          · exact Or.inr (by omega))
        clear hfk hgk hgk' hz
        go_wp2_with (go_at_call 52; refine HMARK.out.mono ?_; rintro e w2 ⟨rfl, ht2, hm2⟩)
        have HO2 := Lib.hid (HO.out.turn ht2 (by have := HGK.out.2.2.1; omega))
        have HT2 := Lib.hid (show Turn lo hi w w2 from HTU.out.trans ⟨ht2.os, ht2.tape, ht2.output, ht2.size, fun j hj ho => ht2.block j hj (by have := HGK.out; omega)⟩)
        go_roundw
        case rel =>
          refine ⟨k + 1, by omega, by go_num, by rw [HS.out]; first | (congr 1; omega) | (simp; omega), HO2.out, HT2.out, fun i hi => ?_, fun i h1 h2 => ?_⟩
          · by_cases e : i = k
            · subst e; rw [HFK.out]; exact hm2
            · refine (HMS.out i (by omega)).keep ?_
              rcases HGK.out.2.2.2 i (by omega) with h | h
              · exact Or.inl h
              · rcases HGS.out i (by omega) with h0 | h0
                · exact Or.inl h0
                · exact Or.inr fun b b1 b2 => ht2.block b (by omega) (by omega)
          · refine (HRI.out i (by omega) h2).keep ?_
            rcases HGO.out i h2 (by omega) with h | h
            · exact Or.inl h
            · rcases HGS.out i h2 with h0 | h0
              · exact Or.inl h0
              · exact Or.inr fun b b1 b2 => ht2.block b (by omega) (by omega)
        case measure => simp [intOf]; omega
    · obtain rfl : n = k := by omega
      go_wp2
      go_ret
      refine ⟨by rw [HT.out]; rfl, HTU.out, HO.out, fun i hi => (HMS.out i hi).wide ?_⟩
      rcases (HR.out i hi).2 with h | h
      · exact Or.inl h
      · exact Or.inr ⟨h.1, h.2.1⟩

theorem markIntSS_w {L : List (List Int)} {lo hi : Nat} {v : Value} (kk : Int) (w : World) (h0 : 0 ≤ kk) (hmk : kk + (tot L : Nat) + L.length ≤ 1048577) (hn : tot L + L.length ≤ 1048576) (h : Lies (RSS L lo hi v) lo hi w) :
    Calls Try.prog 29 #[v, .int .i64 kk] w fun e w' => e = .returned (.int .i64 (kk + (tot L : Nat))) ∧ Turn lo hi w w' := by
  have hh := h.hi_le
  have r1 := Lies.here h
  clear h
  obtain ⟨A, cap, rfl, h⟩ := r1
  rcases h with hz | ⟨g, f, rfl, h1, h2, ho, G, h⟩
  · have e0 : tot L = 0 := by unfold tot; rw [hz]; rfl
    rw [hz, e0]
    refine (markIntSS_zero A cap kk w).mono ?_
    rintro e w' ⟨rfl, rfl⟩
    exact ⟨by simp, Turn.refl _ _ _⟩
  · refine (markIntSS_at g L.length cap lo hi L f G kk w h0 rfl hmk hn hh ho h).mono ?_
    rintro e w' ⟨rfl, ht, ho', hm⟩
    exact ⟨rfl, ht⟩

set_option maxHeartbeats 1000000 in
theorem markGame_w (m : Int) {L : List (List Int)} {lo hi : Nat} (A : Option Addr) (n c : Nat) (kk : Int) (w : World) (h0 : 0 ≤ kk) (hmk : kk + (tot L : Nat) + L.length ≤ 1048577) (hm : tot L + L.length ≤ 1048576) (h : Lies (RSS L lo hi (.slice A n c)) lo hi w) :
    Calls Try.prog 22 #[.agg #[.int .i64 m, .slice A n c], .int .i64 kk] w fun e w' => e = .returned (.int .i64 (kk + (tot L : Nat))) ∧ Turn lo hi w w' := by
  have H := Lib.hid (fun (v : Value) (W : World) (h : Lies (RSS L lo hi v) lo hi W) => markIntSS_w kk W h0 hmk hm h)
  have HH := Lib.hid h
  clear h hmk hm
  obtain ⟨N, hN⟩ : ∃ N, N = tot L := ⟨_, rfl⟩
  rw [← hN] at H ⊢
  clear hN
  go_enter Try.func22, Try.ntmps22
  go_wp2_with fail
  refine (H.out _ _ (HH.out.alloc _)).mono ?_
  rintro e w1 ⟨rfl, ht⟩
  have HT := Lib.hid ht
  clear ht
  go_wp2
  go_ret
  exact ⟨rfl, (Turn.of_below (below1 w _)).trans HT.out⟩
end Go.Proofs.Ytipplbcjdcdapaa
