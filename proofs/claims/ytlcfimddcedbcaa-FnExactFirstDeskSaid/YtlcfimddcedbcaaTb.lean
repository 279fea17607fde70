/- Marks of lists that begin with any number; FirstDesk. -/
import Derived.Test.YtlcfimddcedbcaaTa
import Derived.Test.YtlcfimddcedbcaaK4
namespace Go.Proofs.Ytlcfimddcedbcaa
open Go.RowKit Vo

set_option maxRecDepth 20000 in
set_option maxHeartbeats 4000000 in
theorem markIntSS_ink (kk : Int) (hk0 : 0 ≤ kk) (hk1 : kk ≤ 1000) (g n c lo hi : Nat) (L : List (List Int)) (f : Nat → Value) (G : Nat → Nat) (w : World) (hsm : ∀ i, totK L i + (L.getD i []).length ≤ 1000) (hn : n = L.length) (hm : tot L + n ≤ 1048576) (hh : hi ≤ w.heap.size) (hx : Own w g 22 n f)
    (hr : ∀ i, i < n → RI (L.getD i []) (G i) (G i + 1) (f i) w ∧ ((L.getD i []).length = 0 ∨ (lo ≤ G i ∧ G i < hi ∧ G i ≠ g ∧ ∀ j, j < i → (L.getD j []).length = 0 ∨ G j ≠ G i))) :
    Calls Try.prog 102 #[.slice (some ⟨g, 0, none⟩) n c, .int .i64 kk] w fun e w' => e = .returned (.int .i64 (kk + (tot L : Nat))) ∧ Turn lo hi w w' ∧ Own w' g 22 n f ∧ ∀ i, i < n → MS (L.getD i []) lo hi (kk + (totK L i : Nat)) (f i) w' := by
  have HX := Lib.hid hx
  have hgl := hx.lt
  have HR := Lib.hid hr
  have HT := Lib.hid (show totK L n = tot L from by rw [hn]; rfl)
  have HP := Lib.hid (fun i (hi : i < n) => tot_parts L hn hi hm)
  have HSM := Lib.hid hsm
  clear hsm
  clear hx hr hn
  go_enter Try.func102, Try.ntmps102
  go_wp2
  go_loopw [1, 5] (fun q i wr => ∃ k : Nat, k ≤ n ∧ i = .int .i64 k ∧ q = .int .i64 (kk + (totK L k : Nat)) ∧ Own wr g 22 n f ∧ Turn lo hi w wr ∧ (∀ i, i < k → MS (L.getD i []) (G i) (G i + 1) (kk + (totK L i : Nat)) (f i) wr) ∧ (∀ i, k ≤ i → i < n → RI (L.getD i []) (G i) (G i + 1) (f i) wr)) (fun _ i _ => n - (intOf i).toNat)
  case atStart => exact ⟨0, Nat.zero_le _, rfl, by simp [totK], HX.out, Turn.refl _ _ _, fun i h => by omega, fun i _ h => (HR.out i h).1⟩
  case round =>
    obtain ⟨k, hk, rfl, rfl, hown, hturn, hms, hri⟩ := hrel
    have HO := Lib.hid hown
    have HTU := Lib.hid hturn
    have HMS := Lib.hid hms
    have HRI := Lib.hid hri
    have hszr := hturn.size
    clear hown hturn hms hri
    by_cases hlt : k < n
    · have hcell := HO.out.cell hlt
      have hgr := HO.out.lt
      have HS := Lib.hid (show totK L (k+1) = totK L k + (L.getD k []).length from rfl)
      have hpk := HP.out k hlt
      have hpk2 := HSM.out k
      have hrk := HRI.out k (Nat.le_refl _) hlt
      have hgk := (HR.out k hlt).2
      by_cases hz : (L.getD k []).length = 0
      · obtain ⟨a, c2, hfk, _⟩ := hrk
        have HFK := Lib.hid hfk
        rw [hfk, hz] at hcell
        rw [hz] at HS
        have HMK := Lib.hid (show MS (L.getD k []) (G k) (G k + 1) (kk + (totK L k : Nat)) (f k) wr from ⟨a, c2, hfk, Or.inl hz⟩)
        clear hfk hgk hz
        go_wp2_with (go_at_call 34; refine (markIntS_zero a c2 _ _).mono ?_; rintro e w2 ⟨rfl, rfl⟩)
        go_roundw
        case rel =>
          refine ⟨k + 1, by omega, by go_num, by rw [HS.out]; simp, HO.out, HTU.out, fun i hi => ?_, fun i h1 h2 => HRI.out i (by omega) h2⟩
          by_cases e : i = k
          · subst e; exact HMK.out
          · exact HMS.out i (by omega)
        case measure => simp [intOf]; omega
      · have hgk' : lo ≤ G k ∧ G k < hi ∧ G k ≠ g ∧ ∀ j, j < k → (L.getD j []).length = 0 ∨ G j ≠ G k := by
          rcases hgk with h | h
          · exact absurd h hz
          · exact h
        have HGK := Lib.hid hgk'
        have HMARK := Lib.hid (markIntS_v (kk + (totK L k : Nat)) wr (by omega) (by omega) (by omega) hrk)
        obtain ⟨a, c2, hfk, _⟩ := hrk
        have HFK := Lib.hid hfk
        rw [hfk] at hcell HMARK
        have HGO := Lib.hid (show ∀ j, j < n → k < j → (L.getD j []).length = 0 ∨ G j ≠ G k from fun j hj hkj => by
          rcases (HR.out j hj).2 with h | h
          · exact Or.inl h
          · rcases h.2.2.2 k hkj with h0 | h0
            · exact absurd h0 hz
            · exact Or.inr (fun e => h0 e.symm))
        have HGS := Lib.hid (show ∀ j, j < n → (L.getD j []).length = 0 ∨ G j < wr.heap.size from fun j hj => by
          rcases (HR.out j hj).2 with h | h
          · exact Or.inl h
          · exact Or.inr (by omega))
        clear hfk hgk hgk' hz
        go_wp2_with (go_at_call 34; refine HMARK.out.mono ?_; rintro e w2 ⟨rfl, ht2, hm2⟩)
        have HO2 := Lib.hid (HO.out.turn ht2 (by have := HGK.out.2.2.1; omega))
        have HT2 := Lib.hid (show Turn lo hi w w2 from HTU.out.trans ⟨ht2.os, ht2.tape, ht2.output, ht2.size, fun j hj ho => ht2.block j hj (by have := HGK.out; omega)⟩)
        go_roundw
        case rel =>
          refine ⟨k + 1, by omega, by go_num, by rw [HS.out]; first | (congr 1; omega) | (simp; omega), HO2.out, HT2.out, fun i hi => ?_, fun i h1 h2 => ?_⟩
          · by_cases e : i = k
            · subst e; rw [HFK.out]; exact hm2
            · refine (HMS.out i (by omega)).keep ?_
              rcases HGK.out.2.2.2 i (by omega) with h | h
              · exact Or.inl h
              · rcases HGS.out i (by omega) with h0 | h0
                · exact Or.inl h0
                · exact Or.inr fun b b1 b2 => ht2.block b (by omega) (by omega)
          · refine (HRI.out i (by omega) h2).keep ?_
            rcases HGO.out i h2 (by omega) with h | h
            · exact Or.inl h
            · rcases HGS.out i h2 with h0 | h0
              · exact Or.inl h0
              · exact Or.inr fun b b1 b2 => ht2.block b (by omega) (by omega)
        case measure => simp [intOf]; omega
    · obtain rfl : n = k := by omega
      go_wp2
      go_ret
      refine ⟨by rw [HT.out]; rfl, HTU.out, HO.out, fun i hi => (HMS.out i hi).wide ?_⟩
      rcases (HR.out i hi).2 with h | h
      · exact Or.inl h
      · exact Or.inr ⟨h.1, h.2.1⟩

set_option maxHeartbeats 4000000 in
theorem heldIntSS_ink (kk : Int) (hk0 : 0 ≤ kk) (hk1 : kk ≤ 1000) (g n c lo hi : Nat) (L : List (List Int)) (f : Nat → Value) (w : World) (hsm : ∀ i, totK L i + (L.getD i []).length ≤ 1000) (hn : n = L.length) (hm : tot L + n ≤ 1048576) (hh : hi ≤ w.heap.size) (hx : Own w g 22 n f)
    (hr : ∀ i, i < n → MS (L.getD i []) lo hi (kk + (totK L i : Nat)) (f i) w) :
    Calls Try.prog 103 #[.slice (some ⟨g, 0, none⟩) n c, .int .i64 kk] w fun e w' => e = .returned (.int .i64 (kk + (tot L : Nat))) ∧ Below w.heap.size w w' := by
  have HX := Lib.hid hx
  have hgl := hx.lt
  have HR := Lib.hid hr
  have HT := Lib.hid (show totK L n = tot L from by rw [hn]; rfl)
  have HP := Lib.hid (fun i (hi : i < n) => tot_parts L hn hi hm)
  have HSM := Lib.hid hsm
  clear hsm
  clear hx hr hn
  go_enter Try.func103, Try.ntmps103
  go_wp2
  go_loopw [1, 5] (fun q i wr => ∃ k : Nat, k ≤ n ∧ i = .int .i64 k ∧ q = .int .i64 (kk + (totK L k : Nat)) ∧ Below w.heap.size w wr) (fun _ i _ => n - (intOf i).toNat)
  case atStart => exact ⟨0, Nat.zero_le _, rfl, by simp [totK], Below.refl _ _⟩
  case round =>
    obtain ⟨k, hk, rfl, rfl, hb⟩ := hrel
    by_cases hlt : k < n
    · have hcell := (HX.out.below hb hgl).cell hlt
      have hgr : g < wr.heap.size := Nat.lt_of_lt_of_le hgl hb.size
      have HS := Lib.hid (show totK L (k+1) = totK L k + (L.getD k []).length from rfl)
      have hpk := HP.out k hlt
      have hpk2 := HSM.out k
      have hrk := (HR.out k hlt).keep (w' := wr) (Or.inr fun j _ j2 => hb.block j (by omega))
      have HHELD := Lib.hid (heldIntS_v (kk + (totK L k : Nat)) wr (by omega) (by omega) (by omega) hrk)
      obtain ⟨a, c2, hfk, _⟩ := hrk
      rw [hfk] at hcell HHELD
      clear hfk
      go_wp2_with (go_at_call 35; refine HHELD.out.mono ?_; rintro e w2 ⟨rfl, hb2⟩)
      go_roundw
      case rel => exact ⟨k + 1, by omega, by go_num, by rw [HS.out]; first | (congr 1; omega) | (simp; omega), hb.trans (hb2.mono hb.size)⟩
      case measure => simp [intOf]; omega
    · obtain rfl : n = k := by omega
      go_wp2
      go_ret
      exact ⟨by rw [HT.out]; rfl, hb⟩

theorem markIntSS_k (kk : Int) (hk0 : 0 ≤ kk) (hk1 : kk ≤ 1000) {L : List (List Int)} {lo hi : Nat} {v : Value} (w : World) (hsm : ∀ i, totK L i + (L.getD i []).length ≤ 1000) (hn : tot L + L.length ≤ 1048576) (h : Lies (RSS L lo hi v) lo hi w) :
    Calls Try.prog 102 #[v, .int .i64 kk] w fun e w' => e = .returned (.int .i64 (kk + (tot L : Nat))) ∧ Turn lo hi w w' ∧ MSS L lo hi kk v w' := by
  have hh := h.hi_le
  have r1 := Lies.here h
  clear h
  obtain ⟨A, cap, rfl, h⟩ := r1
  rcases h with hz | ⟨g, f, rfl, h1, h2, ho, G, h⟩
  · have e0 : tot L = 0 := by unfold tot; rw [hz]; rfl
    rw [hz, e0]
    refine (markIntSS_zero A cap kk w).mono ?_
    rintro e w' ⟨rfl, rfl⟩
    exact ⟨by simp, Turn.refl _ _ _, A, cap, by rw [hz], Or.inl hz⟩
  · refine (markIntSS_ink kk hk0 hk1 g L.length cap lo hi L f G w hsm rfl hn hh ho h).mono ?_
    rintro e w' ⟨rfl, ht, ho', hm⟩
    exact ⟨rfl, ht, _, cap, rfl, Or.inr ⟨g, f, rfl, h1, h2, ho', hm⟩⟩
theorem heldIntSS_k (kk : Int) (hk0 : 0 ≤ kk) (hk1 : kk ≤ 1000) {L : List (List Int)} {lo hi : Nat} {v : Value} (w : World) (hsm : ∀ i, totK L i + (L.getD i []).length ≤ 1000) (hn : tot L + L.length ≤ 1048576) (h : Lies (MSS L lo hi kk v) lo hi w) :
    Calls Try.prog 103 #[v, .int .i64 kk] w fun e w' => e = .returned (.int .i64 (kk + (tot L : Nat))) ∧ Below w.heap.size w w' := by
  have hh := h.hi_le
  have r1 := Lies.here h
  clear h
  obtain ⟨A, cap, rfl, h⟩ := r1
  rcases h with hz | ⟨g, f, rfl, h1, h2, ho, h⟩
  · have e0 : tot L = 0 := by unfold tot; rw [hz]; rfl
    rw [hz, e0]
    refine (heldIntSS_zero A cap kk w).mono ?_
    rintro e w' ⟨rfl, rfl⟩
    exact ⟨by simp, Below.refl _ _⟩
  · exact heldIntSS_ink kk hk0 hk1 g L.length cap lo hi L f w hsm rfl hn hh ho h

/-- The first desk's lists. -/
def fdW : List Int := [3, 2, 2, 1]
def fdL : List (List Int) := [[0, 1], [2, 3]]
theorem fd_tot : tot fdL = 4 := rfl
theorem fd_few : ∀ i, totK fdL i + (fdL.getD i []).length ≤ 1000 := by
  have h : ∀ i, 2 ≤ i → totK fdL i = 4 ∧ (fdL.getD i []).length = 0 := by
    intro i hi
    induction i with
    | zero => omega
    | succ i ih =>
      by_cases e : i = 1
      · subst e; exact ⟨rfl, rfl⟩
      · have h1 := ih (by omega)
        refine ⟨?_, by
          rw [List.getD_eq_getElem?_getD, List.getElem?_eq_none (by show 2 ≤ i + 1; omega)]; rfl⟩
        show totK fdL i + (fdL.getD i []).length = 4
        omega
  intro i
  by_cases h0 : i = 0
  · subst h0; decide
  · by_cases h1 : i = 1
    · subst h1; decide
    · have := h i (by omega); omega
/-- The first desk, in memory of the call's own: the weights in block a, the lists in lo .. hi. -/
def AnsF (R : List (List Int) → Nat → Nat → Value → World → Prop) (w w' : World) (e : Ending) : Prop :=
  ∃ a d lo hi, e = .returned (.agg #[.int .i64 5, .slice (some ⟨a, 0, none⟩) 4 4, .int .i64 4, .slice (some ⟨d, 0, none⟩) 2 2]) ∧ w.heap.size ≤ a ∧ a < lo ∧ lo < hi ∧ Ints w' a 4 fdW ∧ Lies (R fdL lo hi (.slice (some ⟨d, 0, none⟩) 2 2)) lo hi w' ∧ Below w.heap.size w w'
theorem heap4 (w : World) (o0 A B C D : Obj) :
    (((((w.alloc o0).alloc A).alloc B).alloc C).alloc D).heap[w.heap.size + 1]? = some A ∧ (((((w.alloc o0).alloc A).alloc B).alloc C).alloc D).heap[w.heap.size + 2]? = some B ∧ (((((w.alloc o0).alloc A).alloc B).alloc C).alloc D).heap[w.heap.size + 3]? = some C ∧ (((((w.alloc o0).alloc A).alloc B).alloc C).alloc D).heap[w.heap.size + 4]? = some D := by
  have s1 : (w.alloc o0).heap.size = w.heap.size + 1 := by simp
  have s2 : ((w.alloc o0).alloc A).heap.size = w.heap.size + 2 := by simp
  have s3 : (((w.alloc o0).alloc A).alloc B).heap.size = w.heap.size + 3 := by simp
  have s4 : ((((w.alloc o0).alloc A).alloc B).alloc C).heap.size = w.heap.size + 4 := by simp
  have e1 := heap_alloc_new (w.alloc o0) A
  have e2 := heap_alloc_new ((w.alloc o0).alloc A) B
  have e3 := heap_alloc_new (((w.alloc o0).alloc A).alloc B) C
  have e4 := heap_alloc_new ((((w.alloc o0).alloc A).alloc B).alloc C) D
  rw [s1] at e1
  rw [s2] at e2
  rw [s3] at e3
  rw [s4] at e4
  have u1 := Below.heap_alloc ((w.alloc o0).alloc A) B (w.heap.size + 1) (by rw [s2]; omega)
  have u2 := Below.heap_alloc (((w.alloc o0).alloc A).alloc B) C (w.heap.size + 1) (by rw [s3]; omega)
  have u3 := Below.heap_alloc ((((w.alloc o0).alloc A).alloc B).alloc C) D (w.heap.size + 1) (by rw [s4]; omega)
  have v2 := Below.heap_alloc (((w.alloc o0).alloc A).alloc B) C (w.heap.size + 2) (by rw [s3]; omega)
  have v3 := Below.heap_alloc ((((w.alloc o0).alloc A).alloc B).alloc C) D (w.heap.size + 2) (by rw [s4]; omega)
  have x3 := Below.heap_alloc ((((w.alloc o0).alloc A).alloc B).alloc C) D (w.heap.size + 3) (by rw [s4]; omega)
  exact ⟨u3.trans (u2.trans (u1.trans e1)), v3.trans (v2.trans e2), x3.trans e3, e4⟩
theorem fd_answer (w : World) (o0 : Obj) (W : World) (hW : W = ((((w.alloc o0).alloc (.cells #[.int .i64 3, .int .i64 2, .int .i64 2, .int .i64 1] 3)).alloc (.cells #[.int .i64 0, .int .i64 1] 3)).alloc (.cells #[.int .i64 2, .int .i64 3] 3)).alloc (.cells #[.slice (some ⟨w.heap.size + 1 + 1, 0, none⟩) 2 2, .slice (some ⟨w.heap.size + 1 + 1 + 1, 0, none⟩) 2 2] 22)) :
    AnsF RSS w W (.returned (.agg #[.int .i64 5, .slice (some ⟨w.heap.size + 1, 0, none⟩) 4 4, .int .i64 4, .slice (some ⟨w.heap.size + 1 + 1 + 1 + 1, 0, none⟩) 2 2])) := by
  have hs : W.heap.size = w.heap.size + 5 := by rw [hW]; simp
  have hb : Below w.heap.size w W := by
    rw [hW]
    exact (((((below1 w o0).alloc (by simp) _).alloc (by simp; omega) _).alloc (by simp; omega) _).alloc (by simp; omega) _)
  have h1 : W.heap[w.heap.size + 1]? = some (.cells #[.int .i64 3, .int .i64 2, .int .i64 2, .int .i64 1] 3) := by rw [hW]; exact (heap4 w o0 _ _ _ _).1
  have h2 : W.heap[w.heap.size + 2]? = some (.cells #[.int .i64 0, .int .i64 1] 3) := by rw [hW]; exact (heap4 w o0 _ _ _ _).2.1
  have h3 : W.heap[w.heap.size + 3]? = some (.cells #[.int .i64 2, .int .i64 3] 3) := by rw [hW]; exact (heap4 w o0 _ _ _ _).2.2.1
  have h4 : W.heap[w.heap.size + 4]? = some (.cells #[.slice (some ⟨w.heap.size + 1 + 1, 0, none⟩) 2 2, .slice (some ⟨w.heap.size + 1 + 1 + 1, 0, none⟩) 2 2] 22) := by rw [hW]; exact (heap4 w o0 _ _ _ _).2.2.2
  have i1 : Ints W (w.heap.size + 1) 4 fdW := ⟨_, h1, by simp, fun i hi => by
    have : i = 0 ∨ i = 1 ∨ i = 2 ∨ i = 3 := by omega
    rcases this with rfl | rfl | rfl | rfl <;> rfl⟩
  have i2 : Ints W (w.heap.size + 2) 2 [0, 1] := ⟨_, h2, by simp, fun i hi => by
    have : i = 0 ∨ i = 1 := by omega
    rcases this with rfl | rfl <;> rfl⟩
  have i3 : Ints W (w.heap.size + 3) 2 [2, 3] := ⟨_, h3, by simp, fun i hi => by
    have : i = 0 ∨ i = 1 := by omega
    rcases this with rfl | rfl <;> rfl⟩
  have i4 : Own W (w.heap.size + 4) 22 2 (fun i => .slice (some ⟨w.heap.size + 2 + i, 0, none⟩) 2 2) := ⟨_, h4, by simp, fun i hi => by
    have : i = 0 ∨ i = 1 := by omega
    rcases this with rfl | rfl <;> rfl⟩
  refine ⟨w.heap.size + 1, w.heap.size + 4, w.heap.size + 2, w.heap.size + 5, rfl, by omega, by omega, by omega, i1, RSS.lies ⟨_, _, rfl, Or.inr ⟨w.heap.size + 4, _, rfl, by omega, by omega, i4, fun i => w.heap.size + 2 + i, fun i hi => ?_⟩⟩ (by omega), hb⟩
  have hi : i = 0 ∨ i = 1 := by have : i < 2 := hi; omega
  rcases hi with rfl | rfl
  · exact ⟨⟨_, _, rfl, Or.inr ⟨w.heap.size + 2, rfl, by dsimp only; omega, by dsimp only; omega, i2⟩⟩, Or.inr ⟨by dsimp only; omega, by dsimp only; omega, by dsimp only; omega, fun j hj => by omega⟩⟩
  · exact ⟨⟨_, _, rfl, Or.inr ⟨w.heap.size + 3, rfl, by dsimp only; omega, by dsimp only; omega, i3⟩⟩, Or.inr ⟨by dsimp only; omega, by dsimp only; omega, by dsimp only; omega, fun j hj => Or.inr (by dsimp only; omega)⟩⟩
set_option maxRecDepth 20000 in
set_option maxHeartbeats 2000000 in
theorem iFirstDesk_any (w : World) : Calls Try.prog 15 #[] w fun e w' => AnsF RSS w w' e := by
  go_enter Try.func15, Try.ntmps15
  go_wp2
  refine bodyPost_ret (v := .agg #[.int .i64 5, .slice (some ⟨w.heap.size + 1, 0, none⟩) 4 4, .int .i64 4, .slice (some ⟨w.heap.size + 1 + 1 + 1 + 1, 0, none⟩) 2 2]) (by simp [results, Try.results15, go_sem]) rfl ?_
  exact fd_answer w _ _ rfl
set_option maxRecDepth 20000 in
set_option maxHeartbeats 2000000 in
theorem sFirstDesk_any (w : World) : Calls Try.prog 14 #[] w fun e w' => AnsF RSS w w' e := by
  go_enter Try.func14, Try.ntmps14
  go_wp2
  refine bodyPost_ret (v := .agg #[.int .i64 5, .slice (some ⟨w.heap.size + 1, 0, none⟩) 4 4, .int .i64 4, .slice (some ⟨w.heap.size + 1 + 1 + 1 + 1, 0, none⟩) 2 2]) (by simp [results, Try.results14, go_sem]) rfl ?_
  exact fd_answer w _ _ rfl
end Go.Proofs.Ytlcfimddcedbcaa
