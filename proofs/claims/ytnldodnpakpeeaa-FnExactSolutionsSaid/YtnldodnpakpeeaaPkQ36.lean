/- Texts of Gk. -/
import Derived.Test.YtnldodnpakpeeaaPkQ35
import Derived.Deep.RegionHeld3
import Derived.Outline
namespace Go.Proofs.Ytnldodnpakpeeaa
open Go.RowKit Vo

theorem box_put_ {t : TypeId} {w : World} {g : Nat} {u v : Value} (h : BoxT t w g u v) (a b : Value) : BoxT t ((w.setCell ⟨g, 0, none⟩ a).setCell ⟨g, 1, none⟩ b) g a b := by
  unfold BoxT at *
  simp [World.setCell, Array.getElem?_modify, h]
theorem box_soft {t : TypeId} {w : World} {g : Nat} {u v : Value} (h : BoxT t w g u v) : w.frozen? ⟨g, 0, none⟩ = false ∧ w.frozen? ⟨g, 1, none⟩ = false := by
  unfold BoxT at h; exact ⟨by simp [World.frozen?, h], by simp [World.frozen?, h]⟩
theorem owns_base {w : World} {base base' : Nat} {e : TypeId} {size : Nat} {v : Value} {n : Nat} {xs : List Value} (h : w.ownsRow base e size v n xs) (hb : base' ≤ base) : w.ownsRow base' e size v n xs := by
  obtain ⟨h1, h2⟩ := h
  refine ⟨h1, ?_⟩
  rcases h2 with h2 | ⟨g', cap', cur, hv, hg, hh, r⟩
  · exact Or.inl h2
  · exact Or.inr ⟨g', cap', cur, hv, Nat.le_trans hb hg, hh, r⟩
theorem owns_farG {w : World} {base : Nat} {e : TypeId} {size : Nat} {g n m cap : Nat} {xs : List Value} (h : w.ownsRow base e size (.slice (some ⟨g, 0, none⟩) n cap) m xs) {p : Addr} (hp : g ≠ p.block) (u : Value) : (w.setCell p u).ownsRow base e size (.slice (some ⟨g, 0, none⟩) n cap) m xs := by
  obtain ⟨h1, h2⟩ := h
  refine ⟨h1, ?_⟩
  rcases h2 with h2 | ⟨g', cap', cur, hv, hg, hh, r⟩
  · exact Or.inl h2
  · have hv' := hv
    injection hv' with hv1
    injection hv1 with hv1
    injection hv1 with hv1
    subst hv1
    exact Or.inr ⟨g, cap', cur, hv, hg, (Below.heap_setCell w p u g hp).trans hh, r⟩
theorem hAlloc (w : World) (o : Obj) (k : Nat) : (w.alloc o).heap[k]? = if k = w.heap.size then some o else w.heap[k]? := by
  by_cases h : k = w.heap.size
  · rw [if_pos h, h]; exact heap_alloc_new w o
  · rw [if_neg h]
    rcases Nat.lt_or_ge k w.heap.size with h1 | h1
    · exact Below.heap_alloc w o k h1
    · rw [Array.getElem?_eq_none (by rw [World.size_alloc]; omega), Array.getElem?_eq_none h1]
theorem hAlloc_lt (w : World) (o : Obj) (k : Nat) (h : k < w.heap.size) : (w.alloc o).heap[k]? = w.heap[k]? := Below.heap_alloc w o k h
theorem hDrew (w : World) (k : Nat) : w.drew.heap[k]? = w.heap[k]? := rfl
theorem sDrew (w : World) : w.drew.heap.size = w.heap.size := rfl
theorem gkS : (∀ (w : World) (o : Obj) (k : Nat), (w.alloc o).heap[k]? = if k = w.heap.size then some o else w.heap[k]?) ∧ (∀ (w : World) (k : Nat), w.drew.heap[k]? = w.heap[k]?) ∧ (∀ w : World, w.drew.heap.size = w.heap.size) ∧ (∀ (w : World) (o : Obj), (w.alloc o).heap.size = w.heap.size + 1) := ⟨hAlloc, hDrew, sDrew, fun w o => by simp⟩
theorem gkZ : (∀ w : World, w.drew.heap.size = w.heap.size) ∧ (∀ (w : World) (o : Obj), (w.alloc o).heap.size = w.heap.size + 1) := ⟨sDrew, fun w o => by simp⟩
theorem setsV_snoc (L : List Nat) (s : Nat) : setsV (L ++ [s]) = setsV L ++ [.int .u64 (s : Nat)] := by simp [setsV]

set_option maxRecDepth 20000 in
set_option maxHeartbeats 16000000 in
theorem appendGames_any (m base : Nat) : ∀ (d : Nat) (Ls : List (List Nat)) (L0 L : List Nat) (v : Value) (B : Option Addr) (k0 c0 gl off k c : Nat) (w : World), L.length < d → k = L.length → k ≤ c → c ≤ 9223372036854775807 → k0 = L0.length → k0 + d ≤ 512 → (∀ t ∈ L, t < 512) →
    ((B = none ∧ k0 = 0) ∨ ∃ gb, B = some ⟨gb, 0, none⟩ ∧ gb < w.heap.size ∧ some gb ≠ v.ownBlock ∧ ∀ i, i < k0 → w.cell? ⟨gb, i, none⟩ = some (.int .u64 (L0.getD i 0 : Nat))) →
    gl < w.heap.size → some gl ≠ v.ownBlock → (∀ i, i < k → w.cell? ⟨gl, off + i, none⟩ = some (.int .u64 (L.getD i 0 : Nat))) → Ls.length + (deepK d L0 L).length ≤ 1024 → GSb base m Ls v w → base ≤ w.heap.size →
    Calls Try.prog 148 #[v, .agg #[.int .i64 m, .slice B k0 c0], .slice (some ⟨gl, off, none⟩) k c] w fun e w' => ∃ v', e = .returned v' ∧ GSb base m (Ls ++ deepK d L0 L) v' w' ∧ w.grownBy w' v.ownBlock ∧ (v'.ownBlock = v.ownBlock ∨ ∀ g, v'.ownBlock = some g → w.heap.size ≤ g) := by
  intro d
  obtain ⟨i0, hi0, hz0, hz1, hz2⟩ := info_parts infoSet
  obtain ⟨i1, hi1, hy0, hy1, hy2⟩ := info_parts infoSG
  induction d with
  | zero =>
    intro Ls L0 L v B k0 c0 gl off k c w hd
    exact absurd hd (Nat.not_lt_zero _)
  | succ d ih =>
    intro Ls L0 L v B k0 c0 gl off k c w hd hk hkc hc hk0 hk5 hL hB hgl hne hcell hT hG hb
    have b0 := below1 w (.cells #[.int .i64 (m : Nat), .slice B k0 c0] 95)
    have hx0 := BoxT.new 95 w (.int .i64 (m : Nat)) (.slice B k0 c0)
    obtain ⟨w0, hw0⟩ : ∃ w0, w0 = w.alloc (.cells #[.int .i64 (m : Nat), .slice B k0 c0] 95) := ⟨_, rfl⟩
    have HG := Lib.hid (show GSb base m Ls v w0 from by rw [hw0]; exact hG.now b0)
    have hvl := Lib.hid (fun k (h : v.ownBlock = some k) => hG.lt h)
    have IH := Lib.hid ih
    have HL := Lib.hid hL
    have HCELL := Lib.hid hcell
    have HB := Lib.hid hB
    have HT := Lib.hid hT
    have HK := Lib.hid hk
    have HK0 := Lib.hid hk0
    have HD := Lib.hid hd
    have HNE := Lib.hid hne
    have hz0w : w0.heap.size = w.heap.size + 1 := by rw [hw0]; simp
    have HW0 := Lib.hid (show Below w.heap.size w w0 from by rw [hw0]; exact b0)
    have HX0 := Lib.hid (show BoxT 95 w0 w.heap.size (.int .i64 (m : Nat)) (.slice B k0 c0) from by rw [hw0]; exact hx0)
    have HZ0 := Lib.hid hz0w
    clear ih hL hcell hB hG hk hk0 hd hT hne hx0 b0 hz0w
    go_enter Try.func148, Try.ntmps148
    go_wp2_with fail
    rw [← hw0]
    clear hw0
    go_loopw [0, 13] (fun u i wr => ∃ (j : Nat) (P : List (List Nat)) (vv : Value), j ≤ k ∧ i = .int .i64 j ∧ vv = u ∧ P ++ deepK (d+1) L0 (L.drop j) = deepK (d+1) L0 L ∧ GSb base m (Ls ++ P) vv wr ∧ w0.grownBy wr v.ownBlock ∧ (vv.ownBlock = v.ownBlock ∨ ∀ g, vv.ownBlock = some g → w0.heap.size ≤ g)) (fun _ i _ => k - (intOf i).toNat)
    case atStart => exact ⟨0, [], v, Nat.zero_le _, rfl, rfl, by simp, by rw [List.append_nil]; exact HG.out, grown_refl _ _, Or.inl rfl⟩
    case round =>
      obtain ⟨j, P, vv, hj, rfl, rfl, hP, hgs, hgr, hvv⟩ := hrel
      have HP := Lib.hid hP
      have HGS := Lib.hid hgs
      have HGR := Lib.hid hgr
      have HVV := Lib.hid hvv
      clear hP hgs hgr hvv
      by_cases hlt : j < k
      · have hjk : j + 1 ≤ k := hlt
        obtain ⟨s, hs⟩ : ∃ s, s = L.getD j 0 := ⟨_, rfl⟩
        have hjL : j < L.length := by rw [← HK.out]; exact hlt
        have hs5 : s < 512 := by
          rw [hs, List.getD_eq_getElem?_getD, List.getElem?_eq_getElem hjL]
          exact HL.out _ (List.getElem_mem hjL)
        obtain ⟨R, hR⟩ : ∃ R, R = L.drop (j+1) := ⟨_, rfl⟩
        have HDR := Lib.hid (show L.drop j = s :: R from by
          rw [List.drop_eq_getElem_cons hjL, hR, hs, List.getD_eq_getElem?_getD, List.getElem?_eq_getElem hjL]; rfl)
        have HRE := Lib.hid hR
        have HRK := Lib.hid (show k - (j+1) = R.length from by rw [hR, List.length_drop, ← HK.out])
        have HRL := Lib.hid (show ∀ t ∈ R, t < 512 from fun t ht => HL.out t (List.mem_of_mem_drop (by rw [← hR]; exact ht)))
        have HRG := Lib.hid (show ∀ i, i < k - (j+1) → R.getD i 0 = L.getD (j + 1 + i) 0 from fun i _ => by
          rw [hR, List.getD_eq_getElem?_getD, List.getElem?_drop, ← List.getD_eq_getElem?_getD])
        have hRd : R.length < d := by have := HRK.out; have := HD.out; have := HK.out; omega
        have HRD := Lib.hid hRd
        have hk0d : k0 + d < 512 := by omega
        have hR5 : k - (j+1) ≤ 1024 := by have := HRK.out; omega
        -- what stands in wr
        have hzr : w0.heap.size ≤ wr.heap.size := HGR.out.size
        have hz0 := HZ0.out
        have hcl : ∀ (a : Addr), a.block < w.heap.size → some a.block ≠ v.ownBlock → wr.cell? a = w.cell? a := fun a h1 h2 => by
          rw [HGR.out.cell_far a (by omega) h2]
          exact HW0.out.cell h1
        have hleft : ∀ i, i < k → wr.cell? ⟨gl, off + i, none⟩ = some (.int .u64 (L.getD i 0 : Nat)) := fun i hi => (hcl _ hgl HNE.out).trans (HCELL.out i hi)
        have hsl : wr.cell? ⟨gl, off + j, none⟩ = some (.int .u64 (s : Nat)) := by rw [hs]; exact hleft j hlt
        have hglr : gl < wr.heap.size := by omega
        have hxr : BoxT 95 wr w.heap.size (.int .i64 (m : Nat)) (.slice B k0 c0) := BoxT.grown HX0.out HGR.out (fun e => by have := (hvl.out _ e.symm).2; omega)
        have hvr : ∀ q, vv.ownBlock = some q → base ≤ q ∧ q < wr.heap.size := fun q h => HGS.out.lt h
        have HVR := Lib.hid hvr
        have hnev : some gl ≠ vv.ownBlock := fun e => by
          rcases HVV.out with h | h
          · exact HNE.out (by rw [e, h])
          · have := h _ e.symm; omega
        have HNEV := Lib.hid hnev
        have HKB := Lib.hid (show (B = none ∧ k0 = 0) ∨ ∃ gb, B = some ⟨gb, 0, none⟩ ∧ gb < wr.heap.size ∧ ∀ i, i < k0 → wr.cell? ⟨gb, i, none⟩ = some (.int .u64 (L0.getD i 0 : Nat)) from by
          rcases HB.out with h | ⟨gb, h1, h2, h3, h4⟩
          · exact Or.inl h
          · exact Or.inr ⟨gb, h1, by omega, fun i hi => (hcl _ h2 h3).trans (h4 i hi)⟩)
        have HRC := Lib.hid (show ∀ W, Below wr.heap.size wr W → ∀ i, i < k - (j+1) → W.cell? ⟨gl, off + (j + 1) + i, none⟩ = some (.int .u64 (R.getD i 0 : Nat)) from fun W hW i hi => by
          rw [HRG.out i hi, hW.cell (p := ⟨gl, off + (j + 1) + i, none⟩) hglr, Nat.add_assoc]
          exact hleft (j + 1 + i) (by omega))
        -- the box of s
        have bs := below1 wr (.cells #[.int .u64 (s : Nat)] 107)
        have hsb := heap_alloc_new wr (.cells #[.int .u64 (s : Nat)] 107)
        obtain ⟨w1, hw1⟩ : ∃ w1, w1 = wr.alloc (.cells #[.int .u64 (s : Nat)] 107) := ⟨_, rfl⟩
        rw [← hw1] at bs hsb
        have hz1 : w1.heap.size = wr.heap.size + 1 := by rw [hw1]; simp
        have BS := Lib.hid bs
        have HZ1 := Lib.hid hz1
        have HSB := Lib.hid (show ∀ W, Below w1.heap.size w1 W → W.cell? ⟨wr.heap.size, 0, none⟩ = some (.int .u64 (s : Nat)) from fun W hW => by
          rw [hW.cell (p := ⟨wr.heap.size, 0, none⟩) (by show wr.heap.size < w1.heap.size; omega)]
          simp [World.cell?, hsb])
        have KX := Lib.hid (show ∀ W, Below w1.heap.size w1 W → (W.cell? ⟨w.heap.size, 0, none⟩ = some (.int .i64 (m : Nat)) ∧ W.cell? ⟨w.heap.size, 1, none⟩ = some (.slice B k0 c0)) ∧ W.cell? ⟨wr.heap.size, 0, none⟩ = some (.int .u64 (s : Nat)) from fun W hW => ⟨((hxr.now bs).now hW).cells, HSB.out W hW⟩)
        have HC := Lib.hid (show ∀ W, Below w1.heap.size w1 W → Calls Try.prog 182 #[.slice B k0 c0] W fun e w' => ∃ A4 c4, e = .returned (.slice A4 k0 c4) ∧ w'.ownsRow W.heap.size 107 1 (.slice A4 k0 c4) k0 (setsV L0) ∧ Below w1.heap.size w1 w' ∧ Below W.heap.size W w' from fun W hW => by
          rcases HKB.out with ⟨rfl, h0⟩ | ⟨gb, rfl, h2, h3⟩
          · have hl0 : L0 = [] := List.eq_nil_of_length_eq_zero (by rw [← HK0.out]; exact h0)
            subst h0 hl0
            refine (cloneSets_nil 0 c0 W).mono ?_
            rintro e w' ⟨rfl, rfl⟩
            exact ⟨none, 0, rfl, World.ownsRow_nil _ _ _ _, hW, Below.refl _ _⟩
          · refine (cloneSets_at L0 gb 0 k0 c0 W HK0.out (by omega) (fun i hi => ?_)).mono ?_
            · rw [Nat.zero_add, hW.cell (p := ⟨gb, i, none⟩) (by show gb < w1.heap.size; have := HZ1.out; omega), BS.out.cell (p := ⟨gb, i, none⟩) h2]
              exact h3 i hi
            · rintro e w' ⟨C4, c4, rfl, ho, hb⟩
              exact ⟨_, c4, rfl, ho, hW.trans (hb.mono hW.size), hb⟩)
        obtain ⟨k1a, k1b⟩ := KX.out w1 (Below.refl _ _)
        clear hs hR hjL hcl hleft hxr hvr hnev bs hsb hRd hz0 hz1
        go_wp2_with fail
        rw [← hw1]
        clear hw1 hsl
        go_region_held3 (fun w' => (w'.cell? ⟨w.heap.size, 0, none⟩ = some (.int .i64 (m : Nat)) ∧ w'.cell? ⟨w.heap.size, 1, none⟩ = some (.slice B k0 c0)) ∧ w'.cell? ⟨wr.heap.size, 0, none⟩ = some (.int .u64 (s : Nat)))
          (first | exact ⟨k1a, k1b⟩ | exact k4 | exact KX.out _ ((Below.refl _ _).drew.alloc (Nat.le_refl _) _) | exact KX.out _ (((Below.refl _ _).drew.alloc (Nat.le_refl _) _).alloc (by simp) _) | exact KX.out _ (b4.alloc hz4 _) | exact KX.out _ ((b4.alloc hz4 _).alloc (by simp; omega) _) | exact KX.out _ b7 | exact KX.out _ (b7.alloc b7.size _) | exact KX.out _ ((b7.setCell (by first | omega | (simp; omega) | simp) _).setCell (by first | omega | (simp; omega) | simp) _) | go_keep)
          (first
            | (go_at_call 182; refine (HC.out _ (by first | exact (Below.refl _ _).drew | exact (Below.refl _ _).drew.alloc (Nat.le_refl _) _ | exact ((Below.refl _ _).drew.alloc (Nat.le_refl _) _).alloc (by simp) _)).mono ?_; rintro e w4 ⟨A4, c4, rfl, ho4, b4, hb4⟩; have k4 := KX.out w4 b4; have hz4 := b4.size)
            | (refine step_append_lies _ (by rfl) _ _ _ (by rfl) w1.heap.size 107 i0 _ 1 8 Try.underlying93 hi0 hz0 hz1 hz2 rfl (by decide) (.slice A4 k0 c4) k0 (setsV L0) (by rfl) (by first | exact owns_base ho4 (by first | exact Nat.le_refl _ | (simp; done) | (simp; omega)) | exact (owns_base ho4 (by first | exact Nat.le_refl _ | (simp; done) | (simp; omega))).alloc _ | exact ((owns_base ho4 (by first | exact Nat.le_refl _ | (simp; done) | (simp; omega))).alloc _).alloc _) _ 1 1 [.int .u64 (s : Nat)] (by rfl) (by rfl) (World.news_of_block (cs := #[.int .u64 (s : Nat)]) (t := 107) (fr := (0, 0)) (by (first | (simp only [gkS]; (repeat' split) <;> first | rfl | (exfalso; omega) | (exfalso; simp_all; done)) | (refine (hb4.block _ (by simp only [gkZ]; omega)).trans ?_; (simp only [gkS]; (repeat' split) <;> first | rfl | (exfalso; omega) | (exfalso; simp_all; done))) | (refine (hAlloc_lt _ _ _ (by have := hb4.size; simp only [gkZ] at this ⊢; omega)).trans ?_; refine (hb4.block _ (by simp only [gkZ]; omega)).trans ?_; (simp only [gkS]; (repeat' split) <;> first | rfl | (exfalso; omega) | (exfalso; simp_all; done)))))) (by simp [Value.oneCell']) (by omega) (by unfold maxLen; omega) (by omega) (by first | exact hz4 | (simp; omega)) _ rfl ?_; intro gg cp w7 hown7 hgrow7 hat7 hlt7; have b7 : Below w1.heap.size w1 w7 := Below.grown (by first | exact b4 | exact b4.alloc hz4 _ | exact (b4.alloc hz4 _).alloc (by simp; omega) _) hgrow7 (by first | exact hz4 | (simp; omega)) (fun i hi => by have := owns_le ho4 hi; simp at this; omega); first | (have qc : Below (w1.drew).heap.size (w1.drew) w4 := hb4; have qg : World.grownBy ((w4.alloc (.cells #[.int .u64 (s : Nat)] 107)).alloc (.cells #[.int .i64 0, .slice none 0 0] 95)) w7 (.slice A4 k0 c4 : Value).ownBlock := hgrow7; have hx7 : BoxT 95 w7 (w4.heap.size + 1) (.int .i64 0) (.slice none 0 0) := (qg.block _ (by have := qc.size; simp only [gkZ] at this ⊢; omega) (fun e => by have h1 := owns_le ho4 e.symm; have h2 := owns_lt ho4 e.symm; have := qc.size; simp only [gkZ] at h1 this; omega)).trans (by (first | (simp only [gkS]; (repeat' split) <;> first | rfl | (exfalso; omega) | (exfalso; simp_all; done)) | (refine (hb4.block _ (by simp only [gkZ]; omega)).trans ?_; (simp only [gkS]; (repeat' split) <;> first | rfl | (exfalso; omega) | (exfalso; simp_all; done))) | (refine (hAlloc_lt _ _ _ (by have := hb4.size; simp only [gkZ] at this ⊢; omega)).trans ?_; refine (hb4.block _ (by simp only [gkZ]; omega)).trans ?_; (simp only [gkS]; (repeat' split) <;> first | rfl | (exfalso; omega) | (exfalso; simp_all; done))))); obtain ⟨x70, x71⟩ := hx7.cells; obtain ⟨y70, y71⟩ := box_soft hx7; clear qc qg)  | (have qc : Below (w1.drew).heap.size (w1.drew) w4 := hb4; have qg : World.grownBy ((w4.alloc (.cells #[.int .i64 0, .slice none 0 0] 95)).alloc (.cells #[.int .u64 (s : Nat)] 107)) w7 (.slice A4 k0 c4 : Value).ownBlock := hgrow7; have hx7 : BoxT 95 w7 (w4.heap.size) (.int .i64 0) (.slice none 0 0) := (qg.block _ (by have := qc.size; simp only [gkZ] at this ⊢; omega) (fun e => by have h1 := owns_le ho4 e.symm; have h2 := owns_lt ho4 e.symm; have := qc.size; simp only [gkZ] at h1 this; omega)).trans (by (first | (simp only [gkS]; (repeat' split) <;> first | rfl | (exfalso; omega) | (exfalso; simp_all; done)) | (refine (hb4.block _ (by simp only [gkZ]; omega)).trans ?_; (simp only [gkS]; (repeat' split) <;> first | rfl | (exfalso; omega) | (exfalso; simp_all; done))) | (refine (hAlloc_lt _ _ _ (by have := hb4.size; simp only [gkZ] at this ⊢; omega)).trans ?_; refine (hb4.block _ (by simp only [gkZ]; omega)).trans ?_; (simp only [gkS]; (repeat' split) <;> first | rfl | (exfalso; omega) | (exfalso; simp_all; done))))); obtain ⟨x70, x71⟩ := hx7.cells; obtain ⟨y70, y71⟩ := box_soft hx7; clear qc qg)  | (have qc : Below (w1.drew.alloc (.cells #[.int .i64 0, .slice none 0 0] 95)).heap.size (w1.drew.alloc (.cells #[.int .i64 0, .slice none 0 0] 95)) w4 := hb4; have qg : World.grownBy (w4.alloc (.cells #[.int .u64 (s : Nat)] 107)) w7 (.slice A4 k0 c4 : Value).ownBlock := hgrow7; have hx7 : BoxT 95 w7 (w1.heap.size) (.int .i64 0) (.slice none 0 0) := (qg.block _ (by have := qc.size; simp only [gkZ] at this ⊢; omega) (fun e => by have h1 := owns_le ho4 e.symm; have h2 := owns_lt ho4 e.symm; have := qc.size; simp only [gkZ] at h1 this; omega)).trans (by (first | (simp only [gkS]; (repeat' split) <;> first | rfl | (exfalso; omega) | (exfalso; simp_all; done)) | (refine (hb4.block _ (by simp only [gkZ]; omega)).trans ?_; (simp only [gkS]; (repeat' split) <;> first | rfl | (exfalso; omega) | (exfalso; simp_all; done))) | (refine (hAlloc_lt _ _ _ (by have := hb4.size; simp only [gkZ] at this ⊢; omega)).trans ?_; refine (hb4.block _ (by simp only [gkZ]; omega)).trans ?_; (simp only [gkS]; (repeat' split) <;> first | rfl | (exfalso; omega) | (exfalso; simp_all; done))))); obtain ⟨x70, x71⟩ := hx7.cells; obtain ⟨y70, y71⟩ := box_soft hx7; clear qc qg)  | (have qc : Below (w1.drew.alloc (.cells #[.int .u64 (s : Nat)] 107)).heap.size (w1.drew.alloc (.cells #[.int .u64 (s : Nat)] 107)) w4 := hb4; have qg : World.grownBy (w4.alloc (.cells #[.int .i64 0, .slice none 0 0] 95)) w7 (.slice A4 k0 c4 : Value).ownBlock := hgrow7; have hx7 : BoxT 95 w7 (w4.heap.size) (.int .i64 0) (.slice none 0 0) := (qg.block _ (by have := qc.size; simp only [gkZ] at this ⊢; omega) (fun e => by have h1 := owns_le ho4 e.symm; have h2 := owns_lt ho4 e.symm; have := qc.size; simp only [gkZ] at h1 this; omega)).trans (by (first | (simp only [gkS]; (repeat' split) <;> first | rfl | (exfalso; omega) | (exfalso; simp_all; done)) | (refine (hb4.block _ (by simp only [gkZ]; omega)).trans ?_; (simp only [gkS]; (repeat' split) <;> first | rfl | (exfalso; omega) | (exfalso; simp_all; done))) | (refine (hAlloc_lt _ _ _ (by have := hb4.size; simp only [gkZ] at this ⊢; omega)).trans ?_; refine (hb4.block _ (by simp only [gkZ]; omega)).trans ?_; (simp only [gkS]; (repeat' split) <;> first | rfl | (exfalso; omega) | (exfalso; simp_all; done))))); obtain ⟨x70, x71⟩ := hx7.cells; obtain ⟨y70, y71⟩ := box_soft hx7; clear qc qg)  | (have qc : Below ((w1.drew.alloc (.cells #[.int .i64 0, .slice none 0 0] 95)).alloc (.cells #[.int .u64 (s : Nat)] 107)).heap.size ((w1.drew.alloc (.cells #[.int .i64 0, .slice none 0 0] 95)).alloc (.cells #[.int .u64 (s : Nat)] 107)) w4 := hb4; have qg : World.grownBy w4 w7 (.slice A4 k0 c4 : Value).ownBlock := hgrow7; have hx7 : BoxT 95 w7 (w1.heap.size) (.int .i64 0) (.slice none 0 0) := (qg.block _ (by have := qc.size; simp only [gkZ] at this ⊢; omega) (fun e => by have h1 := owns_le ho4 e.symm; have h2 := owns_lt ho4 e.symm; have := qc.size; simp only [gkZ] at h1 this; omega)).trans (by (first | (simp only [gkS]; (repeat' split) <;> first | rfl | (exfalso; omega) | (exfalso; simp_all; done)) | (refine (hb4.block _ (by simp only [gkZ]; omega)).trans ?_; (simp only [gkS]; (repeat' split) <;> first | rfl | (exfalso; omega) | (exfalso; simp_all; done))) | (refine (hAlloc_lt _ _ _ (by have := hb4.size; simp only [gkZ] at this ⊢; omega)).trans ?_; refine (hb4.block _ (by simp only [gkZ]; omega)).trans ?_; (simp only [gkS]; (repeat' split) <;> first | rfl | (exfalso; omega) | (exfalso; simp_all; done))))); obtain ⟨x70, x71⟩ := hx7.cells; obtain ⟨y70, y71⟩ := box_soft hx7; clear qc qg)  | (have qc : Below ((w1.drew.alloc (.cells #[.int .u64 (s : Nat)] 107)).alloc (.cells #[.int .i64 0, .slice none 0 0] 95)).heap.size ((w1.drew.alloc (.cells #[.int .u64 (s : Nat)] 107)).alloc (.cells #[.int .i64 0, .slice none 0 0] 95)) w4 := hb4; have qg : World.grownBy w4 w7 (.slice A4 k0 c4 : Value).ownBlock := hgrow7; have hx7 : BoxT 95 w7 (w1.heap.size + 1) (.int .i64 0) (.slice none 0 0) := (qg.block _ (by have := qc.size; simp only [gkZ] at this ⊢; omega) (fun e => by have h1 := owns_le ho4 e.symm; have h2 := owns_lt ho4 e.symm; have := qc.size; simp only [gkZ] at h1 this; omega)).trans (by (first | (simp only [gkS]; (repeat' split) <;> first | rfl | (exfalso; omega) | (exfalso; simp_all; done)) | (refine (hb4.block _ (by simp only [gkZ]; omega)).trans ?_; (simp only [gkS]; (repeat' split) <;> first | rfl | (exfalso; omega) | (exfalso; simp_all; done))) | (refine (hAlloc_lt _ _ _ (by have := hb4.size; simp only [gkZ] at this ⊢; omega)).trans ?_; refine (hb4.block _ (by simp only [gkZ]; omega)).trans ?_; (simp only [gkS]; (repeat' split) <;> first | rfl | (exfalso; omega) | (exfalso; simp_all; done))))); obtain ⟨x70, x71⟩ := hx7.cells; obtain ⟨y70, y71⟩ := box_soft hx7; clear qc qg) | skip)
            | fail)
        all_goals (first
          | (have hb9 := BoxT.new 95 w7 (.int .i64 (m : Nat)) (.slice (some ⟨gg, 0, none⟩) (k0 + 1) cp)
             have ho9 := hown7.alloc (.cells #[.int .i64 (m : Nat), .slice (some ⟨gg, 0, none⟩) (k0 + 1) cp] 95)
             have g9 := b7.alloc b7.size (.cells #[.int .i64 (m : Nat), .slice (some ⟨gg, 0, none⟩) (k0 + 1) cp] 95)
             have hne7 : w7.heap.size ≠ gg := by omega
             obtain ⟨W9, hW9⟩ : ∃ W9, W9 = w7.alloc (.cells #[.int .i64 (m : Nat), .slice (some ⟨gg, 0, none⟩) (k0 + 1) cp] 95) := ⟨_, rfl⟩
             rw [← hW9] at hb9 ho9 g9 ⊢
             have hnbw' := b7.size
             obtain ⟨nb, hnb⟩ : ∃ z, z = w7.heap.size := ⟨_, rfl⟩
             have hnbw : w1.heap.size ≤ nb := by omega
             rw [← hnb] at hb9 hne7 ⊢
             clear hW9 hnb hnbw')
          | (have hx7' : BoxT 95 w7 (w1.heap.size) (.int .i64 0) (.slice none 0 0) := hx7
             have hne7 : w1.heap.size ≠ gg := fun e => by
               rcases hat7 with h | h
               · have h1 := owns_le ho4 h
                 have h2 := owns_lt ho4 h
                 simp only [gkZ] at h1
                 omega
               · have hq := hb4.size
                 try simp only [gkZ] at h
                 try simp only [gkZ] at hq
                 omega
             have hb9 := box_put_ hx7' (.int .i64 (m : Nat)) (.slice (some ⟨gg, 0, none⟩) (k0 + 1) cp)
             have ho9 := owns_farG (owns_farG hown7 (p := ⟨w1.heap.size, 0, none⟩) (fun e => hne7 e.symm) (.int .i64 (m : Nat))) (p := ⟨w1.heap.size, 1, none⟩) (fun e => hne7 e.symm) (.slice (some ⟨gg, 0, none⟩) (k0 + 1) cp)
             have g9 := (b7.setCell (p := ⟨w1.heap.size, 0, none⟩) (by show w1.heap.size ≤ w1.heap.size; omega) (.int .i64 (m : Nat))).setCell (p := ⟨w1.heap.size, 1, none⟩) (by show w1.heap.size ≤ w1.heap.size; omega) (.slice (some ⟨gg, 0, none⟩) (k0 + 1) cp)
             obtain ⟨W9, hW9⟩ : ∃ W9, W9 = (w7.setCell ⟨w1.heap.size, 0, none⟩ (.int .i64 (m : Nat))).setCell ⟨w1.heap.size, 1, none⟩ (.slice (some ⟨gg, 0, none⟩) (k0 + 1) cp) := ⟨_, rfl⟩
             rw [← hW9] at hb9 ho9 g9 ⊢
             obtain ⟨nb, hnb⟩ : ∃ z, z = w1.heap.size := ⟨_, rfl⟩
             have hnbw : w1.heap.size ≤ nb := by omega
             rw [← hnb] at hb9 hne7 ⊢
             clear hW9 hnb hx7 hx7' x70 x71 y70 y71)
          | (have hx7' : BoxT 95 w7 (w1.heap.size + 1) (.int .i64 0) (.slice none 0 0) := hx7
             have hne7 : w1.heap.size + 1 ≠ gg := fun e => by
               rcases hat7 with h | h
               · have h1 := owns_le ho4 h
                 have h2 := owns_lt ho4 h
                 simp only [gkZ] at h1
                 omega
               · have hq := hb4.size
                 try simp only [gkZ] at h
                 try simp only [gkZ] at hq
                 omega
             have hb9 := box_put_ hx7' (.int .i64 (m : Nat)) (.slice (some ⟨gg, 0, none⟩) (k0 + 1) cp)
             have ho9 := owns_farG (owns_farG hown7 (p := ⟨w1.heap.size + 1, 0, none⟩) (fun e => hne7 e.symm) (.int .i64 (m : Nat))) (p := ⟨w1.heap.size + 1, 1, none⟩) (fun e => hne7 e.symm) (.slice (some ⟨gg, 0, none⟩) (k0 + 1) cp)
             have g9 := (b7.setCell (p := ⟨w1.heap.size + 1, 0, none⟩) (by show w1.heap.size ≤ w1.heap.size + 1; omega) (.int .i64 (m : Nat))).setCell (p := ⟨w1.heap.size + 1, 1, none⟩) (by show w1.heap.size ≤ w1.heap.size + 1; omega) (.slice (some ⟨gg, 0, none⟩) (k0 + 1) cp)
             obtain ⟨W9, hW9⟩ : ∃ W9, W9 = (w7.setCell ⟨w1.heap.size + 1, 0, none⟩ (.int .i64 (m : Nat))).setCell ⟨w1.heap.size + 1, 1, none⟩ (.slice (some ⟨gg, 0, none⟩) (k0 + 1) cp) := ⟨_, rfl⟩
             rw [← hW9] at hb9 ho9 g9 ⊢
             obtain ⟨nb, hnb⟩ : ∃ z, z = w1.heap.size + 1 := ⟨_, rfl⟩
             have hnbw : w1.heap.size ≤ nb := by omega
             rw [← hnb] at hb9 hne7 ⊢
             clear hW9 hnb hx7 hx7' x70 x71 y70 y71)
          | (have hx7' : BoxT 95 w7 (w4.heap.size) (.int .i64 0) (.slice none 0 0) := hx7
             have hne7 : w4.heap.size ≠ gg := fun e => by
               rcases hat7 with h | h
               · have h1 := owns_le ho4 h
                 have h2 := owns_lt ho4 h
                 simp only [gkZ] at h1
                 omega
               · have hq := hb4.size
                 try simp only [gkZ] at h
                 try simp only [gkZ] at hq
                 omega
             have hb9 := box_put_ hx7' (.int .i64 (m : Nat)) (.slice (some ⟨gg, 0, none⟩) (k0 + 1) cp)
             have ho9 := owns_farG (owns_farG hown7 (p := ⟨w4.heap.size, 0, none⟩) (fun e => hne7 e.symm) (.int .i64 (m : Nat))) (p := ⟨w4.heap.size, 1, none⟩) (fun e => hne7 e.symm) (.slice (some ⟨gg, 0, none⟩) (k0 + 1) cp)
             have g9 := (b7.setCell (p := ⟨w4.heap.size, 0, none⟩) (by show w1.heap.size ≤ w4.heap.size; omega) (.int .i64 (m : Nat))).setCell (p := ⟨w4.heap.size, 1, none⟩) (by show w1.heap.size ≤ w4.heap.size; omega) (.slice (some ⟨gg, 0, none⟩) (k0 + 1) cp)
             obtain ⟨W9, hW9⟩ : ∃ W9, W9 = (w7.setCell ⟨w4.heap.size, 0, none⟩ (.int .i64 (m : Nat))).setCell ⟨w4.heap.size, 1, none⟩ (.slice (some ⟨gg, 0, none⟩) (k0 + 1) cp) := ⟨_, rfl⟩
             rw [← hW9] at hb9 ho9 g9 ⊢
             obtain ⟨nb, hnb⟩ : ∃ z, z = w4.heap.size := ⟨_, rfl⟩
             have hnbw : w1.heap.size ≤ nb := by omega
             rw [← hnb] at hb9 hne7 ⊢
             clear hW9 hnb hx7 hx7' x70 x71 y70 y71)
          | (have hx7' : BoxT 95 w7 (w4.heap.size + 1) (.int .i64 0) (.slice none 0 0) := hx7
             have hne7 : w4.heap.size + 1 ≠ gg := fun e => by
               rcases hat7 with h | h
               · have h1 := owns_le ho4 h
                 have h2 := owns_lt ho4 h
                 simp only [gkZ] at h1
                 omega
               · have hq := hb4.size
                 try simp only [gkZ] at h
                 try simp only [gkZ] at hq
                 omega
             have hb9 := box_put_ hx7' (.int .i64 (m : Nat)) (.slice (some ⟨gg, 0, none⟩) (k0 + 1) cp)
             have ho9 := owns_farG (owns_farG hown7 (p := ⟨w4.heap.size + 1, 0, none⟩) (fun e => hne7 e.symm) (.int .i64 (m : Nat))) (p := ⟨w4.heap.size + 1, 1, none⟩) (fun e => hne7 e.symm) (.slice (some ⟨gg, 0, none⟩) (k0 + 1) cp)
             have g9 := (b7.setCell (p := ⟨w4.heap.size + 1, 0, none⟩) (by show w1.heap.size ≤ w4.heap.size + 1; omega) (.int .i64 (m : Nat))).setCell (p := ⟨w4.heap.size + 1, 1, none⟩) (by show w1.heap.size ≤ w4.heap.size + 1; omega) (.slice (some ⟨gg, 0, none⟩) (k0 + 1) cp)
             obtain ⟨W9, hW9⟩ : ∃ W9, W9 = (w7.setCell ⟨w4.heap.size + 1, 0, none⟩ (.int .i64 (m : Nat))).setCell ⟨w4.heap.size + 1, 1, none⟩ (.slice (some ⟨gg, 0, none⟩) (k0 + 1) cp) := ⟨_, rfl⟩
             rw [← hW9] at hb9 ho9 g9 ⊢
             obtain ⟨nb, hnb⟩ : ∃ z, z = w4.heap.size + 1 := ⟨_, rfl⟩
             have hnbw : w1.heap.size ≤ nb := by omega
             rw [← hnb] at hb9 hne7 ⊢
             clear hW9 hnb hx7 hx7' x70 x71 y70 y71))
        all_goals
          have hgg : w1.heap.size ≤ gg ∧ gg < W9.heap.size := ho9.lt gg rfl
          have hz9 := g9.size
          have hz1' := HZ1.out
          have bw9 : Below wr.heap.size wr W9 := BS.out.trans (g9.mono (by omega))
          obtain ⟨xs, G, C, hox, hrows⟩ := HGS.out.now bw9
          obtain ⟨n, hn⟩ : ∃ n, n = (Ls ++ P).length := ⟨_, rfl⟩
          have HXL := Lib.hid (show xs.length = n * 2 from by rw [hn]; exact hox.1)
          have HOX := Lib.hid (show W9.ownsRow base 95 2 vv n xs from by rw [hn]; exact hox)
          have HROWS := Lib.hid hrows
          have HN := Lib.hid hn
          have HO9 := Lib.hid (show W9.ownsRow w1.heap.size 107 1 (.slice (some ⟨gg, 0, none⟩) (k0 + 1) cp) (k0 + 1) (setsV (L0 ++ [s])) from by rw [setsV_snoc]; exact ho9)
          have HB9 := Lib.hid hb9
          have HG9 := Lib.hid g9
          have BW9 := Lib.hid bw9
          have hn1 : n ≤ 1023 := by
            have h1 := HT.out
            have h2 := congrArg List.length HP.out
            rw [HDR.out, deepK_cons] at h2
            simp only [List.length_append, List.length_cons] at h2
            rw [hn, List.length_append]
            omega
          have hbw : base ≤ W9.heap.size := by have := HZ0.out; omega
          obtain ⟨e0, e1⟩ := hb9.cells
          have hvlt := Lib.hid (fun q (h : vv.ownBlock = some q) => (HVR.out q h).2)
          clear hox hrows hn ho9 hb9 bw9 g9 hown7 hgrow7 hat7 hlt7 b7 hb4 b4 ho4 k4 hz4 k1a k1b
          go_wp2_with (at_builtin; refine wpList_append_lies _ rfl _ _ _ rfl base 95 i1 _ 2 32 Try.underlying82 hi1 hy0 hy1 hy2 rfl (by decide) vv n xs rfl (HOX.out.alloc _) ⟨W9.heap.size, 0, none⟩ 1 1 [.int .i64 (m : Nat), .slice (some ⟨gg, 0, none⟩) (k0 + 1) cp] rfl rfl (World.news_of_block (cs := #[.int .i64 (m : Nat), .slice (some ⟨gg, 0, none⟩) (k0 + 1) cp]) (t := 95) (fr := (0, 0)) (heap_alloc_new W9 _)) (by simp [Value.oneCell']) (by omega) (by unfold maxLen; omega) (by omega) (by simp; omega) (W9.heap.size + 1) (by simp) ?_; intro g10 cap10 w10 hown10 hgrow10 hat10 hlt10)
          have hnbl := HB9.out.lt
          have hng : some gg ≠ vv.ownBlock := fun e => by have := hvlt.out _ e.symm; omega
          have hnn : some nb ≠ vv.ownBlock := fun e => by have := hvlt.out _ e.symm; omega
          have hns : some wr.heap.size ≠ vv.ownBlock := fun e => by have := hvlt.out _ e.symm; omega
          have hg10 : g10 < wr.heap.size ∨ g10 = W9.heap.size + 1 := by
            rcases hat10 with h | h
            · exact Or.inl (hvlt.out _ h)
            · exact Or.inr h
          have bl := below1 W9 (.cells #[.int .i64 (m : Nat), .slice (some ⟨gg, 0, none⟩) (k0 + 1) cp] 95)
          obtain ⟨WL, hWL⟩ : ∃ WL, WL = W9.alloc (.cells #[.int .i64 (m : Nat), .slice (some ⟨gg, 0, none⟩) (k0 + 1) cp] 95) := ⟨_, rfl⟩
          have hzL : WL.heap.size = W9.heap.size + 1 := by rw [hWL]; simp
          rw [← hWL] at bl hgrow10
          clear hWL
          have hz10 := hgrow10.size
          have BL := Lib.hid bl
          have HGR10 := Lib.hid hgrow10
          have HAT10 := Lib.hid hat10
          have H10 := Lib.hid (hown10.lt g10 rfl)
          have HB10 := Lib.hid (show BoxT 95 w10 nb (.int .i64 (m : Nat)) (.slice (some ⟨gg, 0, none⟩) (k0 + 1) cp) from BoxT.grown (HB9.out.now bl) hgrow10 hnn)
          have HO10 := Lib.hid (owns_grown (owns_now HO9.out bl) hgrow10 (fun q hq => by injection hq with hq; rw [← hq]; exact hng))
          have GS10 := Lib.hid (GSb.push (H := W9.heap.size + 1) HN.out (show k0 + 1 = (L0 ++ [s]).length from by rw [List.length_append, ← HK0.out]; rfl) xs G C (fun i hi => ⟨(HROWS.out i hi).1, (HROWS.out i hi).2.1, (HROWS.out i hi).2.2.1, owns_now (HROWS.out i hi).2.2.2 bl⟩) HXL.out (owns_base (owns_now HO9.out bl) (by have := HZ0.out; omega)) hng hown10 hgrow10 hat10 (by omega))
          have HRC10 := Lib.hid (show ∀ W, Below w10.heap.size w10 W → ∀ i, i < k - (j+1) → W.cell? ⟨gl, off + (j + 1) + i, none⟩ = some (.int .u64 (R.getD i 0 : Nat)) from fun W hW i hi => by
            rw [hW.cell (p := ⟨gl, off + (j + 1) + i, none⟩) (by show gl < w10.heap.size; omega), HGR10.out.cell_far ⟨gl, off + (j + 1) + i, none⟩ (by show gl < WL.heap.size; omega) HNEV.out]
            exact HRC.out WL (bfrom BW9.out BL.out) i hi)
          have HS10 := Lib.hid (show ∀ W, Below w10.heap.size w10 W → W.cell? ⟨wr.heap.size, 0, none⟩ = some (.int .u64 (s : Nat)) from fun W hW => by
            rw [hW.cell (p := ⟨wr.heap.size, 0, none⟩) (by show wr.heap.size < w10.heap.size; omega), HGR10.out.cell_far ⟨wr.heap.size, 0, none⟩ (by show wr.heap.size < WL.heap.size; omega) hns, BL.out.cell (p := ⟨wr.heap.size, 0, none⟩) (by show wr.heap.size < W9.heap.size; omega)]
            exact HSB.out W9 HG9.out)
          obtain ⟨A, hA, hAc⟩ : ∃ A : Addr, (if c = j + 1 then (some ⟨gl, off, none⟩ : Option Addr) else some ⟨gl, off + (j + 1), none⟩) = some A ∧ (c = j + 1 ∧ A = ⟨gl, off, none⟩ ∨ ¬ c = j + 1 ∧ A = ⟨gl, off + (j + 1), none⟩) := by
            by_cases h : c = j + 1
            · exact ⟨_, if_pos h, Or.inl ⟨h, rfl⟩⟩
            · exact ⟨_, if_neg h, Or.inr ⟨h, rfl⟩⟩
          have HCL := Lib.hid (show ∀ W, Below w10.heap.size w10 W → Calls Try.prog 182 #[.slice (some A) (k - (j + 1)) (c - (j + 1))] W fun e w' => ∃ C5 c5, e = .returned (.slice (some ⟨C5, 0, none⟩) (k - (j + 1)) c5) ∧ w'.ownsRow w10.heap.size 107 1 (.slice (some ⟨C5, 0, none⟩) (k - (j + 1)) c5) (k - (j + 1)) (setsV R) ∧ Below w10.heap.size w10 w' from fun W hW => by
            have hfin : ∀ q off', (∀ i, i < k - (j + 1) → W.cell? ⟨q, off' + i, none⟩ = some (.int .u64 (R.getD i 0 : Nat))) → Calls Try.prog 182 #[.slice (some ⟨q, off', none⟩) (k - (j + 1)) (c - (j + 1))] W fun e w' => ∃ C5 c5, e = .returned (.slice (some ⟨C5, 0, none⟩) (k - (j + 1)) c5) ∧ w'.ownsRow w10.heap.size 107 1 (.slice (some ⟨C5, 0, none⟩) (k - (j + 1)) c5) (k - (j + 1)) (setsV R) ∧ Below w10.heap.size w10 w' := fun q off' hq => by
              refine (cloneSets_at R q off' (k - (j + 1)) (c - (j + 1)) W HRK.out (by omega) hq).mono ?_
              rintro e w' ⟨C5, c5, rfl, ho, hb⟩
              exact ⟨C5, c5, rfl, owns_base ho hW.size, hW.trans (hb.mono hW.size)⟩
            rcases hAc with ⟨h, rfl⟩ | ⟨h, rfl⟩
            · exact hfin _ _ (fun i hi => by omega)
            · exact hfin _ _ (fun i hi => HRC10.out W hW i hi))
          have HDL := Lib.hid (show ∀ W C5 c5, Below w10.heap.size w10 W → W.ownsRow w10.heap.size 107 1 (.slice (some ⟨C5, 0, none⟩) (k - (j + 1)) c5) (k - (j + 1)) (setsV R) → Calls Try.prog 155 #[.slice (some ⟨C5, 0, none⟩) (k - (j + 1)) c5, .func (.func 183) #[] #[.pointer (some ⟨wr.heap.size, 0, none⟩)]] W fun e w' => e = .returned (.slice (some ⟨C5, 0, none⟩) (R.filter (apartB s)).length c5) ∧ w'.ownsRow w10.heap.size 107 1 (.slice (some ⟨C5, 0, none⟩) (R.filter (apartB s)).length c5) (R.filter (apartB s)).length (setsV (R.filter (apartB s))) ∧ Below w10.heap.size w10 w' from fun W C5 c5 hW ho => by
            have hC := ho.lt C5 rfl
            refine (delSets_any s wr.heap.size R w10.heap.size C5 (k - (j + 1)) c5 W hs5 HRL.out HRK.out hR5 (by omega) (by have := hW.size; omega) (HS10.out W hW) ho).mono ?_
            rintro e w' ⟨rfl, ho', hg⟩
            exact ⟨rfl, ho', hW.grown hg hW.size (fun q hq => by injection hq with hq; omega)⟩)
          have hfl := List.length_filter_le (apartB s) R
          obtain ⟨F, hF⟩ : ∃ F, F = R.filter (apartB s) := ⟨_, rfl⟩
          rw [← hF] at HDL hfl
          have HFM := Lib.hid (show ∀ t ∈ F, t < 512 from fun t ht => HRL.out t (by rw [hF] at ht; exact (List.mem_filter.1 ht).1))
          have HPX := Lib.hid (show P ++ ((L0 ++ [s]) :: deepK d (L0 ++ [s]) F) ++ deepK (d+1) L0 R = deepK (d+1) L0 L from by
            have h := HP.out
            rw [HDR.out, deepK_cons, ← hF, deepK_ge d (d+1) L0 R (by have := HRD.out; omega) (by have := HRD.out; omega)] at h
            rw [← h, List.append_assoc])
          have HTX := Lib.hid (show n + 1 + (deepK d (L0 ++ [s]) F).length ≤ 1024 from by
            have h1 := HT.out
            have h2 := congrArg List.length HPX.out
            have h3 := congrArg id HN.out
            simp only [List.length_append, List.length_cons, id] at h2 h3
            omega)
          have HIH := Lib.hid (show ∀ W C5 c5, Below w10.heap.size w10 W → W.ownsRow w10.heap.size 107 1 (.slice (some ⟨C5, 0, none⟩) F.length c5) F.length (setsV F) → Calls Try.prog 148 #[.slice (some ⟨g10, 0, none⟩) (n + 1) cap10, .agg #[.int .i64 m, .slice (some ⟨gg, 0, none⟩) (k0 + 1) cp], .slice (some ⟨C5, 0, none⟩) F.length c5] W fun e w' => ∃ v', e = .returned v' ∧ GSb base m (Ls ++ (P ++ ((L0 ++ [s]) :: deepK d (L0 ++ [s]) F))) v' w' ∧ W.grownBy w' (some g10) ∧ (v'.ownBlock = some g10 ∨ ∀ q, v'.ownBlock = some q → W.heap.size ≤ q) from fun W C5 c5 hW ho => by
            have hC := ho.lt C5 rfl
            have hWs := hW.size
            have hcap : F.length ≤ c5 ∧ c5 ≤ maxLen := by
              rcases ho.2 with ⟨h, _⟩ | ⟨q, cp', cur, hv, _, _, h3, h4, _, _⟩
              · cases h
              · injection hv with _ _ hv
                subst hv
                exact ⟨h3, h4⟩
            have hgo := owns_now HO10.out (hW.mono (Nat.le_refl _) |> fun h => h)
            refine (IH.out ((Ls ++ P) ++ [L0 ++ [s]]) (L0 ++ [s]) F (.slice (some ⟨g10, 0, none⟩) (n + 1) cap10) (some ⟨gg, 0, none⟩) (k0 + 1) cp C5 0 F.length c5 W (by have := HRD.out; omega) rfl hcap.1 hcap.2 (by rw [List.length_append, ← HK0.out]; rfl) (by omega) HFM.out (Or.inr ⟨gg, rfl, by omega, (fun e => by simp [Value.ownBlock] at e; omega), fun i hi => ?_⟩) hC.2 (fun e => by simp [Value.ownBlock] at e; have := H10.out; omega) (fun i hi => ?_) ?_ (GS10.out.now hW) (by have := H10.out; have := HZ0.out; omega)).mono ?_
            · rw [hgo.cellAt i (by omega)]
              unfold setsV
              rw [List.getElem?_map, List.getElem?_eq_getElem (by rw [List.length_append, ← HK0.out]; exact hi), Option.map_some, List.getD_eq_getElem?_getD, List.getElem?_eq_getElem (by rw [List.length_append, ← HK0.out]; exact hi)]
              rfl
            · rw [Nat.zero_add, ho.cellAt i (by omega)]
              unfold setsV
              rw [List.getElem?_map, List.getElem?_eq_getElem hi, Option.map_some, List.getD_eq_getElem?_getD, List.getElem?_eq_getElem hi]
              rfl
            · have h1 := HTX.out
              have h2 := HN.out
              rw [List.length_append, ← h2]
              exact h1
            · rintro e w' ⟨v', rfl, hg1, hg2, hg3⟩
              refine ⟨v', rfl, ?_, hg2, hg3⟩
              simpa [List.append_assoc] using hg1)
          have K10 := Lib.hid (show ∀ W, Below w10.heap.size w10 W → W.cell? ⟨nb, 0, none⟩ = some (.int .i64 (m : Nat)) ∧ W.cell? ⟨nb, 1, none⟩ = some (.slice (some ⟨gg, 0, none⟩) (k0 + 1) cp) from fun W hW => (HB10.out.now hW).cells)
          have hnb10 : nb ≠ g10 := by
            rcases hg10 with h | h
            · omega
            · omega
          have K13 := Lib.hid (show ∀ W W', Below w10.heap.size w10 W → W.grownBy W' (some g10) → W'.cell? ⟨nb, 0, none⟩ = some (.int .i64 (m : Nat)) ∧ W'.cell? ⟨nb, 1, none⟩ = some (.slice (some ⟨gg, 0, none⟩) (k0 + 1) cp) from fun W W' hW hg => (BoxT.grown (HB10.out.now hW) hg (fun e => by injection e with e; exact hnb10 e)).cells)
          have HEND := Lib.hid (show ∀ W W', Below w10.heap.size w10 W → W.grownBy W' (some g10) → w0.grownBy W' v.ownBlock from fun W W' hW hg => by
            have h1 := HGR.out
            have h2 := BW9.out
            have h3 := BL.out
            have h4 := HGR10.out
            have hzW := hW.size
            refine ⟨hg.os.trans (hW.os.trans (h4.os.trans (h3.os.trans (h2.os.trans h1.os)))), hg.tape.trans (hW.tape.trans (h4.tape.trans (h3.tape.trans (h2.tape.trans h1.tape)))), hg.output.trans (hW.output.trans (h4.output.trans (h3.output.trans (h2.output.trans h1.output)))), by have := hg.size; omega, fun q hq hne => ?_⟩
            have hqv : some q ≠ vv.ownBlock := fun e => by
              rcases HVV.out with h | h
              · exact hne (by rw [e, h])
              · have := h q e.symm; omega
            have hqg : q ≠ g10 := fun e => by
              rcases HAT10.out with h | h
              · exact hqv (by rw [h, e])
              · omega
            exact (hg.block q (by omega) (fun e => by injection e with e; exact hqg e)).trans ((hW.block q (by omega)).trans ((h4.block q (by omega) hqv).trans ((h3.block q (by omega)).trans ((h2.block q (by omega)).trans (h1.block q hq hne))))))
          have HEND2 := Lib.hid (show ∀ (v' : Value) W, Below w10.heap.size w10 W → (v'.ownBlock = some g10 ∨ ∀ q, v'.ownBlock = some q → W.heap.size ≤ q) → (v'.ownBlock = v.ownBlock ∨ ∀ q, v'.ownBlock = some q → w0.heap.size ≤ q) from fun v' W hW h => by
            have hzW := hW.size
            rcases h with h | h
            · rcases HAT10.out with h2 | h2
              · rcases HVV.out with h3 | h3
                · exact Or.inl (by rw [h, ← h2, h3])
                · exact Or.inr fun q hq => by rw [h] at hq; injection hq with hq; rw [← hq]; exact h3 g10 h2
              · exact Or.inr fun q hq => by rw [h] at hq; injection hq with hq; omega
            · exact Or.inr fun q hq => by have := h q hq; omega)
          have hwk : IntKind.i64.wrap ((j : Int) + 1) = (j : Int) + 1 := IntWalk.i64_in _ (by omega)
          have hj0 : (0 : Int) ≤ (j : Int) + 1 := by omega
          have hj1 : (j : Int) + 1 ≤ (k : Int) := by omega
          have hj2 : (j : Int) + 1 ≤ (c : Int) := by omega
          have hwt : ((j : Int) + 1).toNat = j + 1 := by omega
          obtain ⟨q0, q1⟩ := K10.out w10 (Below.refl _ _)
          clear hown10 hgrow10 hat10 bl hAc hF e0 e1 hnn hng hns hg10 hgg hz9 hz1' hzL hnbl hz10 hnb10
          go_region_held3 (fun w' => w'.cell? ⟨nb, 0, none⟩ = some (.int .i64 (m : Nat)) ∧ w'.cell? ⟨nb, 1, none⟩ = some (.slice (some ⟨gg, 0, none⟩) (k0 + 1) cp))
            (first | exact ⟨q0, q1⟩ | exact k11 | exact k12 | exact k13 | go_keep)
            (first
              | (go_at_call 182; refine (HCL.out _ (Below.refl _ _).drew).mono ?_; rintro e w11 ⟨C5, c5, rfl, ho11, b11⟩; have HO11 := Lib.hid ho11; clear ho11; have k11 := K10.out _ b11)
              | (go_at_call 155; refine (HDL.out _ C5 c5 b11 HO11.out).mono ?_; rintro e w12 ⟨rfl, ho12, b12⟩; have HO12 := Lib.hid ho12; clear ho12; have k12 := K10.out _ b12)
              | (go_at_call 148; refine (HIH.out _ C5 c5 b12 HO12.out).mono ?_; rintro e w13 ⟨v', rfl, hg13, hgr13, hat13⟩; have k13 := K13.out _ _ b12 hgr13)
              | fail)
          have HG13 := Lib.hid hg13
          have HR13 := Lib.hid (HEND.out _ _ b12 hgr13)
          have HA13 := Lib.hid (HEND2.out v' _ b12 hat13)
          clear hg13 hgr13 hat13 k11 k12 k13 q0 q1
          go_wp2
          go_roundw
          case rel => exact ⟨j + 1, P ++ ((L0 ++ [s]) :: deepK d (L0 ++ [s]) F), v', by omega, by go_num, rfl, by rw [← HRE.out]; exact HPX.out, HG13.out, HR13.out, HA13.out⟩
          case measure => simp [intOf]; omega
      · obtain rfl : j = k := by omega
        go_wp2
        go_ret
        refine ⟨_, rfl, ?_, ?_, ?_⟩
        · have h := HP.out
          rw [HK.out, List.drop_length, show deepK (d+1) L0 [] = [] from rfl, List.append_nil] at h
          rw [← h]; exact HGS.out
        · have h1 := HW0.out
          have h2 := HGR.out
          exact ⟨h2.os.trans h1.os, h2.tape.trans h1.tape, h2.output.trans h1.output, Nat.le_trans h1.size h2.size, fun k hk hne => (h2.block k (by have := HZ0.out; omega) hne).trans (h1.block k hk)⟩
        · rcases HVV.out with h | h
          · exact Or.inl h
          · exact Or.inr fun g hg => by have := h g hg; have := HZ0.out; omega
end Go.Proofs.Ytnldodnpakpeeaa
