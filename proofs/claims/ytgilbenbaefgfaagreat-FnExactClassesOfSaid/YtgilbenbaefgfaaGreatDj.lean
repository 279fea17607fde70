/- The order of worth, the model's: deOrder, OrderOfWorth. -/
import Derived.Test.YtgilbenbaefgfaaGreatDi
import Derived.Test.YtgilbenbaefgfaaGreatDd
import Derived.Test.YtgilbenbaefgfaaGreatGc
import Derived.Test.YtgilbenbaefgfaaGreatP1
import Derived.Laws.AppendOwnNone
import Derived.Outline
namespace Go.Proofs.YtgilbenbaefgfaaGreat
open Go.RowKit Vo

theorem lit_newsD {w : World} {g : Nat} {x : Int} {t : TypeId} (h : w.heap[g]? = some (.cells #[.int .i64 x] t)) : ∀ j u, [Value.int .i64 x][j]? = some u → w.cell? ((⟨g, 0, none⟩ : Addr).add j) = some u := by
  intro j u hu
  rcases j with _ | j
  · simp at hu; subst hu; simp [World.cell?, Addr.add, h]
  · simp at hu
theorem cut_takeD {L : List Int} {k : Nat} (h : k ≤ L.length) : cut L 0 k = (L.take k).map (Value.int .i64) := by
  refine List.ext_getElem (by simp [cut]; omega) fun i h1 h2 => ?_
  have hi : i < L.length := by simp [cut] at h1; omega
  simp [cut, List.getD_eq_getElem?_getD, hi]
theorem cut_dropD {L : List Int} {k : Nat} (h : k ≤ L.length) : cut L k (L.length - k) = (L.drop k).map (Value.int .i64) := by
  refine List.ext_getElem (by simp [cut]) fun i h1 h2 => ?_
  have hi : k + i < L.length := by simp [cut] at h1; omega
  simp [cut, List.getD_eq_getElem?_getD, hi]
theorem ordL_cells (gr : Nat → Nat → Bool) (i k : Nat) (hk : k = posK (fun t => gr i ((ordL gr i).getD t 0)) i) : (cut (natsI (ordL gr i)) 0 k ++ [Value.int .i64 (i : Int)]) ++ cut (natsI (ordL gr i)) k (i - k) = (natsI (ordL gr (i+1))).map (Value.int .i64) := by
  have hl : (natsI (ordL gr i)).length = i := by rw [natsI_len, ordL_len]
  have hp := posK_le (fun t => gr i ((ordL gr i).getD t 0)) i
  have h2 := cut_dropD (L := natsI (ordL gr i)) (k := k) (by rw [hl]; omega)
  rw [hl] at h2
  rw [cut_takeD (by rw [hl]; omega), h2]
  simp only [ordL, ← hk]
  simp [natsI]
set_option maxHeartbeats 1000000 in
theorem l1Own_none (w : World) : Calls Tryz.prog 54 #[.slice none 0 0] w fun e w' => ∃ v, e = .returned v ∧ w'.ownsRow w.heap.size 3 1 v 0 [] ∧ Below w.heap.size w w' := by
  obtain ⟨i0, hi0, hz0, hz1, hz2⟩ := infoIntParts
  go_enter Tryz.func54, Tryz.ntmps54
  go_wp2_with (at_builtin; refine wpList_append_own_none rfl _ _ _ rfl w.heap.size 3 i0 1 Tryz.underlying35 hi0 (.slice (some ⟨w.heap.size, 0, none⟩) 0 0) 0 [] rfl (World.ownsRow_lit w #[] 0 (Nat.le_refl _) (by unfold maxLen; omega) rfl) rfl ?_)
  go_ret
  exact ⟨_, rfl, World.ownsRow_lit w #[] 0 (Nat.le_refl _) (by unfold maxLen; omega) rfl, below1 _ _⟩

set_option maxRecDepth 20000 in
set_option maxHeartbeats 8000000 in
theorem deOrder_any (p : Nat → Bool) (n g0 cap : Nat) (w : World) (hn : n ≤ 9) (hn1 : 1 ≤ n) (hw : Own w g0 4 (2^n) (fun s => .bool (p s))) :
    Calls Tryz.prog 33 #[.slice (some ⟨g0, 0, none⟩) (2^n : Nat) cap, .int .i64 n] w fun e w' => ∃ A cp, e = .returned (.slice A n cp) ∧ w'.ownsRow w.heap.size 3 1 (.slice A n cp) n ((natsI (ordL (grK (worthP p n)) n)).map (Value.int .i64)) ∧ Below w.heap.size w w' := by
  obtain ⟨i0, hi0, hz0, hz1, hz2⟩ := infoIntParts
  have HDG := Lib.hid (fun i j W (hi : i < n) (hj : j < n) (hb : Below w.heap.size w W) => deGreater_any p n i j g0 cap W (by omega) hi hj (hw.below hb hw.lt))
  clear hw
  obtain ⟨N, hN⟩ : ∃ N, N = 2^n := ⟨_, rfl⟩
  rw [← hN] at HDG ⊢
  clear hN
  obtain ⟨gr, hgr⟩ : ∃ gr, gr = grK (worthP p n) := ⟨_, rfl⟩
  have HDG := Lib.hid (show ∀ i j W, i < n → j < n → Below w.heap.size w W → Calls Tryz.prog 27 #[.slice (some ⟨g0, 0, none⟩) N cap, .int .i64 i, .int .i64 j] W fun e w' => e = .returned (.bool (gr i j)) ∧ W = w' from fun i j W hi hj hb => by rw [hgr]; exact HDG.out i j W hi hj hb)
  rw [← hgr]
  clear hgr
  go_enter Tryz.func33, Tryz.ntmps33
  go_wp2
  go_loopw [5, 6, 7, 8] (fun v x _ _ wr => ∃ (i : Nat) (B : Option Addr) (cp : Nat), i ≤ n ∧ x = .int .i64 i ∧ v = .slice B i cp ∧ (i = 0 → B = none ∧ cp = 0) ∧ wr.ownsRow w.heap.size 3 1 (.slice B i cp) i ((natsI (ordL gr i)).map (Value.int .i64)) ∧ Below w.heap.size w wr) (fun _ x _ _ _ => n - (intOf x).toNat)
  case atStart => exact ⟨0, none, 0, Nat.zero_le _, rfl, rfl, fun _ => ⟨rfl, rfl⟩, World.ownsRow_nil _ _ _ _, Below.refl _ _⟩
  case round =>
    obtain ⟨i, B, cp, hi, rfl, rfl, hi0', hown, hbr⟩ := hrel
    have HO := Lib.hid hown
    clear hown
    by_cases hlt : i < n
    · have HCEk := Lib.hid (fun k hk => ordL_cells gr i k hk)
      have HLT := Lib.hid (ordL_lt gr i)
      have HPK := Lib.hid (show ∀ j, posK (fun t => gr i ((ordL gr i).getD t 0)) (j+1) = if gr i ((ordL gr i).getD j 0) then posK (fun t => gr i ((ordL gr i).getD t 0)) j else j + 1 from fun _ => rfl)
      have HP0 := Lib.hid (show posK (fun t => gr i ((ordL gr i).getD t 0)) 0 = 0 from rfl)
      have hlen := ordL_len gr i
      have HGD := Lib.hid (fun t => natsI_getD (ordL gr i) t)
      have hll : (natsI (ordL gr i)).length = i := by rw [natsI_len, ordL_len]
      obtain ⟨D, hD⟩ : ∃ D, D = ordL gr i := ⟨_, rfl⟩
      simp only [← hD] at HCEk HLT HPK HP0 hlen HGD hll HO
      have HLEN := Lib.hid hlen
      have HLE := Lib.hid hll
      clear hD hlen hll
      obtain ⟨pk, hpk⟩ : ∃ pk, pk = posK (fun t => gr i (D.getD t 0)) := ⟨_, rfl⟩
      simp only [← hpk] at HCEk HPK HP0
      clear hpk
      obtain ⟨L, hL⟩ : ∃ L, L = natsI D := ⟨_, rfl⟩
      simp only [← hL] at HCEk HO HGD HLE
      clear hL
      by_cases h0 : i = 0
      · subst h0
        obtain ⟨rfl, rfl⟩ := hi0' rfl
        obtain rfl : L = [] := List.eq_nil_of_length_eq_zero HLE.out
        have HCE0 := Lib.hid (show [] ++ [Value.int .i64 ((0 : Nat) : Int)] = (natsI (ordL gr (0+1))).map (Value.int .i64) from by have h := HCEk.out 0 HP0.out.symm; simpa [cut] using h)
        go_wp2
        go_loopw [7] (fun t wi => t = .int .i64 0 ∧ wi = wr) (fun _ _ => 0)
        case atStart => exact ⟨rfl, rfl⟩
        case round =>
          obtain ⟨rfl, rfl⟩ := hrel
          go_wp2_with (first
            | (go_at_call 54; refine (l1Own_none wr).mono ?_; rintro e w6 ⟨v6, rfl, ho6, hb6⟩; have hs6 := hb6.size; have b6 := bfrom hbr hb6)
            | (at_builtin; refine wpList_append_own_at _ rfl _ _ _ rfl wr.heap.size 3 i0 _ 1 8 Tryz.underlying35 hi0 hz0 hz1 hz2 rfl (by decide) v6 0 [] rfl (ho6.alloc _) ⟨w6.heap.size, 0, none⟩ 1 1 [.int .i64 ((0 : Nat) : Int)] rfl rfl (lit_newsD (heap_alloc_new w6 (.cells #[.int .i64 ((0 : Nat) : Int)] 3))) (by simp [Value.oneCell']) (by unfold maxLen; omega) (by omega) (by simp; omega) ?_; intro v7 w7 ho7 hgrow7 hnil7 hat7; have hs7 := hgrow7.size; have b7 := (b6.alloc b6.size (.cells #[.int .i64 ((0 : Nat) : Int)] 3)).grown hgrow7 (by have := b6.size; simp; omega) (fun i hi => by have := owns_le ho6 hi; have := hbr.size; omega); obtain ⟨B8, cp8, rfl⟩ := owns_slice ho7)
            | (at_builtin; (refine wpList_append_own_none rfl _ _ _ rfl wr.heap.size 3 i0 1 Tryz.underlying35 hi0 (.slice B8 (0 + 1) cp8) (0 + 1) ([] ++ [Value.int .i64 ((0 : Nat) : Int)]) rfl ho7 rfl ?_))
            | fail)
          have HO8 := Lib.hid (owns_less ho7 hbr.size)
          clear ho7
          go_roundw
          case rel => exact ⟨0 + 1, B8, cp8, by omega, by go_num, rfl, fun h => by omega, by rw [← HCE0.out]; exact HO8.out, b7⟩
          case measure => simp [intOf]; omega
      · obtain ⟨g, cp', hv, hgg, hcp1, hcp2⟩ := owns_head HO.out (by omega)
        obtain ⟨rfl, rfl⟩ : B = some ⟨g, 0, none⟩ ∧ cp = cp' := by simpa using hv
        have hI : Ints wr g i L := Own.of_own HO.out fun t ht => by
          have : t < L.length := by rw [HLE.out]; exact ht
          simp [List.getD_eq_getElem?_getD, this]
        have HI := Lib.hid hI
        have hgl : g < wr.heap.size := hI.lt
        clear hv hI hi0'
        go_wp2
        go_loopw [7] (fun t wi => ∃ z : Nat, z ≤ i ∧ t = .int .i64 z ∧ pk i = pk z ∧ wi = wr) (fun t _ => (intOf t).toNat)
        case atStart => exact ⟨i, Nat.le_refl _, rfl, rfl, rfl⟩
        case round =>
          obtain ⟨z, hz, rfl, hpz, rfl⟩ := hrel
          have HPZ := Lib.hid hpz
          clear hpz
          rcases z with _ | z
          · obtain ⟨k, hk⟩ : ∃ k, k = 0 := ⟨0, rfl⟩
            have HCE := Lib.hid (HCEk.out k (by rw [HPZ.out, HP0.out, hk]))
            rw [show ((0 : Nat) : Int) = ((k : Nat) : Int) from by rw [hk]]
            have hk0 : ¬ (0 : Int) < (k : Int) := by omega
            have hki : k < i := by omega
            have hkii : (k : Int) ≤ (i : Int) := by omega
            have hkc : k < cp := by omega
            clear hk
            go_wp2_with (first
              | (go_at_call 54; refine (l1Own_row g 0 i k cp L wr (by omega) (by omega) (Ints.sl HI.out)).mono ?_; rintro e w6 ⟨v6, rfl, ho6, hb6⟩; have hs6 := hb6.size; have hI6 := Own.below HI.out hb6 hgl; have b6 := bfrom hbr hb6)
              | (at_builtin; refine wpList_append_own_at _ rfl _ _ _ rfl wr.heap.size 3 i0 _ 1 8 Tryz.underlying35 hi0 hz0 hz1 hz2 rfl (by decide) v6 k (cut L 0 k) rfl (ho6.alloc _) ⟨w6.heap.size, 0, none⟩ 1 1 [.int .i64 (i : Int)] rfl rfl (lit_newsD (heap_alloc_new w6 (.cells #[.int .i64 (i : Int)] 3))) (by simp [Value.oneCell']) (by unfold maxLen; omega) (by omega) (by simp; omega) ?_; intro v7 w7 ho7 hgrow7 hnil7 hat7; have hs7 := hgrow7.size; have hI7 := (hI6.alloc (.cells #[.int .i64 (i : Int)] 3)).grown hgrow7 (owns_ne ho6 hgl); have b7 := (b6.alloc b6.size (.cells #[.int .i64 (i : Int)] 3)).grown hgrow7 (by have := b6.size; simp; omega) (fun i hi => by have := owns_le ho6 hi; have := hbr.size; omega))
              | (at_builtin; refine wpList_append_own_at _ rfl _ _ _ rfl wr.heap.size 3 i0 _ 1 8 Tryz.underlying35 hi0 hz0 hz1 hz2 rfl (by decide) v7 (k + 1) (cut L 0 k ++ [Value.int .i64 (i : Int)]) rfl ho7 ⟨g, k, none⟩ (i - k) (cp - k) (cut L k (i - k)) rfl (by rw [cut_len]; omega) (cut_cells (Ints.sl hI7) (by omega) _ (by omega)) (cut_one L _ _) (by unfold maxLen; omega) (by omega) (by simp at hs7; omega) ?_; intro v8 w8 ho8 hgrow8 hnil8 hat8; have b8 := b7.grown hgrow8 b7.size (fun i hi => by have := owns_le ho7 hi; have := hbr.size; omega); obtain ⟨B8, cp8, rfl⟩ := owns_slice ho8)
              | fail)
            rw [show k + 1 + (i - k) = i + 1 by omega] at ho8
            have HO8 := Lib.hid (owns_less ho8 hbr.size)
            clear ho8
            simp only [show k + 1 + (i - k) = i + 1 by omega]
            go_roundw
            case rel => exact ⟨i + 1, B8, cp8, by omega, by go_num, rfl, fun h => by omega, by rw [← HCE.out]; exact HO8.out, b8⟩
            case measure => simp [intOf]; omega
          · have hcell := HI.out.cell (show z < i by omega)
            rw [HGD.out] at hcell
            have hd : D.getD z 0 < n := by have := HLT.out (D.getD z 0) (getD_mem (by rw [HLEN.out]; omega)); omega
            have HDJ := Lib.hid (HDG.out i (D.getD z 0) wr hlt hd hbr)
            have HPKZ := Lib.hid (HPK.out z)
            obtain ⟨d, hde⟩ : ∃ d, d = D.getD z 0 := ⟨_, rfl⟩
            rw [← hde] at hcell HDJ HPKZ
            clear hde hd
            have hsub : ((z + 1 : Nat) : Int) - 1 = (z : Int) := by omega
            have hpos : (0 : Int) < ((z + 1 : Nat) : Int) := by omega
            have hzi : (z : Int) < i := by omega
            cases hg : gr i d
            · rw [hg] at HDJ HPKZ
              clear hg
              obtain ⟨k, hk⟩ : ∃ k, k = z + 1 := ⟨_, rfl⟩
              have HCE := Lib.hid (HCEk.out k (by rw [HPZ.out, HPKZ.out, hk]; rfl))
              rw [← hk] at hsub hpos hz ⊢
              have hki0 : k ≤ i := hz
              clear hk
              by_cases hki : k < i
              · have hkii : (k : Int) ≤ (i : Int) := by omega
                have hkc : k < cp := by omega
                go_wp2_with (first
                  | (go_at_call 27; refine HDJ.out.mono ?_; rintro e w4 ⟨rfl, rfl⟩)
                  | (go_at_call 54; refine (l1Own_row g 0 i k cp L wr (by omega) (by omega) (Ints.sl HI.out)).mono ?_; rintro e w6 ⟨v6, rfl, ho6, hb6⟩; have hs6 := hb6.size; have hI6 := Own.below HI.out hb6 hgl; have b6 := bfrom hbr hb6)
                  | (at_builtin; refine wpList_append_own_at _ rfl _ _ _ rfl wr.heap.size 3 i0 _ 1 8 Tryz.underlying35 hi0 hz0 hz1 hz2 rfl (by decide) v6 k (cut L 0 k) rfl (ho6.alloc _) ⟨w6.heap.size, 0, none⟩ 1 1 [.int .i64 (i : Int)] rfl rfl (lit_newsD (heap_alloc_new w6 (.cells #[.int .i64 (i : Int)] 3))) (by simp [Value.oneCell']) (by unfold maxLen; omega) (by omega) (by simp; omega) ?_; intro v7 w7 ho7 hgrow7 hnil7 hat7; have hs7 := hgrow7.size; have hI7 := (hI6.alloc (.cells #[.int .i64 (i : Int)] 3)).grown hgrow7 (owns_ne ho6 hgl); have b7 := (b6.alloc b6.size (.cells #[.int .i64 (i : Int)] 3)).grown hgrow7 (by have := b6.size; simp; omega) (fun i hi => by have := owns_le ho6 hi; have := hbr.size; omega))
                  | (at_builtin; refine wpList_append_own_at _ rfl _ _ _ rfl wr.heap.size 3 i0 _ 1 8 Tryz.underlying35 hi0 hz0 hz1 hz2 rfl (by decide) v7 (k + 1) (cut L 0 k ++ [Value.int .i64 (i : Int)]) rfl ho7 ⟨g, k, none⟩ (i - k) (cp - k) (cut L k (i - k)) rfl (by rw [cut_len]; omega) (cut_cells (Ints.sl hI7) (by omega) _ (by omega)) (cut_one L _ _) (by unfold maxLen; omega) (by omega) (by simp at hs7; omega) ?_; intro v8 w8 ho8 hgrow8 hnil8 hat8; have b8 := b7.grown hgrow8 b7.size (fun i hi => by have := owns_le ho7 hi; have := hbr.size; omega); obtain ⟨B8, cp8, rfl⟩ := owns_slice ho8)
                  | fail)
                rw [show k + 1 + (i - k) = i + 1 by omega] at ho8
                have HO8 := Lib.hid (owns_less ho8 hbr.size)
                clear ho8
                simp only [show k + 1 + (i - k) = i + 1 by omega]
                go_roundw
                case rel => exact ⟨i + 1, B8, cp8, by omega, by go_num, rfl, fun h => by omega, by rw [← HCE.out]; exact HO8.out, b8⟩
                case measure => simp [intOf]; omega
              · obtain rfl : k = i := by omega
                have HCE2 := Lib.hid (show cut L 0 k ++ [Value.int .i64 (k : Int)] = (natsI (ordL gr (k+1))).map (Value.int .i64) from by have h := HCE.out; rw [Nat.sub_self] at h; simpa [cut] using h)
                by_cases hkc : k < cp
                · have hkc2 : ¬ cp = k := by omega
                  go_wp2_with (first
                    | (go_at_call 27; refine HDJ.out.mono ?_; rintro e w4 ⟨rfl, rfl⟩)
                    | (go_at_call 54; refine (l1Own_row g 0 k k cp L wr (by omega) (by omega) (Ints.sl HI.out)).mono ?_; rintro e w6 ⟨v6, rfl, ho6, hb6⟩; have hs6 := hb6.size; have hI6 := Own.below HI.out hb6 hgl; have b6 := bfrom hbr hb6)
                    | (at_builtin; refine wpList_append_own_at _ rfl _ _ _ rfl wr.heap.size 3 i0 _ 1 8 Tryz.underlying35 hi0 hz0 hz1 hz2 rfl (by decide) v6 k (cut L 0 k) rfl (ho6.alloc _) ⟨w6.heap.size, 0, none⟩ 1 1 [.int .i64 (k : Int)] rfl rfl (lit_newsD (heap_alloc_new w6 (.cells #[.int .i64 (k : Int)] 3))) (by simp [Value.oneCell']) (by unfold maxLen; omega) (by omega) (by simp; omega) ?_; intro v7 w7 ho7 hgrow7 hnil7 hat7; have hs7 := hgrow7.size; have hI7 := (hI6.alloc (.cells #[.int .i64 (k : Int)] 3)).grown hgrow7 (owns_ne ho6 hgl); have b7 := (b6.alloc b6.size (.cells #[.int .i64 (k : Int)] 3)).grown hgrow7 (by have := b6.size; simp; omega) (fun i hi => by have := owns_le ho6 hi; have := hbr.size; omega))
                    | (at_builtin; refine wpList_append_own_at _ rfl _ _ _ rfl wr.heap.size 3 i0 _ 1 8 Tryz.underlying35 hi0 hz0 hz1 hz2 rfl (by decide) v7 (k + 1) (cut L 0 k ++ [Value.int .i64 (k : Int)]) rfl ho7 ⟨g, k, none⟩ 0 (cp - k) [] rfl rfl (fun _ _ h => by simp at h) (fun _ h => by cases h) (by unfold maxLen; omega) (by omega) (by simp at hs7; omega) ?_; intro v8 w8 ho8 hgrow8 hnil8 hat8; have b8 := b7.grown hgrow8 b7.size (fun i hi => by have := owns_le ho7 hi; have := hbr.size; omega); obtain ⟨B8, cp8, rfl⟩ := owns_slice ho8)
                    | fail)
                  rw [List.append_nil] at ho8
                  have HO8 := Lib.hid (owns_less ho8 hbr.size)
                  clear ho8
                  skip
                  go_roundw
                  case rel => exact ⟨k + 1, B8, cp8, by omega, by go_num, rfl, fun h => by omega, by rw [← HCE2.out]; exact HO8.out, b8⟩
                  case measure => simp [intOf]; omega
                · obtain rfl : k = cp := by omega
                  go_wp2_with (first
                    | (go_at_call 27; refine HDJ.out.mono ?_; rintro e w4 ⟨rfl, rfl⟩)
                    | (go_at_call 54; refine (l1Own_row g 0 k k k L wr (by omega) (by omega) (Ints.sl HI.out)).mono ?_; rintro e w6 ⟨v6, rfl, ho6, hb6⟩; have hs6 := hb6.size; have hI6 := Own.below HI.out hb6 hgl; have b6 := bfrom hbr hb6)
                    | (at_builtin; refine wpList_append_own_at _ rfl _ _ _ rfl wr.heap.size 3 i0 _ 1 8 Tryz.underlying35 hi0 hz0 hz1 hz2 rfl (by decide) v6 k (cut L 0 k) rfl (ho6.alloc _) ⟨w6.heap.size, 0, none⟩ 1 1 [.int .i64 (k : Int)] rfl rfl (lit_newsD (heap_alloc_new w6 (.cells #[.int .i64 (k : Int)] 3))) (by simp [Value.oneCell']) (by unfold maxLen; omega) (by omega) (by simp; omega) ?_; intro v7 w7 ho7 hgrow7 hnil7 hat7; have hs7 := hgrow7.size; have hI7 := (hI6.alloc (.cells #[.int .i64 (k : Int)] 3)).grown hgrow7 (owns_ne ho6 hgl); have b7 := (b6.alloc b6.size (.cells #[.int .i64 (k : Int)] 3)).grown hgrow7 (by have := b6.size; simp; omega) (fun i hi => by have := owns_le ho6 hi; have := hbr.size; omega))
                    | (at_builtin; refine wpList_append_own_at _ rfl _ _ _ rfl wr.heap.size 3 i0 _ 1 8 Tryz.underlying35 hi0 hz0 hz1 hz2 rfl (by decide) v7 (k + 1) (cut L 0 k ++ [Value.int .i64 (k : Int)]) rfl ho7 ⟨g, 0, none⟩ 0 0 [] rfl rfl (fun _ _ h => by simp at h) (fun _ h => by cases h) (by unfold maxLen; omega) (by omega) (by simp at hs7; omega) ?_; intro v8 w8 ho8 hgrow8 hnil8 hat8; have b8 := b7.grown hgrow8 b7.size (fun i hi => by have := owns_le ho7 hi; have := hbr.size; omega); obtain ⟨B8, cp8, rfl⟩ := owns_slice ho8)
                    | fail)
                  rw [List.append_nil] at ho8
                  have HO8 := Lib.hid (owns_less ho8 hbr.size)
                  clear ho8
                  skip
                  go_roundw
                  case rel => exact ⟨k + 1, B8, cp8, by omega, by go_num, rfl, fun h => by omega, by rw [← HCE2.out]; exact HO8.out, b8⟩
                  case measure => simp [intOf]; omega
            · rw [hg] at HDJ HPKZ
              have HPS := Lib.hid (show pk i = pk z from by rw [HPZ.out, HPKZ.out]; rfl)
              clear hg
              go_wp2_with (first
                | (go_at_call 27; refine HDJ.out.mono ?_; rintro e w4 ⟨rfl, rfl⟩)
                | fail)
              go_roundw
              case rel => exact ⟨z, by omega, by go_num, HPS.out, trivial⟩
              case measure => simp [intOf]
    · obtain rfl : i = n := by omega
      go_wp2
      go_ret
      exact ⟨B, cp, rfl, HO.out, hbr⟩
end Go.Proofs.YtgilbenbaefgfaaGreat
