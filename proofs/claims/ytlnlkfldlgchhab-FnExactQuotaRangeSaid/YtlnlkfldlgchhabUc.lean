/- The model's sums of sets. -/
import Derived.Test.YtlnlkfldlgchhabUb
import Derived.Test.YtlnlkfldlgchhabT12
import Derived.Maps.AppendAt
import Derived.Outline
namespace Go.Proofs.Ytlnlkfldlgchhab
open Go.RowKit Vo

theorem at_mem {L : List Int} {i : Nat} (h : i < L.length) : L.getD i 0 ∈ L := by
  rw [List.getD_eq_getElem?_getD, List.getElem?_eq_getElem h]; exact List.getElem_mem h
theorem rise_at {L : List Int} (hp : L.Pairwise (· < ·)) {i j : Nat} (hij : i < j) (hj : j < L.length) : L.getD i 0 < L.getD j 0 := by
  rw [List.pairwise_iff_getElem] at hp
  have := hp i j (by omega) hj hij
  rw [List.getD_eq_getElem?_getD, List.getElem?_eq_getElem (by omega), List.getD_eq_getElem?_getD, List.getElem?_eq_getElem hj]
  exact this
theorem put_facts {L : List Int} {x : Int} {k : Nat} (hp : L.Pairwise (· < ·)) (hk : k ≤ L.length) (h1 : ∀ i, i < k → L.getD i 0 < x) (h2 : k = L.length ∨ x < L.getD k 0) :
    (L.take k ++ [x] ++ L.drop k).length = L.length + 1 ∧ (L.take k ++ [x] ++ L.drop k).Pairwise (· < ·) ∧ ∀ y, y ∈ L.take k ++ [x] ++ L.drop k ↔ y = x ∨ y ∈ L := by
  refine ⟨by simp; omega, ?_, fun y => ?_⟩
  · have ht : ∀ a ∈ L.take k, a < x := fun a ha => by
      obtain ⟨i, hi, rfl⟩ := List.mem_iff_getElem.1 ha
      have hi2 : i < k := by rw [List.length_take] at hi; omega
      have := h1 i hi2
      rw [List.getD_eq_getElem?_getD, List.getElem?_eq_getElem (by omega)] at this
      simpa using this
    have hd : ∀ a ∈ L.drop k, x < a := fun a ha => by
      obtain ⟨i, hi, rfl⟩ := List.mem_iff_getElem.1 ha
      rw [List.length_drop] at hi
      have hkl : k < L.length := by omega
      have h3 : x < L.getD k 0 := by rcases h2 with h | h; omega; exact h
      have h4 : L.getD k 0 ≤ L.getD (k + i) 0 := by
        by_cases e : i = 0
        · subst e; exact Int.le_refl _
        · exact Int.le_of_lt (rise_at hp (by omega) (by omega))
      rw [List.getElem_drop]
      rw [List.getD_eq_getElem?_getD (l := L) (i := k + i), List.getElem?_eq_getElem (by omega)] at h4
      simp only [Option.getD_some] at h4
      omega
    rw [List.append_assoc, List.pairwise_append, List.singleton_append, List.pairwise_cons]
    refine ⟨hp.sublist (List.take_sublist _ _), ⟨hd, hp.sublist (List.drop_sublist _ _)⟩, fun a ha b hb => ?_⟩
    rcases List.mem_cons.1 hb with e | hb
    · rw [e]; exact ht a ha
    · have := ht a ha; have := hd b hb; omega
  · have e := List.take_append_drop k L
    have hm : y ∈ L ↔ y ∈ L.take k ∨ y ∈ L.drop k := by rw [← List.mem_append, e]
    rw [hm]
    simp only [List.mem_append, List.mem_singleton]
    constructor
    · rintro ((h | h) | h)
      · exact Or.inr (Or.inl h)
      · exact Or.inl h
      · exact Or.inr (Or.inr h)
    · rintro (h | h | h)
      · exact Or.inl (Or.inr h)
      · exact Or.inl (Or.inl h)
      · exact Or.inr h

set_option maxRecDepth 20000 in
set_option maxHeartbeats 8000000 in
theorem l1Put_any (L : List Int) (x : Int) (base j cp : Nat) (B : Option Addr) (w : World) (hlen : L.length = j) (hj5 : j ≤ 1024) (hp : L.Pairwise (· < ·)) (hx : x ∉ L) (hown : w.ownsRow base 3 1 (.slice B j cp) j (intsV L)) :
    Calls Try.prog 115 #[.slice B j cp, .int .i64 x] w fun e w' => ∃ C c, e = .returned (.slice C (j + 1 : Nat) c) ∧ ∃ L', L'.length = j + 1 ∧ L'.Pairwise (· < ·) ∧ (∀ y, y ∈ L' ↔ y = x ∨ y ∈ L) ∧ w'.ownsRow w.heap.size 3 1 (.slice C (j + 1 : Nat) c) (j + 1) (intsV L') ∧ Below w.heap.size w w' := by
  obtain ⟨i0, hi0, hz0, hz1, hz2⟩ := info_parts infoInt
  have HO := Lib.hid hown
  have HP := Lib.hid hp
  have HX := Lib.hid hx
  have HLEN := Lib.hid hlen
  have HC := Lib.hid (show ∀ k, k < j → ∃ gb, B = some ⟨gb, 0, none⟩ ∧ w.cell? ⟨gb, k, none⟩ = some (.int .i64 (L.getD k 0)) from fun k hk => by
    obtain ⟨gb, cb, hv, _, _, _⟩ := owns_head hown (by omega)
    obtain ⟨rfl, rfl⟩ : B = some ⟨gb, 0, none⟩ ∧ cp = cb := by simpa using hv
    exact ⟨gb, rfl, (show Own w gb 3 j (fun i => .int .i64 (L.getD i 0)) from Own.of_own hown fun i hi => by
      have : i < L.length := by omega
      simp [intsV, List.getD_eq_getElem?_getD, this]).cell hk⟩)
  clear hown hp hx hlen
  go_enter Try.func115, Try.ntmps115
  go_wp2_with fail
  go_loopw [5] (fun i wr => ∃ k : Nat, k ≤ j ∧ i = .int .i64 k ∧ (∀ i, i < k → L.getD i 0 < x) ∧ wr = w) (fun i _ => j - (intOf i).toNat)
  case atStart => exact ⟨0, Nat.zero_le _, rfl, fun _ h => by omega, rfl⟩
  case round =>
    obtain ⟨k, hk, rfl, hbef, hwr⟩ := hrel
    obtain rfl : w = wr := hwr.symm
    have HBF := Lib.hid hbef
    clear hbef
    by_cases hlt : k < j
    · obtain ⟨gb, rfl, hcell⟩ := HC.out k hlt
      obtain ⟨lk, hlk⟩ : ∃ lk, L.getD k 0 = lk := ⟨_, rfl⟩
      rw [hlk] at hcell
      have HLK := Lib.hid hlk
      clear hlk
      by_cases hless : lk < x
      · clear HC HO
        go_wp2
        go_roundw
        case rel => exact ⟨k + 1, by omega, by go_num, fun i hi => by
          by_cases e : i = k
          · subst e; rw [HLK.out]; exact hless
          · exact HBF.out i (by omega), trivial⟩
        case measure => simp [intOf]; omega
      · have hne : lk ≠ x := fun e => HX.out (by rw [← e, ← HLK.out]; exact at_mem (by rw [HLEN.out]; exact hlt))
        have HST := Lib.hid (show k = L.length ∨ x < L.getD k 0 from Or.inr (by rw [HLK.out]; omega))
        obtain ⟨hfl, hf1, hf2⟩ := put_facts HP.out (by rw [HLEN.out]; exact hk) HBF.out HST.out
        rw [HLEN.out] at hfl
        have hcpj : j ≤ cp := by
          obtain ⟨_, cb, hv, _, h, _⟩ := owns_head HO.out (by omega)
          have : cp = cb := by simpa using (show _ ∧ cp = cb by simpa using hv).2
          omega
        have hb1 : (lk == x) = false := beq_false_of_ne hne
        clear HLK HC
        have HONE := Lib.hid (show ∀ u ∈ intsV L, u.oneCell' = true from fun u hu => by unfold intsV at hu; obtain ⟨s, _, rfl⟩ := List.mem_map.1 hu; rfl)
        have HPL := Lib.hid (show (intsV L).length = j from by rw [intsV_len, HLEN.out])
        have HXO2 := Lib.hid (show Own w gb 3 j (fun i => (intsV L).getD i default) from Own.of_own HO.out fun i hi => by
          rw [List.getElem?_eq_getElem (by rw [HPL.out]; exact hi), List.getD_eq_getElem?_getD, List.getElem?_eq_getElem (by rw [HPL.out]; exact hi)]; rfl)
        have hgb2 : gb < w.heap.size := HXO2.out.lt
        have HPM := Lib.hid (show intsV (L.take k ++ [x] ++ L.drop k) = (intsV L).take k ++ [.int .i64 x] ++ (intsV L).drop k from by simp [intsV, List.map_take, List.map_drop])
        have HJK := Lib.hid (show k + 1 + (j - k) = j + 1 by omega)
        have HLIT := Lib.hid (show (w.alloc (.cells #[] 3)).ownsRow w.heap.size 3 1 (.slice (some ⟨w.heap.size, 0, none⟩) 0 0) 0 [] from owns_less (World.ownsRow_lit w #[] 0 (Nat.le_refl _) (by unfold maxLen; omega) rfl) (by omega))
        have hkc : k ≤ cp := by omega
        have hkc' : (k : Int) ≤ cp := by omega
        have hkj' : (k : Int) ≤ j := by omega
        have HF1 := Lib.hid hf1
        have HF2 := Lib.hid hf2
        have HFL := Lib.hid hfl
        generalize intsV L = xs at *
        clear HST hf1 hf2 hfl HP HX
        have hkq : k < cp := by omega
        have hkq' : (k : Int) < cp := by omega
        go_wp2_with (first
          | (at_builtin; refine wpList_append_own_at _ rfl _ _ _ rfl w.heap.size 3 i0 _ 1 8 Try.underlying22 hi0 hz0 hz1 hz2 rfl (by decide) (.slice (some ⟨w.heap.size, 0, none⟩) 0 0) 0 [] rfl HLIT.out ⟨gb, 0, none⟩ k cp (xs.take k) rfl (by rw [List.length_take, HPL.out]; omega) (cells_at (HXO2.out.below (below1 _ _) hgb2) HPL.out) (fun u hu => HONE.out u (List.mem_of_mem_take hu)) (by unfold maxLen; omega) (by omega) (by first | omega | (simp; done) | (simp; omega)) ?_; intro v1 w6 hown6 hgrow6 hnil6 hat6; simp only [Nat.zero_add, List.nil_append] at hown6; have HO6 := Lib.hid hown6; clear hown6 hnil6; have b6 := ((Below.refl w.heap.size w).alloc (Nat.le_refl _) (.cells #[] 3)).grown hgrow6 (by first | omega | (simp; done) | (simp; omega)) (fun i hi => by simp [Value.ownBlock] at hi; omega); have hsz6 := hgrow6.size; have hgb6 : gb < w6.heap.size := (by simp at hsz6; omega); have HX6 := Lib.hid ((HXO2.out.below (below1 _ (.cells #[] 3)) hgb2).of_block (hgrow6.block gb (by first | omega | (simp; done) | (simp; omega)) (by simp [Value.ownBlock]; omega))); have HN6 := Lib.hid (show some gb ≠ v1.ownBlock from fun e => by rcases hat6 with h | h <;> (rw [h] at e; simp [Value.ownBlock] at e; omega)); have HLE6 := Lib.hid (fun i hi => owns_le HO6.out (k := i) hi); clear hat6 hgrow6; simp only [World.size_alloc] at hsz6)
          | (at_builtin; refine wpList_append_lies _ rfl _ _ _ rfl w.heap.size 3 i0 _ 1 8 Try.underlying22 hi0 hz0 hz1 hz2 rfl (by decide) v1 k (xs.take k) rfl (HO6.out.alloc _) ⟨w6.heap.size, 0, none⟩ 1 1 [.int .i64 x] rfl rfl (World.news_of_block (cs := #[.int .i64 x]) (t := 3) (fr := (0, 0)) (heap_alloc_new w6 _)) (by simp [Value.oneCell']) (by omega) (by unfold maxLen; omega) (by omega) (by first | omega | (simp; done) | (simp; omega)) (w6.heap.size + 1) (by simp) ?_; intro g7 c7 w7 hown7 hgrow7 hat7 hlt7; have HO7 := Lib.hid hown7; clear hown7; have b7 := (b6.alloc (by omega) (.cells #[.int .i64 x] 3)).grown hgrow7 (by first | omega | (simp; done) | (simp; omega)) HLE6.out; have hsz7 := hgrow7.size; have HX7 := Lib.hid ((HX6.out.below (below1 _ (.cells #[.int .i64 x] 3)) hgb6).of_block (hgrow7.block gb (by first | omega | (simp; done) | (simp; omega)) HN6.out)); clear hgrow7 hat7; simp only [World.size_alloc] at hsz7)
          | (at_builtin; refine wpList_append_own_at _ rfl _ _ _ rfl w.heap.size 3 i0 _ 1 8 Try.underlying22 hi0 hz0 hz1 hz2 rfl (by decide) (.slice (some ⟨g7, 0, none⟩) (k + 1) c7) (k + 1) (xs.take k ++ [.int .i64 x]) rfl HO7.out ⟨gb, k, none⟩ (j - k) (cp - k) (xs.drop k) rfl (by rw [List.length_drop, HPL.out]; omega) (cells_from HX7.out HPL.out) (fun u hu => HONE.out u (List.mem_of_mem_drop hu)) (by unfold maxLen; omega) (by omega) (by omega) ?_; intro v8 w8 hown8 hgrow8 hnil8 hat8; have b8 := b7.grown hgrow8 (by omega) (fun i hi => owns_le HO7.out hi); rw [HJK.out, ← HPM.out] at hown8; obtain ⟨g8, c8, rfl, hg8, _, _⟩ := owns_head hown8 (by omega); have HO8 := Lib.hid hown8; clear hown8 hgrow8 hnil8 hat8))
        go_ret
        exact ⟨some ⟨g8, 0, none⟩, c8, rfl, L.take k ++ [x] ++ L.drop k, HFL.out, HF1.out, HF2.out, HO8.out, b8⟩
    · have hkj : k = j := by omega
      have hltI : ¬ (k : Int) < j := by omega
      have HKJ := Lib.hid hkj
      have HST := Lib.hid (show k = L.length ∨ x < L.getD k 0 from Or.inl (by rw [HLEN.out]; exact hkj))
      obtain ⟨hfl, hf1, hf2⟩ := put_facts HP.out (by rw [HLEN.out]; exact hk) HBF.out HST.out
      rw [HLEN.out] at hfl
      rcases HO.out.2 with ⟨hv, hn⟩ | ⟨gb, cb, cur, hv, hgb, hh, hcb, hcm, _⟩
      · obtain ⟨rfl, rfl, rfl⟩ : B = none ∧ j = 0 ∧ cp = 0 := by simpa using hv
        obtain rfl : k = 0 := by omega
        have HLN := Lib.hid (show L.take 0 ++ [x] ++ L.drop 0 = [x] from by
          have : L = [] := List.length_eq_zero_iff.1 HLEN.out
          subst this; rfl)
        have HLIT := Lib.hid (show (w.alloc (.cells #[] 3)).ownsRow w.heap.size 3 1 (.slice (some ⟨w.heap.size, 0, none⟩) 0 0) 0 [] from owns_less (World.ownsRow_lit w #[] 0 (Nat.le_refl _) (by unfold maxLen; omega) rfl) (by omega))
        have b6 := (Below.refl _ w).alloc (Nat.le_refl _) (.cells #[] 3)
        have HF1 := Lib.hid hf1
        have HF2 := Lib.hid hf2
        have HFL := Lib.hid hfl
        clear hf1 hf2 hfl HO hkj
        go_wp2_with (first
          | (at_builtin; refine wpList_append_own_none rfl _ _ _ rfl w.heap.size 3 i0 1 Try.underlying22 hi0 (.slice (some ⟨w.heap.size, 0, none⟩) 0 0) 0 [] rfl HLIT.out rfl ?_)
          | (at_builtin; refine wpList_append_lies _ rfl _ _ _ rfl w.heap.size 3 i0 _ 1 8 Try.underlying22 hi0 hz0 hz1 hz2 rfl (by decide) (.slice (some ⟨w.heap.size, 0, none⟩) 0 0) 0 [] rfl (HLIT.out.alloc _) ⟨w.heap.size + 1, 0, none⟩ 1 1 [.int .i64 x] rfl rfl (World.news_of_block (cs := #[.int .i64 x]) (t := 3) (fr := (0, 0)) (by have := heap_alloc_new (w.alloc (.cells #[] 3)) (.cells #[.int .i64 x] 3); simpa using this)) (by simp [Value.oneCell']) (by omega) (by unfold maxLen; omega) (by omega) (by first | omega | (simp; done) | (simp; omega)) (w.heap.size + 2) (by simp) ?_; intro g7 c7 w7 hown7 hgrow7 hat7 hlt7; simp only [Nat.zero_add, List.nil_append] at hown7; have HO7 := Lib.hid hown7; clear hown7; have b7 := (b6.alloc (by first | omega | (simp; done) | (simp; omega)) (.cells #[.int .i64 x] 3)).grown hgrow7 (by first | omega | (simp; done) | (simp; omega)) (fun i hi => owns_le HLIT.out hi); clear hgrow7 hat7)
          | (at_builtin; refine wpList_append_own_none rfl _ _ _ rfl w.heap.size 3 i0 1 Try.underlying22 hi0 (.slice (some ⟨g7, 0, none⟩) 1 c7) 1 [.int .i64 x] rfl HO7.out rfl ?_))
        go_ret
        refine ⟨some ⟨g7, 0, none⟩, c7, rfl, L.take 0 ++ [x] ++ L.drop 0, HFL.out, HF1.out, HF2.out, ?_, b7⟩
        rw [HLN.out]; exact HO7.out
      · obtain ⟨rfl, rfl⟩ : B = some ⟨gb, 0, none⟩ ∧ cp = cb := by simpa using hv
        clear hv hh hkj
        have HONE := Lib.hid (show ∀ u ∈ intsV L, u.oneCell' = true from fun u hu => by unfold intsV at hu; obtain ⟨s, _, rfl⟩ := List.mem_map.1 hu; rfl)
        have HPL := Lib.hid (show (intsV L).length = j from by rw [intsV_len, HLEN.out])
        have HXO2 := Lib.hid (show Own w gb 3 j (fun i => (intsV L).getD i default) from Own.of_own HO.out fun i hi => by
          rw [List.getElem?_eq_getElem (by rw [HPL.out]; exact hi), List.getD_eq_getElem?_getD, List.getElem?_eq_getElem (by rw [HPL.out]; exact hi)]; rfl)
        have hgb2 : gb < w.heap.size := HXO2.out.lt
        have HPM := Lib.hid (show intsV (L.take k ++ [x] ++ L.drop k) = (intsV L).take k ++ [.int .i64 x] ++ (intsV L).drop k from by simp [intsV, List.map_take, List.map_drop])
        have HJK := Lib.hid (show k + 1 + (j - k) = j + 1 by omega)
        have HLIT := Lib.hid (show (w.alloc (.cells #[] 3)).ownsRow w.heap.size 3 1 (.slice (some ⟨w.heap.size, 0, none⟩) 0 0) 0 [] from owns_less (World.ownsRow_lit w #[] 0 (Nat.le_refl _) (by unfold maxLen; omega) rfl) (by omega))
        have hkc : k ≤ cp := by omega
        have hkc' : (k : Int) ≤ cp := by omega
        have hkj' : (k : Int) ≤ j := by omega
        have HF1 := Lib.hid hf1
        have HF2 := Lib.hid hf2
        have HFL := Lib.hid hfl
        generalize intsV L = xs at *
        clear HST hf1 hf2 hfl HP HX
        rcases Nat.lt_or_ge k cp with hkq | hkq
        · have hkq' : (k : Int) < cp := by omega
          go_wp2_with (first
            | (at_builtin; refine wpList_append_own_at _ rfl _ _ _ rfl w.heap.size 3 i0 _ 1 8 Try.underlying22 hi0 hz0 hz1 hz2 rfl (by decide) (.slice (some ⟨w.heap.size, 0, none⟩) 0 0) 0 [] rfl HLIT.out ⟨gb, 0, none⟩ k cp (xs.take k) rfl (by rw [List.length_take, HPL.out]; omega) (cells_at (HXO2.out.below (below1 _ _) hgb2) HPL.out) (fun u hu => HONE.out u (List.mem_of_mem_take hu)) (by unfold maxLen; omega) (by omega) (by first | omega | (simp; done) | (simp; omega)) ?_; intro v1 w6 hown6 hgrow6 hnil6 hat6; simp only [Nat.zero_add, List.nil_append] at hown6; have HO6 := Lib.hid hown6; clear hown6 hnil6; have b6 := ((Below.refl w.heap.size w).alloc (Nat.le_refl _) (.cells #[] 3)).grown hgrow6 (by first | omega | (simp; done) | (simp; omega)) (fun i hi => by simp [Value.ownBlock] at hi; omega); have hsz6 := hgrow6.size; have hgb6 : gb < w6.heap.size := (by simp at hsz6; omega); have HX6 := Lib.hid ((HXO2.out.below (below1 _ (.cells #[] 3)) hgb2).of_block (hgrow6.block gb (by first | omega | (simp; done) | (simp; omega)) (by simp [Value.ownBlock]; omega))); have HN6 := Lib.hid (show some gb ≠ v1.ownBlock from fun e => by rcases hat6 with h | h <;> (rw [h] at e; simp [Value.ownBlock] at e; omega)); have HLE6 := Lib.hid (fun i hi => owns_le HO6.out (k := i) hi); clear hat6 hgrow6; simp only [World.size_alloc] at hsz6)
            | (at_builtin; refine wpList_append_lies _ rfl _ _ _ rfl w.heap.size 3 i0 _ 1 8 Try.underlying22 hi0 hz0 hz1 hz2 rfl (by decide) v1 k (xs.take k) rfl (HO6.out.alloc _) ⟨w6.heap.size, 0, none⟩ 1 1 [.int .i64 x] rfl rfl (World.news_of_block (cs := #[.int .i64 x]) (t := 3) (fr := (0, 0)) (heap_alloc_new w6 _)) (by simp [Value.oneCell']) (by omega) (by unfold maxLen; omega) (by omega) (by first | omega | (simp; done) | (simp; omega)) (w6.heap.size + 1) (by simp) ?_; intro g7 c7 w7 hown7 hgrow7 hat7 hlt7; have HO7 := Lib.hid hown7; clear hown7; have b7 := (b6.alloc (by omega) (.cells #[.int .i64 x] 3)).grown hgrow7 (by first | omega | (simp; done) | (simp; omega)) HLE6.out; have hsz7 := hgrow7.size; have HX7 := Lib.hid ((HX6.out.below (below1 _ (.cells #[.int .i64 x] 3)) hgb6).of_block (hgrow7.block gb (by first | omega | (simp; done) | (simp; omega)) HN6.out)); clear hgrow7 hat7; simp only [World.size_alloc] at hsz7)
            | (at_builtin; refine wpList_append_own_at _ rfl _ _ _ rfl w.heap.size 3 i0 _ 1 8 Try.underlying22 hi0 hz0 hz1 hz2 rfl (by decide) (.slice (some ⟨g7, 0, none⟩) (k + 1) c7) (k + 1) (xs.take k ++ [.int .i64 x]) rfl HO7.out ⟨gb, k, none⟩ (j - k) (cp - k) (xs.drop k) rfl (by rw [List.length_drop, HPL.out]; omega) (cells_from HX7.out HPL.out) (fun u hu => HONE.out u (List.mem_of_mem_drop hu)) (by unfold maxLen; omega) (by omega) (by omega) ?_; intro v8 w8 hown8 hgrow8 hnil8 hat8; have b8 := b7.grown hgrow8 (by omega) (fun i hi => owns_le HO7.out hi); rw [HJK.out, ← HPM.out] at hown8; obtain ⟨g8, c8, rfl, hg8, _, _⟩ := owns_head hown8 (by omega); have HO8 := Lib.hid hown8; clear hown8 hgrow8 hnil8 hat8))
          go_ret
          exact ⟨some ⟨g8, 0, none⟩, c8, rfl, L.take k ++ [x] ++ L.drop k, HFL.out, HF1.out, HF2.out, HO8.out, b8⟩
        · obtain rfl : k = cp := by omega
          have HKJ1 := Lib.hid (show k + 1 = j + 1 by omega)
          have HPM2 := Lib.hid (HPM.out.trans (by rw [List.drop_eq_nil_of_le (show xs.length ≤ k by rw [HPL.out]; omega), List.append_nil]))
          go_wp2_with (first
            | (at_builtin; refine wpList_append_own_at _ rfl _ _ _ rfl w.heap.size 3 i0 _ 1 8 Try.underlying22 hi0 hz0 hz1 hz2 rfl (by decide) (.slice (some ⟨w.heap.size, 0, none⟩) 0 0) 0 [] rfl HLIT.out ⟨gb, 0, none⟩ k k (xs.take k) rfl (by rw [List.length_take, HPL.out]; omega) (cells_at (HXO2.out.below (below1 _ _) hgb2) HPL.out) (fun u hu => HONE.out u (List.mem_of_mem_take hu)) (by unfold maxLen; omega) (by omega) (by first | omega | (simp; done) | (simp; omega)) ?_; intro v1 w6 hown6 hgrow6 hnil6 hat6; simp only [Nat.zero_add, List.nil_append] at hown6; have HO6 := Lib.hid hown6; clear hown6 hnil6; have b6 := ((Below.refl w.heap.size w).alloc (Nat.le_refl _) (.cells #[] 3)).grown hgrow6 (by first | omega | (simp; done) | (simp; omega)) (fun i hi => by simp [Value.ownBlock] at hi; omega); have hsz6 := hgrow6.size; have hgb6 : gb < w6.heap.size := (by simp at hsz6; omega); have HX6 := Lib.hid ((HXO2.out.below (below1 _ (.cells #[] 3)) hgb2).of_block (hgrow6.block gb (by first | omega | (simp; done) | (simp; omega)) (by simp [Value.ownBlock]; omega))); have HN6 := Lib.hid (show some gb ≠ v1.ownBlock from fun e => by rcases hat6 with h | h <;> (rw [h] at e; simp [Value.ownBlock] at e; omega)); have HLE6 := Lib.hid (fun i hi => owns_le HO6.out (k := i) hi); clear hat6 hgrow6; simp only [World.size_alloc] at hsz6)
            | (at_builtin; refine wpList_append_lies _ rfl _ _ _ rfl w.heap.size 3 i0 _ 1 8 Try.underlying22 hi0 hz0 hz1 hz2 rfl (by decide) v1 k (xs.take k) rfl (HO6.out.alloc _) ⟨w6.heap.size, 0, none⟩ 1 1 [.int .i64 x] rfl rfl (World.news_of_block (cs := #[.int .i64 x]) (t := 3) (fr := (0, 0)) (heap_alloc_new w6 _)) (by simp [Value.oneCell']) (by omega) (by unfold maxLen; omega) (by omega) (by first | omega | (simp; done) | (simp; omega)) (w6.heap.size + 1) (by simp) ?_; intro g7 c7 w7 hown7 hgrow7 hat7 hlt7; have HO7 := Lib.hid hown7; clear hown7; have b7 := (b6.alloc (by omega) (.cells #[.int .i64 x] 3)).grown hgrow7 (by first | omega | (simp; done) | (simp; omega)) HLE6.out; have hsz7 := hgrow7.size; have HX7 := Lib.hid ((HX6.out.below (below1 _ (.cells #[.int .i64 x] 3)) hgb6).of_block (hgrow7.block gb (by first | omega | (simp; done) | (simp; omega)) HN6.out)); clear hgrow7 hat7; simp only [World.size_alloc] at hsz7)
            | (at_builtin; refine wpList_append_own_at _ rfl _ _ _ rfl w.heap.size 3 i0 _ 1 8 Try.underlying22 hi0 hz0 hz1 hz2 rfl (by decide) (.slice (some ⟨g7, 0, none⟩) (k + 1) c7) (k + 1) (xs.take k ++ [.int .i64 x]) rfl HO7.out ⟨gb, 0, none⟩ 0 0 [] rfl rfl (fun i u hu => by simp at hu) (fun u hu => by simp at hu) (by unfold maxLen; omega) (by omega) (by omega) ?_; intro v8 w8 hown8 hgrow8 hnil8 hat8; have b8 := b7.grown hgrow8 (by omega) (fun i hi => owns_le HO7.out hi); simp only [Nat.add_zero, List.append_nil] at hown8; rw [HKJ1.out, ← HPM2.out] at hown8; obtain ⟨g8, c8, rfl, hg8, _, _⟩ := owns_head hown8 (by omega); have HO8 := Lib.hid hown8; clear hown8 hgrow8 hnil8 hat8))
          go_ret
          exact ⟨some ⟨g8, 0, none⟩, c8, rfl, L.take k ++ [x] ++ L.drop k, HFL.out, HF1.out, HF2.out, HO8.out, b8⟩
end Go.Proofs.Ytlnlkfldlgchhab
