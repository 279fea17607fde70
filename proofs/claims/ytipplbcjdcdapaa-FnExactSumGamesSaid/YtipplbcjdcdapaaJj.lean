/- The program's sums and products of games. -/
import Derived.Outline
import Derived.Test.YtipplbcjdcdapaaJf
import Derived.Test.YtipplbcjdcdapaaJh
import Derived.Lib.AppendZerosOnto
namespace Go.Proofs.Ytipplbcjdcdapaa
open Go.RowKit Vo

def joinU (both : Bool) (S U : List Nat) : List Nat := if both then S.flatMap fun s => U.map fun t => s ||| t else S ++ U
theorem joinL_eq (both : Bool) (S T : List Nat) (q : Nat) : joinL both S T q = joinU both S (behindL T q) := by unfold joinL joinU; cases both <;> rfl
/-- What joins the sets of two games. -/
def Joins (both : Bool) (f : Nat) : Prop := ∀ (S U : List Nat) (b1 b2 k1 k2 c1 c2 : Nat) (A1 A2 : Option Addr) (W : World), k1 = S.length → k2 = U.length → k1 ≠ 0 → k2 ≠ 0 → k1 ≤ 512 → k2 ≤ 512 → (∀ s ∈ S, s < 512) → (∀ u ∈ U, u < 512) → W.ownsRow b1 96 1 (.slice A1 k1 c1) k1 (setsV S) → W.ownsRow b2 96 1 (.slice A2 k2 c2) k2 (setsV U) →
  Calls Try.prog f #[.slice A1 k1 c1, .slice A2 k2 c2] W fun e w' => ∃ C c l, e = .returned (.slice C l c) ∧ l = (joinU both S U).length ∧ w'.ownsRow W.heap.size 96 1 (.slice C l c) l (setsV (joinU both S U)) ∧ Below W.heap.size W w'

theorem row_cells {w : World} {base k cap : Nat} {A : Option Addr} {S : List Nat} (hk : k = S.length) (hin : ∀ s ∈ S, s < 512) (hown : w.ownsRow base 96 1 (.slice A k cap) k (setsV S)) :
    ∀ W, Below w.heap.size w W → ∀ j, j < k → ∃ g, A = some ⟨g, 0, none⟩ ∧ g < w.heap.size ∧ W.cell? ⟨g, j, none⟩ = some (.int .u64 (S.getD j 0 : Nat)) ∧ S.getD j 0 < 512 := fun W hW j h => by
  obtain ⟨g, cap', hv, hg, _, _⟩ := owns_head hown (by omega)
  obtain ⟨rfl, rfl⟩ : A = some ⟨g, 0, none⟩ ∧ cap = cap' := by simpa using hv
  have hlt : g < w.heap.size := owns_lt hown rfl
  have ho : Own w g 96 k (fun i => .int .u64 (S.getD i 0 : Nat)) := Own.of_own hown (fun i hi => by
    have : i < S.length := by omega
    simp [setsV, List.getD_eq_getElem?_getD, this])
  exact ⟨g, rfl, hlt, (Own.below ho hW hlt).cell h, hin _ (getD_mem (by omega))⟩

/-- Each of the first j sets with all, and the next one with the first t. -/
def pairK (S U : List Nat) (j t : Nat) : List Nat := ((S.take j).flatMap fun s => U.map fun u => s ||| u) ++ (U.take t).map fun u => S.getD j 0 ||| u
theorem pairK_zero (S U : List Nat) : pairK S U 0 0 = [] := by simp [pairK]
theorem pairK_row {S U : List Nat} {j : Nat} (h : j < S.length) : pairK S U (j+1) 0 = pairK S U j U.length := by
  unfold pairK
  rw [List.take_zero, List.map_nil, List.append_nil, List.take_length, List.take_add_one, List.getElem?_eq_getElem h, List.getD_eq_getElem?_getD, List.getElem?_eq_getElem h, List.flatMap_append]
  simp
theorem pairK_succ {S U : List Nat} {j t : Nat} (h : t < U.length) : pairK S U j (t+1) = pairK S U j t ++ [S.getD j 0 ||| U.getD t 0] := by
  unfold pairK
  rw [List.take_add_one, List.getElem?_eq_getElem h, List.map_append, List.append_assoc]
  congr 2
  rw [List.getD_eq_getElem?_getD (l := U), List.getElem?_eq_getElem h]; rfl
theorem pairs_len (S U : List Nat) : (S.flatMap fun s => U.map fun t => s ||| t).length = S.length * U.length := by
  induction S with
  | nil => simp
  | cons a S ih => rw [List.flatMap_cons, List.length_append, ih, List.length_map, List.length_cons, Nat.succ_mul, Nat.add_comm]
theorem pairK_len {S U : List Nat} (h1 : S.length ≤ 512) (h2 : U.length ≤ 512) (j t : Nat) : (pairK S U j t).length ≤ 262656 := by
  unfold pairK
  rw [List.length_append, pairs_len, List.length_map]
  have a : (S.take j).length ≤ 512 := by rw [List.length_take]; omega
  have b : (U.take t).length ≤ 512 := by rw [List.length_take]; omega
  have c : (S.take j).length * U.length ≤ 512 * 512 := Nat.mul_le_mul a h2
  omega
theorem pairK_end (S U : List Nat) : pairK S U S.length 0 = joinU true S U := by unfold pairK joinU; simp

set_option maxRecDepth 20000 in
set_option maxHeartbeats 4000000 in
theorem pairs_join : Joins true 85 := by
  intro S U b1 b2 k1 k2 c1 c2 A1 A2 W hk1 hk2 _ _ h1 h2 hS hU hoS hoU
  have CS := Lib.hid (row_cells hk1 hS hoS)
  have CU := Lib.hid (row_cells hk2 hU hoU)
  have HLEN := Lib.hid (fun j t => pairK_len (S := S) (U := U) (by omega) (by omega) j t)
  have HROW := Lib.hid (fun j (h : j < k1) => show pairK S U (j+1) 0 = pairK S U j k2 from by rw [hk2]; exact pairK_row (by omega))
  have HSUC := Lib.hid (fun j t (h : t < k2) => pairK_succ (S := S) (U := U) (j := j) (t := t) (by omega))
  have HEND := Lib.hid (show pairK S U k1 0 = joinU true S U from by rw [hk1]; exact pairK_end S U)
  obtain ⟨i0, hi0, hz0, hz1, hz2i⟩ := info_parts infoSet
  clear hoS hoU hS hU hk1 hk2
  go_enter Try.func85, Try.ntmps85
  go_wp2_with fail
  go_loopw [5, 7, 12] (fun v _ i wr => ∃ (j l : Nat) (C : Option Addr) (cC : Nat), j ≤ k1 ∧ l = (pairK S U j 0).length ∧ i = .int .i64 j ∧ v = .slice C l cC ∧ wr.ownsRow W.heap.size 96 1 (.slice C l cC) l (setsV (pairK S U j 0)) ∧ Below W.heap.size W wr) (fun _ _ i _ => k1 - (intOf i).toNat)
  case atStart => exact ⟨0, 0, none, 0, Nat.zero_le _, by rw [pairK_zero]; rfl, rfl, rfl, by rw [pairK_zero]; exact World.ownsRow_nil _ _ _ _, Below.refl _ _⟩
  case round =>
    obtain ⟨j, l, C, cC, hj, hll, rfl, rfl, hown, hb⟩ := hrel
    have HO := Lib.hid hown
    have HL2 := Lib.hid hll
    have hln : l ≤ 262656 := by rw [hll]; exact HLEN.out j 0
    clear hown hll
    by_cases hlt : j < k1
    · obtain ⟨g, rfl, hgl, hcell, hs5⟩ := CS.out _ hb j hlt
      have HR := Lib.hid (HROW.out j hlt)
      have HSU := Lib.hid (HSUC.out j)
      generalize hsj : S.getD j 0 = s at *
      clear hsj
      go_wp2_with fail
      go_loopw [5, 9, 18] (fun v _ i wi => ∃ (t l : Nat) (C : Option Addr) (cC : Nat), t ≤ k2 ∧ l = (pairK S U j t).length ∧ i = .int .i64 t ∧ v = .slice C l cC ∧ wi.ownsRow W.heap.size 96 1 (.slice C l cC) l (setsV (pairK S U j t)) ∧ Below W.heap.size W wi) (fun _ _ i _ => k2 - (intOf i).toNat)
      case atStart => exact ⟨0, l, C, cC, Nat.zero_le _, HL2.out, rfl, rfl, HO.out, hb⟩
      case round =>
        obtain ⟨t, p, D, cD, ht, hpp, rfl, rfl, hown2, hb2⟩ := hrel
        have HO2 := Lib.hid hown2
        have HP2 := Lib.hid hpp
        have hpn : p ≤ 262656 := by rw [hpp]; exact HLEN.out j t
        have hsz2 := hb2.size
        clear hown2 hpp
        by_cases hlt2 : t < k2
        · obtain ⟨g2, rfl, hgl2, hcell2, hu5⟩ := CU.out _ hb2 t hlt2
          have HT := Lib.hid (HSU.out t hlt2)
          generalize U.getD t 0 = u at *
          have hor : bits BinOp.or IntKind.u64 (s : Int) (u : Int) = ((s ||| u : Nat) : Int) := u64_or_nat _ _ (by omega) (by omega)
          obtain ⟨z, hz⟩ : ∃ z, z = s ||| u := ⟨_, rfl⟩
          rw [← hz] at hor HT
          clear hz
          go_wp2_with (at_builtin; refine wpList_append_lies _ rfl _ _ _ rfl W.heap.size 96 i0 _ 1 8 Try.underlying68 hi0 hz0 hz1 hz2i rfl (by decide) (.slice D p cD) p (setsV (pairK S U j t)) rfl (HO2.out.alloc _) ⟨wr.heap.size, 0, none⟩ 1 1 [.int .u64 z] rfl rfl (World.news_of_block (cs := #[.int .u64 z]) (t := 96) (fr := (0, 0)) (heap_alloc_new wr _)) (by simp [Value.oneCell']) (by omega) (by unfold maxLen; omega) (by omega) (by simp; omega) (wr.heap.size + 1) (by simp) ?_; intro gg cap3 w6 hown6 hgrow hat hlt6)
          have hb6 : Below W.heap.size W w6 := (hb2.alloc hb2.size (.cells #[.int .u64 z] 96)).grown hgrow (by simp; omega) fun i hi => owns_le HO2.out hi
          go_roundw
          case rel => exact ⟨t + 1, p + 1, some ⟨gg, 0, none⟩, cap3, by omega, by rw [HT.out, List.length_append, ← HP2.out]; rfl, by go_num, rfl, by rw [HT.out]; simpa [setsV] using hown6, hb6⟩
          case measure => simp [intOf]; omega
        · obtain rfl : t = k2 := by omega
          rw [← HR.out] at HO2 HP2
          go_wp2
          go_roundw
          case rel => exact ⟨j + 1, p, D, cD, by omega, HP2.out, by go_num, rfl, HO2.out, hb2⟩
          case measure => simp [intOf]; omega
    · obtain rfl : j = k1 := by omega
      go_wp2
      go_ret
      exact ⟨C, cC, l, rfl, by rw [← HEND.out]; exact HL2.out, by rw [← HEND.out]; exact HO.out, hb⟩

set_option maxRecDepth 20000 in
set_option maxHeartbeats 4000000 in
theorem grow_any (n : Nat) (w : World) (h0 : n ≠ 0) (hn : n ≤ 1048576) :
    Calls Try.prog 143 #[.slice none 0 0, .int .i64 n] w fun e w' => ∃ g cap, e = .returned (.slice (some ⟨g, 0, none⟩) 0 cap) ∧ w'.ownsRow w.heap.size 96 1 (.slice (some ⟨g, 0, none⟩) 0 cap) 0 [] ∧ Below w.heap.size w w' := by
  obtain ⟨i0, hi0, hz0, hz1, hz2i⟩ := info_parts infoSet
  have h1 : ¬ ((n : Int) < 0) := by omega
  have h3 : wrap64 ((n : Int) - (0 - 0)) = (n : Int) := by unfold wrap64; omega
  have h4 : (n : Int) > 0 := by omega
  have hold : (Builtin.firstCells i0.size 0 (.slice none 0 0)).run Try.prog w.drew = .ok ([] : List Value).toArray w.drew := run_firstCells_none w.drew i0.size 0 0 0
  have hcap : grownCap w (0 + n) 0 96 ≤ maxLen := grownCap_le_maxLen w _ _ _ (by unfold maxLen; omega)
  have hge : 0 + n ≤ grownCap w (0 + n) 0 96 := grownCap_ge w _ _ _
  have hrz : ∀ ty, (Builtin.append_ #[68, 3] ty #[.slice none 0 0, .int .i64 (n : Int)]).run Try.prog w =
      .ok (.slice (some ⟨w.heap.size, 0, none⟩) (0 + n) (grownCap w (0 + n) 0 96)) (w.drew.alloc (.cells (([] : List Value).toArray ++ Builtin.zeroCells (Value.int .u64 0).cells n ++ Builtin.zeroCells (Value.int .u64 0).cells (grownCap w (0 + n) 0 96 - (0 + n))) 96)) := fun ty =>
    Lib.run_append_grow_zeros w 68 3 ty 96 i0 _ .i64 .i64 Try.underlying68 Try.underlying3 hi0 hz0 none 0 0 [] hold n (by omega) (by omega) (by omega) (by omega)
      (by rw [hz2i]; omega) (by rw [hz2i]; exact growslice_fits (by omega) (by omega))
  obtain ⟨G, hG⟩ : ∃ G, G = grownCap w (0 + n) 0 96 := ⟨_, rfl⟩
  rw [← hG] at hrz hcap hge
  clear hG
  have hown := World.ownsRow_made (base := w.heap.size) (e := 96) (size := 1) w.drew (([] : List Value).toArray ++ Builtin.zeroCells (Value.int .u64 0).cells n ++ Builtin.zeroCells (Value.int .u64 0).cells (G - (0 + n))) G (by simp) hcap (by
    simp only [Array.size_append, size_zeroCells]
    have : (Value.int IntKind.u64 0).cells.size = 1 := rfl
    rw [this]; simp; omega)
  have hbel : Below w.heap.size w (w.drew.alloc (.cells (([] : List Value).toArray ++ Builtin.zeroCells (Value.int .u64 0).cells n ++ Builtin.zeroCells (Value.int .u64 0).cells (G - (0 + n))) 96)) := (Below.refl _ w).drew.alloc (by simp) _
  unfold maxLen at hcap
  generalize (([] : List Value).toArray ++ Builtin.zeroCells (Value.int .u64 0).cells n ++ Builtin.zeroCells (Value.int .u64 0).cells (G - (0 + n))) = cur at *
  have HB := Lib.hid hbel
  have HO := Lib.hid hown
  have HRZ := Lib.hid hrz
  clear hold hbel hown hrz hi0 hz0 hz1 hz2i
  go_enter Try.func143, Try.ntmps143
  go_wp2_with (at_builtin; refine Lib.wpList_append_run _ rfl _ _ _ _ rfl _ _ rfl rfl _ _ (HRZ.out _) ?_)
  go_ret
  exact ⟨w.heap.size, G, rfl, HO.out, HB.out⟩

theorem news_of_row {w : World} {base k cap : Nat} {g : Nat} {S : List Nat} (hk : k = S.length) (hown : w.ownsRow base 96 1 (.slice (some ⟨g, 0, none⟩) k cap) k (setsV S)) :
    ∀ W, Below w.heap.size w W → ∀ j u, (setsV S)[j]? = some u → W.cell? ((⟨g, 0, none⟩ : Addr).add j) = some u := fun W hW j u hu => by
  have hlt : g < w.heap.size := owns_lt hown rfl
  have hj : j < k := by
    have := (List.getElem?_eq_some_iff.1 hu).1
    simp [setsV] at this; omega
  have ho : Own w g 96 k (fun i => .int .u64 (S.getD i 0 : Nat)) := Own.of_own hown (fun i hi => by
    have : i < S.length := by omega
    simp [setsV, List.getD_eq_getElem?_getD, this])
  have hadd : (⟨g, 0, none⟩ : Addr).add j = ⟨g, j, none⟩ := by unfold Addr.add; split <;> simp_all
  rw [hadd, (Own.below ho hW hlt).cell hj]
  have hl : j < S.length := by omega
  rw [← hu]
  simp [setsV, List.getD_eq_getElem?_getD, hl]
theorem one_sets (S : List Nat) : ∀ u ∈ setsV S, u.oneCell' = true := fun u hu => by
  unfold setsV at hu
  obtain ⟨s, _, rfl⟩ := List.mem_map.1 hu
  rfl

set_option maxRecDepth 20000 in
set_option maxHeartbeats 4000000 in
theorem concat_any (S U : List Nat) (b1 b2 k1 k2 c1 c2 g : Nat) (A1 A2 : Option Addr) (W : World) (hk1 : k1 = S.length) (hk2 : k2 = U.length) (hn1 : k1 ≠ 0) (hn2 : k2 ≠ 0) (h1 : k1 ≤ 512) (h2 : k2 ≤ 512) (hoS : W.ownsRow b1 96 1 (.slice A1 k1 c1) k1 (setsV S)) (hoU : W.ownsRow b2 96 1 (.slice A2 k2 c2) k2 (setsV U))
    (hc0 : W.cell? ⟨g, 0, none⟩ = some (.slice A1 k1 c1)) (hc1 : W.cell? ⟨g, 1, none⟩ = some (.slice A2 k2 c2)) :
    Calls Try.prog 124 #[.slice (some ⟨g, 0, none⟩) 2 2] W fun e w' => ∃ C c, e = .returned (.slice C (k1 + k2 : Nat) c) ∧ w'.ownsRow W.heap.size 96 1 (.slice C (k1 + k2 : Nat) c) (k1 + k2) (setsV (S ++ U)) ∧ Below W.heap.size W w' := by
  obtain ⟨i0, hi0, hz0, hz1, hz2i⟩ := info_parts infoSet
  obtain ⟨gS, cS', hvS, _, _, _⟩ := owns_head hoS (by omega)
  obtain ⟨rfl, rfl⟩ : A1 = some ⟨gS, 0, none⟩ ∧ c1 = cS' := by simpa using hvS
  obtain ⟨gU, cU', hvU, _, _, _⟩ := owns_head hoU (by omega)
  obtain ⟨rfl, rfl⟩ : A2 = some ⟨gU, 0, none⟩ ∧ c2 = cU' := by simpa using hvU
  have HNS := Lib.hid (news_of_row hk1 hoS)
  have HNU := Lib.hid (news_of_row hk2 hoU)
  have HLS := Lib.hid (show (setsV S).length = k1 * 1 from by simp [setsV, hk1])
  have HLU := Lib.hid (show (setsV U).length = k2 * 1 from by simp [setsV, hk2])
  have HGR := Lib.hid (fun w => grow_any (k1 + k2) w (by omega) (by omega))
  have hgl : g < W.heap.size := World.block_lt_of_cell? W _ hc0
  have HC := Lib.hid (show ∀ W', Below W.heap.size W W' → W'.cell? ⟨g, 0, none⟩ = some (.slice (some ⟨gS, 0, none⟩) k1 c1) ∧ W'.cell? ⟨g, 1, none⟩ = some (.slice (some ⟨gU, 0, none⟩) k2 c2) from fun W' h => ⟨(h.cell (p := ⟨g, 0, none⟩) hgl).trans hc0, (h.cell (p := ⟨g, 1, none⟩) hgl).trans hc1⟩)
  have HAP := Lib.hid (show setsV S ++ setsV U = setsV (S ++ U) from by simp [setsV])
  clear hoS hoU hvS hvU hk1 hk2
  go_enter Try.func124, Try.ntmps124
  go_wp2_with fail
  go_loopw [3, 5, 11] (fun s _ i wr => ((i = .int .i64 0 ∧ s = .int .i64 0) ∨ (i = .int .i64 1 ∧ s = .int .i64 (k1 : Nat)) ∨ (i = .int .i64 2 ∧ s = .int .i64 (k1 + k2 : Nat))) ∧ wr = W) (fun _ _ i _ => 2 - (intOf i).toNat)
  case atStart => exact ⟨Or.inl ⟨rfl, rfl⟩, rfl⟩
  case round =>
    obtain ⟨h, hw⟩ := hrel
    obtain rfl : W = wr := hw.symm
    rcases h with ⟨rfl, rfl⟩ | ⟨rfl, rfl⟩ | ⟨rfl, rfl⟩
    · go_wp2
      go_roundw
      case rel => exact ⟨Or.inr (Or.inl ⟨rfl, by go_num⟩), trivial⟩
      case measure => simp [intOf]
    · have hnn : ¬ ((k1 : Int) + k2 < 0) := by omega
      go_wp2
      go_roundw
      case rel => exact ⟨Or.inr (Or.inr ⟨rfl, by go_num⟩), trivial⟩
      case measure => simp [intOf]
    · go_wp2_with fail
      refine (HGR.out _).mono ?_
      rintro e w1 ⟨gn, cn, rfl, hown1, hb1⟩
      have HO1 := Lib.hid hown1
      have hb1s := hb1
      clear hown1 hc0 hc1
      go_wp2_with fail
      go_loopw [6, 8, 27] (fun v _ i wn => Below W.heap.size W wn ∧ ((i = .int .i64 0 ∧ ∃ C cC, v = .slice C 0 cC ∧ wn.ownsRow W.heap.size 96 1 (.slice C 0 cC) 0 []) ∨ (i = .int .i64 1 ∧ ∃ C cC, v = .slice C k1 cC ∧ wn.ownsRow W.heap.size 96 1 (.slice C k1 cC) k1 (setsV S)) ∨ (i = .int .i64 2 ∧ ∃ C cC, v = .slice C (k1 + k2 : Nat) cC ∧ wn.ownsRow W.heap.size 96 1 (.slice C (k1 + k2 : Nat) cC) (k1 + k2) (setsV (S ++ U))))) (fun _ _ i _ => 2 - (intOf i).toNat)
      case atStart => exact ⟨hb1, Or.inl ⟨rfl, _, _, rfl, HO1.out⟩⟩
      case round =>
        obtain ⟨hb, h⟩ := hrel
        obtain ⟨hc0, hc1⟩ := HC.out _ hb
        rcases h with ⟨rfl, C, cC, rfl, hown⟩ | ⟨rfl, C, cC, rfl, hown⟩ | ⟨rfl, C, cC, rfl, hown⟩
        · have HO := Lib.hid hown
          clear hown
          go_wp2_with (at_builtin; refine wpList_append_lies _ rfl _ _ _ rfl W.heap.size 96 i0 _ 1 8 Try.underlying68 hi0 hz0 hz1 hz2i rfl (by decide) (.slice C 0 cC) 0 [] rfl HO.out ⟨gS, 0, none⟩ k1 c1 (setsV S) rfl HLS.out (HNS.out _ hb) (one_sets S) (by omega) (by unfold maxLen; omega) (by omega) hb.size wr.heap.size rfl ?_; intro gg cap3 w6 hown6 hgrow hat hlt6)
          have hb6 : Below W.heap.size W w6 := hb.grown hgrow hb.size fun i hi => owns_le HO.out hi
          go_roundw
          case rel => exact ⟨hb6, Or.inr (Or.inl ⟨rfl, some ⟨gg, 0, none⟩, cap3, by first | rfl | simp, by simpa using hown6⟩)⟩
          case measure => simp [intOf]
        · have HO := Lib.hid hown
          clear hown
          go_wp2_with (at_builtin; refine wpList_append_lies _ rfl _ _ _ rfl W.heap.size 96 i0 _ 1 8 Try.underlying68 hi0 hz0 hz1 hz2i rfl (by decide) (.slice C k1 cC) k1 (setsV S) rfl HO.out ⟨gU, 0, none⟩ k2 c2 (setsV U) rfl HLU.out (HNU.out _ hb) (one_sets U) (by omega) (by unfold maxLen; omega) (by omega) hb.size wr.heap.size rfl ?_; intro gg cap3 w6 hown6 hgrow hat hlt6)
          have hb6 : Below W.heap.size W w6 := hb.grown hgrow hb.size fun i hi => owns_le HO.out hi
          go_roundw
          case rel => exact ⟨hb6, Or.inr (Or.inr ⟨rfl, some ⟨gg, 0, none⟩, cap3, by first | rfl | simp, by rw [← HAP.out]; exact hown6⟩)⟩
          case measure => simp [intOf]
        · have HO := Lib.hid hown
          clear hown
          go_wp2
          go_ret
          exact ⟨C, cC, rfl, HO.out, hb⟩

set_option maxRecDepth 20000 in
set_option maxHeartbeats 4000000 in
theorem concat_join : Joins false 84 := by
  intro S U b1 b2 k1 k2 c1 c2 A1 A2 W hk1 hk2 hn1 hn2 h1 h2 hS hU hoS hoU
  have hb0 := below1 W (.cells #[.slice A1 k1 c1, .slice A2 k2 c2] 68)
  have HCC := Lib.hid (fun cc0 cc1 => concat_any S U b1 b2 k1 k2 c1 c2 W.heap.size A1 A2 (W.alloc (.cells #[.slice A1 k1 c1, .slice A2 k2 c2] 68)) hk1 hk2 hn1 hn2 h1 h2 (owns_now hoS hb0) (owns_now hoU hb0) cc0 cc1)
  have HL := Lib.hid (show (k1 + k2 : Nat) = (joinU false S U).length from by unfold joinU; simp [hk1, hk2])
  have HE := Lib.hid (show S ++ U = joinU false S U from rfl)
  clear hoS hoU hS hU hk1 hk2
  go_enter Try.func84, Try.ntmps84
  go_wp2_with fail
  refine (HCC.out (by simp [go_sem]) (by simp [go_sem])).mono ?_
  rintro e w1 ⟨C, c, rfl, hown, hb1⟩
  go_wp2
  go_ret
  simp only [World.size_alloc] at hown
  rw [HE.out] at hown
  exact ⟨C, c, _, rfl, HL.out, owns_less hown (by omega), bfrom hb0 hb1⟩

end Go.Proofs.Ytipplbcjdcdapaa

namespace Go.Proofs.Ytipplbcjdcdapaa
open Go.RowKit Vo

theorem readG_gen {m : Int} {L : List (List Int)} {w w' : World} {e : Ending} (h : ReadG m L w w' e) : ∃ (m1 : Int) (B : Option Addr) (l cp : Nat) (ok1 : Bool), e = .returned (.tuple #[.agg #[.int .i64 m1, .slice B l cp], .bool ok1]) ∧ Below w.heap.size w w' ∧ goodG m L = ok1 ∧ 0 ≤ m1 ∧ m1 ≤ 9 ∧
    (ok1 = true → m1 = m ∧ l = (setsN L).length ∧ l ≠ 0 ∧ l ≤ 512 ∧ w'.ownsRow w.heap.size 96 1 (.slice B l cp) l (setsV (setsN L))) := by
  obtain ⟨hb, h⟩ := h
  rcases h with ⟨hg, B, cp, rfl, hown⟩ | ⟨hg, rfl⟩
  · obtain ⟨h1, h9, hne, hr, hS⟩ := goodG_parts hg
    have hlen : (setsN L).length = L.length := by simp [setsN]
    refine ⟨m, B, L.length, cp, true, rfl, hb, hg, by omega, h9, fun _ => ⟨rfl, hlen.symm, fun e => hne (List.length_eq_zero_iff.1 e), ?_, hown⟩⟩
    rw [← hlen, hS]
    exact leastL_len fun s hs => setsN_512 (n := m.toNat) (by omega) hr s (inS_iff.1 hs)
  · exact ⟨0, none, 0, 0, false, rfl, hb, hg, by omega, by omega, fun h => by cases h⟩

set_option maxRecDepth 20000 in
set_option maxHeartbeats 8000000 in
theorem joinGames_any (both : Bool) (f : Nat) (hf : Joins both f) (ef : ∀ args W, (callFunc f args).run Try.prog W = .ok (.enter f args) W) (m : Int) (A : Option Addr) (n cap : Nat) (L : List (List Int)) (m2 : Int) (A2 : Option Addr) (n2 cap2 : Nat) (L2 : List (List Int)) (w : World) (hl : n ≤ 1048576) (hk : Lists w A n L) (hl2 : n2 ≤ 1048576) (hk2 : Lists w A2 n2 L2) :
    Calls Try.prog 83 #[.agg #[.int .i64 m, .slice A n cap], .agg #[.int .i64 m2, .slice A2 n2 cap2], .func (.func f) #[] #[]] w fun e w' => AnsG RSS (okM (joinOk m L m2 L2) (m + m2)) (okG (joinOk m L m2 L2) (joinS both m L L2)) (joinOk m L m2 L2) w w' e := by
  have HLEN := Lib.hid hk.1
  have HLENB := Lib.hid hk2.1
  have hb0 : Below w.heap.size w (((w.alloc (.cells #[.int .i64 m, .slice A n cap] 28)).alloc (.cells #[.int .i64 m2, .slice A2 n2 cap2] 28)).alloc (.cells #[.int .i64 0, .slice none 0 0] 28)) := ((below1 w _).alloc (by simp) _).alloc (by simp; omega) _
  have HK := Lib.hid (hk.now hb0)
  have HKB := Lib.hid (hk2.now hb0)
  have hx := ((BoxT.new 28 w (.int .i64 m) (.slice A n cap)).alloc (.cells #[.int .i64 m2, .slice A2 n2 cap2] 28)).alloc (.cells #[.int .i64 0, .slice none 0 0] 28)
  have hy := (BoxT.new 28 (w.alloc (.cells #[.int .i64 m, .slice A n cap] 28)) (.int .i64 m2) (.slice A2 n2 cap2)).alloc (.cells #[.int .i64 0, .slice none 0 0] 28)
  have hr := BoxT.new 28 ((w.alloc (.cells #[.int .i64 m, .slice A n cap] 28)).alloc (.cells #[.int .i64 m2, .slice A2 n2 cap2] 28)) (.int .i64 0) (.slice none 0 0)
  simp only [World.size_alloc] at hy hr
  clear hk hk2
  have KF := Lib.hid (show ∀ W, BoxT 28 W (w.heap.size + 1 + 1) (.int .i64 0) (.slice none 0 0) → (W.frozen? ⟨w.heap.size + 1 + 1, 0, none⟩ = false ∧ W.frozen? ⟨w.heap.size + 1 + 1, 1, none⟩ = false) from fun W h => by unfold BoxT at h; exact ⟨by simp [World.frozen?, h], by simp [World.frozen?, h]⟩)
  have NO := Lib.hid (show joinOk m L m2 L2 = false → okM (joinOk m L m2 L2) (m + m2) = 0 ∧ okG (joinOk m L m2 L2) (joinS both m L L2) = [] from fun h => ⟨okM_no h, okG_no h⟩)
  obtain ⟨i0, hi0, hz0, hz1, hz2i⟩ := info_parts infoSet
  obtain ⟨c0, c1⟩ := hx.cells
  go_enter Try.func83, Try.ntmps83
  go_wp2_with fail
  refine (readGame_any m A n cap L _ hl HK.out).mono ?_
  rintro e w1 h
  obtain ⟨m1, B, l, cp, ok1, rfl, hb1, hg1, h01, h91, hy1⟩ := readG_gen h
  have g1 := bfrom hb0 hb1
  have hy1b := hy.now hb1
  have hr1 := hr.now hb1
  have hz1s : w.heap.size + 3 ≤ w1.heap.size := by have := hb1.size; simp at this; omega
  have HKB1 := Lib.hid (HKB.out.now hb1)
  have HY1 := Lib.hid hy1
  clear hx hy hr hb1 c0 c1 HK h hy1
  have b1a := below1 w1 (.cells #[.int .i64 m1, .slice B l cp] 71)
  have hp := BoxT.new 71 w1 (.int .i64 m1) (.slice B l cp)
  have hy2 := hy1b.now b1a
  obtain ⟨d0, d1⟩ := hy2.cells
  have hr2 := hr1.now b1a
  have HKB2 := Lib.hid (HKB1.out.now b1a)
  obtain ⟨w2, hw2⟩ : ∃ w2, w2 = w1.alloc (.cells #[.int .i64 m1, .slice B l cp] 71) := ⟨_, rfl⟩
  rw [← hw2] at hp hy2 hr2 HKB2
  have hz2 : w2.heap.size = w1.heap.size + 1 := by rw [hw2]; simp
  have g2 : Below w.heap.size w w2 := by rw [hw2]; exact bfrom g1 b1a
  have HB12 := Lib.hid (show Below w1.heap.size w1 w2 from by rw [hw2]; exact b1a)
  clear hy1b hr1 g1 b1a HKB1
  go_wp2_with fail
  rw [← hw2]
  clear hw2
  refine (readGame_any m2 A2 n2 cap2 L2 _ hl2 HKB2.out).mono ?_
  rintro e w3 h
  obtain ⟨mB, D, lB, cB, ok2, rfl, hb3, hg2, h02, h92, hy3⟩ := readG_gen h
  have g3 := bfrom g2 hb3
  have hp3 := hp.now hb3
  have hr3 := hr2.now hb3
  have hz3 := hb3.size
  have HB13 := Lib.hid (bfrom HB12.out hb3)
  have HY3 := Lib.hid hy3
  clear hp hy2 hr2 hb3 d0 d1 HKB HKB2 h hy3 g2
  have b3a := below1 w3 (.cells #[.int .i64 mB, .slice D lB cB] 71)
  have hq := BoxT.new 71 w3 (.int .i64 mB) (.slice D lB cB)
  have hp4 := hp3.now b3a
  have hr4 := hr3.now b3a
  obtain ⟨p0, p1⟩ := hp4.cells
  obtain ⟨q0, q1⟩ := hq.cells
  obtain ⟨c2, c3⟩ := hr4.cells
  obtain ⟨f0, f1⟩ := KF.out _ hr4
  obtain ⟨w4, hw4⟩ : ∃ w4, w4 = w3.alloc (.cells #[.int .i64 mB, .slice D lB cB] 71) := ⟨_, rfl⟩
  rw [← hw4] at hq hp4 hr4
  have hz4 : w4.heap.size = w3.heap.size + 1 := by rw [hw4]; simp
  have g4 : Below w.heap.size w w4 := by rw [hw4]; exact bfrom g3 b3a
  have HB34 := Lib.hid (show Below w3.heap.size w3 w4 from by rw [hw4]; exact b3a)
  obtain ⟨e2, e3⟩ := hr4.cells
  have hz1b : w.heap.size + 1 + 1 < w1.heap.size := by omega
  clear hp3 hr3 g3 b3a
  cases ok1 with
  | false =>
    have HNOK := Lib.hid (joinOk_first (L := L) (k := m2) (K := L2) hg1)
    obtain ⟨n1, n2'⟩ := NO.out HNOK.out
    have N1 := Lib.hid n1
    have N2 := Lib.hid n2'
    clear n1 n2' hg1 hg2
    go_wp2_with fail
    rw [← hw4]
    refine bodyPost_ret (v := .tuple #[.agg #[.int .i64 0, .slice none 0 0], .bool false]) (by simp [results, Try.results83, go_sem, e2, e3]) rfl ?_
    rw [N1.out, N2.out, HNOK.out]
    exact AnsG.none_ RSS.none_ ((g4.setCell (by simp; try omega) _).setCell (by simp; try omega) _)
  | true =>
    obtain ⟨rfl, hl1, hl0, hl5, ho1⟩ := HY1.out rfl
    have HL1 := Lib.hid hl1
    have HO1 := Lib.hid ho1
    clear hl1 ho1
    cases ok2 with
    | false =>
      have HNOK := Lib.hid (joinOk_second (m := m1) (L := L) hg2)
      obtain ⟨n1, n2'⟩ := NO.out HNOK.out
      have N1 := Lib.hid n1
      have N2 := Lib.hid n2'
      clear n1 n2' hg1 hg2
      go_wp2_with fail
      rw [← hw4]
      refine bodyPost_ret (v := .tuple #[.agg #[.int .i64 0, .slice none 0 0], .bool false]) (by simp [results, Try.results83, go_sem, e2, e3]) rfl ?_
      rw [N1.out, N2.out, HNOK.out]
      exact AnsG.none_ RSS.none_ ((g4.setCell (by simp; try omega) _).setCell (by simp; try omega) _)
    | true =>
      obtain ⟨rfl, hlB, hlB0, hlB5, ho3⟩ := HY3.out rfl
      have HLB := Lib.hid hlB
      have HO3 := Lib.hid ho3
      clear hlB ho3
      by_cases hsum : m1 + mB ≤ 9
      · have HYOK := Lib.hid (joinOk_yes hg1 hg2 hsum)
        have HM1 := Lib.hid (okM_yes (m := m1 + mB) HYOK.out)
        have HM2 := Lib.hid (okG_yes (S := joinS both m1 L L2) HYOK.out)
        obtain ⟨a1, a9, _, ar, _⟩ := goodG_parts hg1
        obtain ⟨z1, z9, _, zr, _⟩ := goodG_parts hg2
        obtain ⟨q, rfl⟩ : ∃ q : Nat, m1 = q := ⟨m1.toNat, by omega⟩
        obtain ⟨r, rfl⟩ : ∃ r : Nat, mB = r := ⟨mB.toNat, by omega⟩
        rw [Int.toNat_natCast] at ar zr
        have hq9 : q + r ≤ 9 := by omega
        have hS2 : ∀ s ∈ setsN L, s < 2^q := setsN_lt (by omega) ar
        have hT2 : ∀ s ∈ setsN L2, s < 2^r := setsN_lt (by omega) zr
        have HJS := Lib.hid (show joinS both (q : Int) L L2 = leastL (inS (joinU both (setsN L) (behindL (setsN L2) q))) from by unfold joinS; rw [joinL_eq, Int.toNat_natCast])
        obtain ⟨S, hS⟩ : ∃ S, S = setsN L := ⟨_, rfl⟩
        obtain ⟨T, hT⟩ : ∃ T, T = setsN L2 := ⟨_, rfl⟩
        rw [← hS] at HL1 HO1 HJS hS2
        rw [← hT] at HLB HO3 HJS hT2
        clear hS hT hg1 hg2 hsum
        have hp512 : (2:Nat)^(q+r) ≤ 2^9 := Nat.pow_le_pow_right (by omega) (by omega)
        have hU2 := behind_lt (q := q) hT2
        have hS5 : ∀ s ∈ S, s < 512 := fun s h => by have := hS2 s h; have h2 : (2:Nat)^q ≤ 2^(q+r) := Nat.pow_le_pow_right (by omega) (by omega); omega
        have hU5 : ∀ s ∈ behindL T q, s < 512 := fun s h => by have := hU2 s h; omega
        have hT5 : ∀ s ∈ T, s < 512 := fun s h => by have := hT2 s h; have h2 : (2:Nat)^r ≤ 2^(q+r) := Nat.pow_le_pow_right (by omega) (by omega); omega
        have hJ5 : ∀ s ∈ joinU both S (behindL T q), s < 512 := fun s h => by
          rw [← joinL_eq] at h
          have := joinL_lt hS2 hT2 s h; omega
        have hJl : (joinU both S (behindL T q)).length ≤ 1048576 := by
          have e1 : S.length ≤ 512 := by rw [← HL1.out]; exact hl5
          have e2 : (behindL T q).length ≤ 512 := by unfold behindL; rw [List.length_map, ← HLB.out]; exact hlB5
          unfold joinU
          cases both with
          | true =>
            simp only [if_true]
            rw [pairs_len]
            have : S.length * (behindL T q).length ≤ 512 * 512 := Nat.mul_le_mul e1 e2
            omega
          | false => simp only [Bool.false_eq_true, if_false, List.length_append]; omega
        have HCT := Lib.hid (row_cells HLB.out hT5 HO3.out)
        have HB24 := Lib.hid (bfrom HB13.out HB34.out)
        have HK := Lib.hid (show ∀ W, Below w4.heap.size w4 W → (W.cell? ⟨w1.heap.size, 0, none⟩ = some (.int .i64 q) ∧ W.cell? ⟨w1.heap.size, 1, none⟩ = some (.slice B l cp) ∧ W.cell? ⟨w.heap.size + 1 + 1, 0, none⟩ = some (.int .i64 0) ∧ W.cell? ⟨w.heap.size + 1 + 1, 1, none⟩ = some (.slice none 0 0) ∧ W.frozen? ⟨w.heap.size + 1 + 1, 0, none⟩ = false ∧ W.frozen? ⟨w.heap.size + 1 + 1, 1, none⟩ = false) from fun W hb => ⟨(hp4.now hb).cells.1, (hp4.now hb).cells.2, (hr4.now hb).cells.1, (hr4.now hb).cells.2, (KF.out _ (hr4.now hb)).1, (KF.out _ (hr4.now hb)).2⟩)
        have HKQ := Lib.hid (show ∀ W, Below w4.heap.size w4 W → (W.cell? ⟨w3.heap.size, 0, none⟩ = some (.int .i64 r) ∧ W.cell? ⟨w3.heap.size, 1, none⟩ = some (.slice D lB cB)) from fun W hb => (hq.now hb).cells)
        have HTK := Lib.hid (show ∀ j, j < lB → behindL (T.take (j+1)) q = behindL (T.take j) q ++ [T.getD j 0 * 2^q] ∧ T.getD j 0 * 2^q < 512 from fun j h => by
          have hj : j < T.length := by rw [← HLB.out]; exact h
          refine ⟨?_, hU5 _ (List.mem_map.2 ⟨_, getD_mem hj, rfl⟩)⟩
          unfold behindL
          rw [List.take_add_one, List.getElem?_eq_getElem hj, List.getD_eq_getElem?_getD, List.getElem?_eq_getElem hj]
          simp only [List.map_append, Option.toList, List.map_cons, List.map_nil, Option.getD_some])
        have HALL := Lib.hid (show T.take lB = T from by rw [HLB.out, List.take_length])
        have HJO := Lib.hid (fun (W : World) (b2 : Nat) (C : Option Addr) (cC : Nat) (hb : Below w4.heap.size w4 W) (ho2 : W.ownsRow b2 96 1 (.slice C lB cC) lB (setsV (behindL T q))) => hf S (behindL T q) _ b2 l lB cp cC B C W HL1.out (by unfold behindL; rw [List.length_map]; exact HLB.out) hl0 hlB0 hl5 hlB5 hS5 hU5 (owns_now HO1.out (bfrom HB24.out hb)) ho2)
        have HGA := Lib.hid (fun (base k' cap' : Nat) (A' : Option Addr) (W : World) h1 h2 => gameOfAny_any (joinU both S (behindL T q)) ((q : Int) + r) base k' cap' A' W h1 (by rw [h1]; exact hJl) hJ5 h2)
        rw [← HJS.out] at HGA
        obtain ⟨i0, hi0, hz0, hz1, hz2i⟩ := info_parts infoSet
        obtain ⟨X, hX⟩ : ∃ X, X = joinS both (q : Int) L L2 := ⟨_, rfl⟩
        rw [← hX] at HGA HM2
        have HXX := Lib.hid hX
        clear hX
        obtain ⟨pl, hpl⟩ : ∃ p, p = X.length := ⟨_, rfl⟩
        rw [← hpl] at HGA
        have HJL := Lib.hid (show (setsL X).length = pl from by rw [setsL_len, hpl])
        have HW4 := Lib.hid hw4
        clear hpl hS2 hT2 hU2 hS5 hU5 hT5 hJ5 hJl ar zr hp4 hr4 hq hp512 HO1 HO3
        go_wp2_with (at_make; refine wpList_make_own _ rfl _ _ 68 rfl w4.heap.size 96 i0 (.int .u64 0) 1 Try.underlying68 hi0 hz0 hz1 .i64 .i64 lB lB rfl rfl rfl (by rw [hz2i]; omega) (by unfold maxLen; omega) (by simp; try omega) ?_; intro w5 hown5 hgrow5; rw [← HW4.out] at hgrow5; have hb5 : Below w4.heap.size w4 w5 := (Below.refl _ w4).grown hgrow5 (Nat.le_refl _) (fun j hj => by cases hj); obtain ⟨r0, r1⟩ := HKQ.out _ hb5)
        have HO5 := Lib.hid hown5
        clear hown5 hgrow5
        go_loopw [13, 15, 49] (fun v _ i wr => ∃ (j : Nat) (C : Option Addr) (cC : Nat), j ≤ lB ∧ i = .int .i64 j ∧ v = .slice C j cC ∧ wr.ownsRow w4.heap.size 96 1 (.slice C j cC) j (setsV (behindL (T.take j) q)) ∧ Below w4.heap.size w4 wr) (fun _ _ i _ => lB - (intOf i).toNat)
        case atStart => exact ⟨0, _, _, Nat.zero_le _, rfl, rfl, by simpa [behindL, setsV] using HO5.out, hb5⟩
        case round =>
          obtain ⟨j, C, cC, hj, rfl, rfl, hown, hb⟩ := hrel
          have HO := Lib.hid hown
          have hsz := hb.size
          obtain ⟨k0, k1, k2, k3, k4, k5⟩ := HK.out _ hb
          clear hown
          by_cases hlt : j < lB
          · obtain ⟨g, rfl, hgl, hcell, ht5⟩ := HCT.out _ (bfrom HB34.out hb) j hlt
            obtain ⟨htk, hz5⟩ := HTK.out j hlt
            have HT := Lib.hid htk
            clear htk
            generalize T.getD j 0 = t at *
            have hsl : IntKind.u64.wrap ((t : Int) * 2^q) = ((t * 2^q : Nat) : Int) := by
              rw [show (t : Int) * 2^q = ((t * 2^q : Nat) : Int) from by simp]
              exact IntWalk.u64_in _ (by omega)
            obtain ⟨z, hz⟩ : ∃ z, z = t * 2^q := ⟨_, rfl⟩
            rw [← hz] at hsl HT hz5
            clear hz
            go_wp2_with (at_builtin; refine wpList_append_lies _ rfl _ _ _ rfl w4.heap.size 96 i0 _ 1 8 Try.underlying68 hi0 hz0 hz1 hz2i rfl (by decide) (.slice C j cC) j (setsV (behindL (T.take j) q)) rfl (HO.out.alloc _) ⟨wr.heap.size, 0, none⟩ 1 1 [.int .u64 z] rfl rfl (World.news_of_block (cs := #[.int .u64 z]) (t := 96) (fr := (0, 0)) (heap_alloc_new wr _)) (by simp [Value.oneCell']) (by omega) (by unfold maxLen; omega) (by omega) (by simp; omega) (wr.heap.size + 1) (by simp) ?_; intro gg cap3 w6 hown6 hgrow hat hlt6)
            have hb6 : Below w4.heap.size w4 w6 := (hb.alloc hb.size (.cells #[.int .u64 z] 96)).grown hgrow (by simp; omega) fun i hi => owns_le HO.out hi
            go_roundw
            case rel => exact ⟨j + 1, some ⟨gg, 0, none⟩, cap3, by omega, by go_num, rfl, by rw [HT.out]; simpa [setsV] using hown6, hb6⟩
            case measure => simp [intOf]; omega
          · obtain rfl : j = lB := by omega
            rw [HALL.out] at HO
            have HJC := Lib.hid (HJO.out wr _ C cC hb HO.out)
            go_wp2_with (first
              | (go_at_fn f; refine HJC.out.mono ?_; rintro e w7 ⟨C7, c7, l7, rfl, hl7, hown7, hb7⟩; have HL7 := Lib.hid hl7; have HO7 := Lib.hid hown7; clear hl7 hown7; have gb7 := bfrom hb hb7; obtain ⟨k10, k11, k12, k13, k14, k15⟩ := HK.out _ gb7)
              | (go_at_call 69; refine (HGA.out _ _ _ _ _ HL7.out HO7.out).mono ?_; rintro e w8 ⟨D8, c8, rfl, hl8, hb8⟩; have HL8 := Lib.hid hl8; clear hl8; have gb8 := bfrom gb7 hb8; obtain ⟨k20, k21, k22, k23, k24, k25⟩ := HK.out _ gb8))
            have g8 := bfrom g4 gb8
            have hz7 := hb7.size
            have hz8 := hb8.size
            refine bodyPost_ret (v := .tuple #[.agg #[.int .i64 ((q : Int) + r), .slice D8 pl c8], .bool true]) (by simp [results, Try.results83, go_sem, k22, k23]) rfl ?_
            rw [HM1.out, ← HXX.out, HM2.out, HYOK.out]
            refine ⟨D8, c8, by rw [HJL.out], ?_, ?_⟩
            · rw [HJL.out]
              exact Lies.rss_wide (Lies.far (Lies.far HL8.out (by first | omega | (simp; done) | (simp; omega)) _) (by first | omega | (simp; done) | (simp; omega)) _) (by omega) (by first | exact Nat.le_refl _ | simp) (by first | exact Nat.le_refl _ | simp)
            · exact (g8.setCell (by simp; try omega) _).setCell (by simp; try omega) _
      · have hgt : (9 : Int) < m1 + mB := by omega
        have HNOK := Lib.hid (joinOk_many (L := L) (K := L2) hsum)
        obtain ⟨n1, n2'⟩ := NO.out HNOK.out
        have N1 := Lib.hid n1
        have N2 := Lib.hid n2'
        clear n1 n2' hg1 hg2 hsum
        go_wp2_with fail
        rw [← hw4]
        refine bodyPost_ret (v := .tuple #[.agg #[.int .i64 0, .slice none 0 0], .bool false]) (by simp [results, Try.results83, go_sem, e2, e3]) rfl ?_
        rw [N1.out, N2.out, HNOK.out]
        exact AnsG.none_ RSS.none_ ((g4.setCell (by simp; try omega) _).setCell (by simp; try omega) _)

set_option maxRecDepth 20000 in
set_option maxHeartbeats 1000000 in
theorem iSumGames_any (m : Int) (A : Option Addr) (n cap : Nat) (L : List (List Int)) (m2 : Int) (A2 : Option Addr) (n2 cap2 : Nat) (L2 : List (List Int)) (w : World) (hl : n ≤ 1048576) (hk : Lists w A n L) (hl2 : n2 ≤ 1048576) (hk2 : Lists w A2 n2 L2) :
    Calls Try.prog 41 #[.agg #[.int .i64 m, .slice A n cap], .agg #[.int .i64 m2, .slice A2 n2 cap2]] w fun e w' => AnsG RSS (okM (joinOk m L m2 L2) (m + m2)) (okG (joinOk m L m2 L2) (joinS false m L L2)) (joinOk m L m2 L2) w w' e := by
  have hb0 : Below w.heap.size w (((w.alloc (.cells #[.int .i64 m, .slice A n cap] 28)).alloc (.cells #[.int .i64 m2, .slice A2 n2 cap2] 28)).alloc (.cells #[.int .i64 0, .slice none 0 0] 28)) := ((below1 w _).alloc (by simp) _).alloc (by simp; omega) _
  have H := Lib.hid (joinGames_any false 84 concat_join (enters_of Try.func84 (by kernel_rfl) rfl) m A n cap L m2 A2 n2 cap2 L2 _ hl (hk.now hb0) hl2 (hk2.now hb0))
  have hx := ((BoxT.new 28 w (.int .i64 m) (.slice A n cap)).alloc (.cells #[.int .i64 m2, .slice A2 n2 cap2] 28)).alloc (.cells #[.int .i64 0, .slice none 0 0] 28)
  have hy := (BoxT.new 28 (w.alloc (.cells #[.int .i64 m, .slice A n cap] 28)) (.int .i64 m2) (.slice A2 n2 cap2)).alloc (.cells #[.int .i64 0, .slice none 0 0] 28)
  have hr := BoxT.new 28 ((w.alloc (.cells #[.int .i64 m, .slice A n cap] 28)).alloc (.cells #[.int .i64 m2, .slice A2 n2 cap2] 28)) (.int .i64 0) (.slice none 0 0)
  simp only [World.size_alloc] at hy hr
  clear hk hk2 hl hl2
  have KF := Lib.hid (show ∀ W, BoxT 28 W (w.heap.size + 1 + 1) (.int .i64 0) (.slice none 0 0) → (W.frozen? ⟨w.heap.size + 1 + 1, 0, none⟩ = false ∧ W.frozen? ⟨w.heap.size + 1 + 1, 1, none⟩ = false) from fun W h => by unfold BoxT at h; exact ⟨by simp [World.frozen?, h], by simp [World.frozen?, h]⟩)
  obtain ⟨c0, c1⟩ := hx.cells
  obtain ⟨d0, d1⟩ := hy.cells
  generalize okM (joinOk m L m2 L2) (m + m2) = mm at *
  generalize okG (joinOk m L m2 L2) (joinS false m L L2) = M at *
  generalize joinOk m L m2 L2 = ok at *
  obtain ⟨ln, hln⟩ : ∃ ln, ln = M.length := ⟨_, rfl⟩
  unfold AnsG at H ⊢
  rw [← hln] at H ⊢
  clear hln
  go_enter Try.func41, Try.ntmps41
  go_wp2_with fail
  refine H.out.mono ?_
  rintro e w1 ⟨A1, p1, rfl, hl1, hb1⟩
  have HL1 := Lib.hid hl1
  have g1 := bfrom hb0 hb1
  have hr1 := hr.now hb1
  have hzw : w.heap.size + 1 + 1 < w1.heap.size := hr1.lt
  obtain ⟨f0, f1⟩ := KF.out _ hr1
  obtain ⟨c2, c3⟩ := hr1.cells
  clear hl1 c0 c1 d0 d1
  go_wp2
  refine bodyPost_ret (v := .tuple #[.agg #[.int .i64 mm, .slice A1 ln p1], .bool ok]) (by simp [results, Try.results41, go_sem, c2, c3]) rfl ⟨A1, p1, rfl, ?_, (g1.setCell (by simp; try omega) _).setCell (by simp; try omega) _⟩
  have hl2 := HL1.out
  simp only [World.size_alloc] at hl2
  exact Lies.rss_wide (Lies.far (Lies.far hl2 (by first | omega | (simp; done) | (simp; omega)) _) (by first | omega | (simp; done) | (simp; omega)) _) (by omega) (by first | exact Nat.le_refl _ | simp) (by first | exact Nat.le_refl _ | simp)

set_option maxRecDepth 20000 in
set_option maxHeartbeats 1000000 in
theorem iProductGames_any (m : Int) (A : Option Addr) (n cap : Nat) (L : List (List Int)) (m2 : Int) (A2 : Option Addr) (n2 cap2 : Nat) (L2 : List (List Int)) (w : World) (hl : n ≤ 1048576) (hk : Lists w A n L) (hl2 : n2 ≤ 1048576) (hk2 : Lists w A2 n2 L2) :
    Calls Try.prog 43 #[.agg #[.int .i64 m, .slice A n cap], .agg #[.int .i64 m2, .slice A2 n2 cap2]] w fun e w' => AnsG RSS (okM (joinOk m L m2 L2) (m + m2)) (okG (joinOk m L m2 L2) (joinS true m L L2)) (joinOk m L m2 L2) w w' e := by
  have hb0 : Below w.heap.size w (((w.alloc (.cells #[.int .i64 m, .slice A n cap] 28)).alloc (.cells #[.int .i64 m2, .slice A2 n2 cap2] 28)).alloc (.cells #[.int .i64 0, .slice none 0 0] 28)) := ((below1 w _).alloc (by simp) _).alloc (by simp; omega) _
  have H := Lib.hid (joinGames_any true 85 pairs_join (enters_of Try.func85 (by kernel_rfl) rfl) m A n cap L m2 A2 n2 cap2 L2 _ hl (hk.now hb0) hl2 (hk2.now hb0))
  have hx := ((BoxT.new 28 w (.int .i64 m) (.slice A n cap)).alloc (.cells #[.int .i64 m2, .slice A2 n2 cap2] 28)).alloc (.cells #[.int .i64 0, .slice none 0 0] 28)
  have hy := (BoxT.new 28 (w.alloc (.cells #[.int .i64 m, .slice A n cap] 28)) (.int .i64 m2) (.slice A2 n2 cap2)).alloc (.cells #[.int .i64 0, .slice none 0 0] 28)
  have hr := BoxT.new 28 ((w.alloc (.cells #[.int .i64 m, .slice A n cap] 28)).alloc (.cells #[.int .i64 m2, .slice A2 n2 cap2] 28)) (.int .i64 0) (.slice none 0 0)
  simp only [World.size_alloc] at hy hr
  clear hk hk2 hl hl2
  have KF := Lib.hid (show ∀ W, BoxT 28 W (w.heap.size + 1 + 1) (.int .i64 0) (.slice none 0 0) → (W.frozen? ⟨w.heap.size + 1 + 1, 0, none⟩ = false ∧ W.frozen? ⟨w.heap.size + 1 + 1, 1, none⟩ = false) from fun W h => by unfold BoxT at h; exact ⟨by simp [World.frozen?, h], by simp [World.frozen?, h]⟩)
  obtain ⟨c0, c1⟩ := hx.cells
  obtain ⟨d0, d1⟩ := hy.cells
  generalize okM (joinOk m L m2 L2) (m + m2) = mm at *
  generalize okG (joinOk m L m2 L2) (joinS true m L L2) = M at *
  generalize joinOk m L m2 L2 = ok at *
  obtain ⟨ln, hln⟩ : ∃ ln, ln = M.length := ⟨_, rfl⟩
  unfold AnsG at H ⊢
  rw [← hln] at H ⊢
  clear hln
  go_enter Try.func43, Try.ntmps43
  go_wp2_with fail
  refine H.out.mono ?_
  rintro e w1 ⟨A1, p1, rfl, hl1, hb1⟩
  have HL1 := Lib.hid hl1
  have g1 := bfrom hb0 hb1
  have hr1 := hr.now hb1
  have hzw : w.heap.size + 1 + 1 < w1.heap.size := hr1.lt
  obtain ⟨f0, f1⟩ := KF.out _ hr1
  obtain ⟨c2, c3⟩ := hr1.cells
  clear hl1 c0 c1 d0 d1
  go_wp2
  refine bodyPost_ret (v := .tuple #[.agg #[.int .i64 mm, .slice A1 ln p1], .bool ok]) (by simp [results, Try.results43, go_sem, c2, c3]) rfl ⟨A1, p1, rfl, ?_, (g1.setCell (by simp; try omega) _).setCell (by simp; try omega) _⟩
  have hl2 := HL1.out
  simp only [World.size_alloc] at hl2
  exact Lies.rss_wide (Lies.far (Lies.far hl2 (by first | omega | (simp; done) | (simp; omega)) _) (by first | omega | (simp; done) | (simp; omega)) _) (by omega) (by first | exact Nat.le_refl _ | simp) (by first | exact Nat.le_refl _ | simp)

end Go.Proofs.Ytipplbcjdcdapaa
