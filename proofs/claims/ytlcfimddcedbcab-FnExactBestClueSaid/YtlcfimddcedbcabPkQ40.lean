/- Texts of Gza, Gzb. -/
import Derived.Test.YtlcfimddcedbcabPkQ39
namespace Go.Proofs.Ytlcfimddcedbcab
open Go.RowKit Vo

theorem cAt_take {C : List Clu} {j t : Nat} (h : t < j) : cAt (C.take j) t = cAt C t := by
  unfold cAt
  rw [List.getD_eq_getElem?_getD, List.getD_eq_getElem?_getD, List.getElem?_take, if_pos h]
theorem kcl_take {w : World} {b0 n : Nat} {C : List Clu} (h : KCl w (some ⟨b0, 0, none⟩) n C) {j : Nat} (hj : j ≤ n) : KCl w (some ⟨b0, 0, none⟩) j (C.take j) := by
  refine ⟨by rw [List.length_take, h.1]; omega, b0, 0, fun h1 => ⟨rfl, ?_⟩⟩
  obtain ⟨b, off, hA, hc⟩ := h.get (by omega)
  injection hA with hA
  injection hA with h2 h3
  subst h2 h3
  refine ⟨hc.lt, fun i hi => ?_⟩
  rw [hc.cell i (by omega)]
  unfold clF
  rw [cAt_take (show i / 3 < j by omega)]
theorem left_take {q : Nat} {C : List Clu} {j : Nat} (hj : j ≤ C.length) : (solK q (C.take j)).length = leftN q C j := by
  unfold solK leftN
  congr 1
  refine List.filter_congr fun S _ => ?_
  unfold fitAll
  rw [show (C.take j).length = j from by rw [List.length_take]; omega, anyU_congr (p' := fun c => !fitK S q c) j (fun t _ => rfl)]
  have : ∀ k, k ≤ j → anyU (fun c => !fitK S q c) (C.take j) k = anyU (fun c => !fitK S q c) C k := by
    intro k hk
    induction k with
    | zero => rfl
    | succ k ih => unfold anyU; rw [ih (by omega), cAt_take (by omega)]
  rw [this j (Nat.le_refl _)]
theorem leftN_le {q : Nat} {C : List Clu} {j : Nat} (h1 : 1 ≤ q) (h4 : q ≤ 4) : leftN q C j ≤ 1000 := Nat.le_trans (List.length_filter_le _ _) (gamesK_le q h1 h4)
def leftP (q : Nat) (C : List Clu) (j : Nat) : List Int := (List.range j).map fun t => (leftN q C t : Int)
theorem leftP_succ (q : Nat) (C : List Clu) (j : Nat) : leftP q C (j+1) = leftP q C j ++ [(leftN q C j : Int)] := by unfold leftP; rw [List.range_succ, List.map_append]; rfl
theorem leftP_len (q : Nat) (C : List Clu) (j : Nat) : (leftP q C j).length = j := by simp [leftP]

set_option maxRecDepth 20000 in
set_option maxHeartbeats 4000000 in
theorem sLeftByClues_any (m : Int) (b0 : Nat) (n cap : Nat) (C : List Clu) (w : World) (hl : n ≤ 1048576) (hcap : n ≤ cap) (hk : KCl w (some ⟨b0, 0, none⟩) n C) :
    Calls Try.prog 32 #[.agg #[.int .i64 m, .slice (some ⟨b0, 0, none⟩) n cap]] w fun e w' => Ans (RS (if puzB m C then leftL m.toNat C C.length else [])) (puzB m C) w w' e := by
  obtain ⟨i0, hi0, hz0, hz1, hz2⟩ := infoIntParts
  have hb0 := below1 w (.cells #[.int .i64 m, .slice (some ⟨b0, 0, none⟩) n cap] 31)
  have hx := BoxT.new 31 w (.int .i64 m) (.slice (some ⟨b0, 0, none⟩) n cap)
  obtain ⟨c0, c1⟩ := hx.cells
  have HP := Lib.hid (pzGood_any m _ n cap C _ (by omega) (hk.now hb0))
  have HK := Lib.hid (hk.now hb0)
  have hcl := hk.1
  obtain ⟨L, hL⟩ : ∃ L, L = if puzB m C then leftL m.toNat C C.length else [] := ⟨_, rfl⟩
  rw [← hL]
  clear hk
  cases hp : puzB m C with
  | false =>
    rw [hp, if_neg (by simp)] at hL
    subst hL
    rw [hp] at HP
    clear hp hcl
    go_enter Try.func32, Try.ntmps32
    go_wp2_with fail
    refine HP.out.mono ?_
    rintro e w1 ⟨rfl, hb1⟩
    go_wp2
    go_ret2
    exact PairAt.ans (PairAt.none_ (bfrom hb0 hb1))
  | true =>
    obtain ⟨q, rfl, h1, h4, hask⟩ := puzB_nat hp
    have hn8 : n ≤ 8 := by have := puzB_le hp; omega
    rw [hp, if_pos rfl, Int.toNat_natCast, hcl] at hL
    rw [hp] at HP
    have HL := Lib.hid (show L = leftP q C (n+1) from hL)
    have HALL := Lib.hid (fun W j (hj : j ≤ n) (hW : Below (w.alloc (.cells #[.int .i64 (q : Nat), .slice (some ⟨b0, 0, none⟩) n cap] 31)).heap.size (w.alloc (.cells #[.int .i64 (q : Nat), .slice (some ⟨b0, 0, none⟩) n cap] 31)) W) =>
      show Calls Try.prog 58 #[.int .i64 q, .slice (some ⟨b0, 0, none⟩) j cap] W (fun e w' => ∃ B cp, e = .returned (.slice B (leftN q C j) cp) ∧ Below W.heap.size W w') from
      (pzAll_any q j _ cap (C.take j) W h1 h4 (by omega) (kcl_take (HK.out.now hW) hj) (fun t ht => by rw [cAt_take ht]; exact hask t (by omega))).mono fun e w' h => by
        obtain ⟨Q, B, cp, he, _, _, hb⟩ := h.sol h1 h4 (fun t ht => by rw [List.length_take] at ht; rw [cAt_take (by omega)]; exact hask t (by omega))
        rw [left_take (by omega)] at he
        exact ⟨B, cp, he, hb⟩)
    have HLT := Lib.hid (fun j => leftN_le (C := C) (j := j) h1 h4)
    have HS := Lib.hid (fun j => leftP_succ q C j)
    have HSL := Lib.hid (fun j => leftP_len q C j)
    clear hp hcl hask hL
    go_enter Try.func32, Try.ntmps32
    go_wp2_with fail
    refine HP.out.mono ?_
    rintro e w1 ⟨rfl, hb1⟩
    have G1 := Lib.hid (bfrom hb0 hb1)
    have X1 := Lib.hid (hx.now hb1)
    have B1 := Lib.hid hb1
    have hxl1 := X1.out.lt
    have hz1w := G1.out.size
    clear c0 c1
    go_wp2_with fail
    go_loopw [4, 5] (fun v i wr => ∃ (j : Nat) (B : Option Addr) (cp : Nat), j ≤ n + 1 ∧ i = .int .i64 j ∧ v = .slice B j cp ∧ wr.ownsRow w1.heap.size 3 1 (.slice B j cp) j ((leftP q C j).map (Value.int .i64)) ∧ Below w1.heap.size w1 wr) (fun _ i _ => n + 1 - (intOf i).toNat)
    case atStart => exact ⟨0, none, 0, Nat.zero_le _, rfl, rfl, World.ownsRow_nil _ _ _ _, Below.refl _ _⟩
    case round =>
      obtain ⟨j, B, cp, hj, rfl, rfl, hown, hbr⟩ := hrel
      have HO := Lib.hid hown
      have HBR := Lib.hid hbr
      have hszr := hbr.size
      have hxr := X1.out.now hbr
      obtain ⟨c0, c1⟩ := hxr.cells
      clear hown
      by_cases hlt : j ≤ n
      · have hji : (j : Int) ≤ (n : Int) := by omega
        have hjc : (j : Int) ≤ (cap : Int) := by omega
        have hj0 : (0 : Int) ≤ (j : Int) := by omega
        have hxl := HLT.out j
        have HC := Lib.hid (fun W (hW : Below wr.heap.size wr W) => HALL.out W j hlt (B1.out.trans ((HBR.out.trans (hW.mono hszr)).mono B1.out.size)))
        have HSJ := Lib.hid (HS.out j)
        have KX := Lib.hid (show ∀ W, Below wr.heap.size wr W → (W.cell? ⟨w.heap.size, 0, none⟩ = some (.int .i64 (q : Nat)) ∧ W.cell? ⟨w.heap.size, 1, none⟩ = some (.slice (some ⟨b0, 0, none⟩) n cap)) from fun W hW => (hxr.now hW).cells)
        generalize leftN q C j = x at *
        go_wp2_with fail
        go_region_held3 (fun W => W.cell? ⟨w.heap.size, 0, none⟩ = some (.int .i64 (q : Nat)) ∧ W.cell? ⟨w.heap.size, 1, none⟩ = some (.slice (some ⟨b0, 0, none⟩) n cap))
          (first | exact ⟨c0, c1⟩ | exact KX.out _ b2 | exact KX.out _ (b2.alloc b2.size _) | exact ⟨k0, k1⟩ | go_keep)
          (first
            | (go_at_call 58; refine (HC.out _ (Below.refl _ _).drew).mono ?_; rintro e w2 ⟨B2, cp2, rfl, hb2⟩; have b2 := bfrom (Below.refl _ wr).drew hb2; have HO2 := Lib.hid (owns_now HO.out b2); have hxa := (hxr.now b2).alloc (.cells #[.int .i64 x] 3))
            | (refine step_append_atN _ ?_ (.tmp 16) (.tmp 25) _ ?_ w1.heap.size 3 i0 (.int .i64 0) 1 8 Try.underlying49 hi0 hz0 hz1 hz2 rfl ?_ (.slice B j cp) j ((leftP q C j).map (Value.int .i64)) ?_ (HO2.out.alloc _) ⟨w2.heap.size, 0, none⟩ 1 1 [.int .i64 x] ?_ rfl (World.news_of_block (cs := #[.int .i64 x]) (t := 3) (fr := (0, 0)) (heap_alloc_new w2 _)) ?_ ?_ ?_ (by have := b2.size; simp; omega) ?_; (rfl); (rfl); (omega); (rfl); (rfl); (simp [Value.oneCell']); (unfold maxLen; omega); (omega); intro B7 cp7 w7 hown7 hgrow7 hob7; have hx7 : BoxT 31 w7 w.heap.size (.int .i64 (q : Nat)) (.slice (some ⟨b0, 0, none⟩) n cap) := (hgrow7.block w.heap.size hxa.lt (fun e => by have := (HO2.out.lt w.heap.size e.symm).1; omega)).trans hxa; obtain ⟨k0, k1⟩ := hx7.cells)
            | fail)
        all_goals
          have b8 := (HBR.out.trans (b2.mono hszr)).alloc (HBR.out.trans (b2.mono hszr)).size (.cells #[.int .i64 x] 3)
          have HB9 := Lib.hid (b8.grown hgrow7 b8.size (fun i hi => (HO.out.lt i hi).1))
          have HO7 := Lib.hid hown7
          clear hown7 hgrow7 hob7 k0 k1 hx7 hxa b8 c0 c1
          go_wp2
          go_roundw
          case rel => exact ⟨j + 1, B7, cp7, by omega, by go_num, rfl, by rw [HSJ.out, List.map_append]; exact HO7.out, HB9.out⟩
          case measure => simp [intOf]; omega
      · obtain rfl : j = n + 1 := by omega
        have hgt : ¬ ((n + 1 : Nat) : Int) ≤ (n : Int) := by omega
        have HSN := Lib.hid (HSL.out (n + 1))
        have HG := Lib.hid (G1.out.trans (HBR.out.mono hz1w))
        have HO9 := Lib.hid (owns_less HO.out hz1w)
        go_wp2
        go_ret2
        rw [HL.out]
        exact PairAt.ans ⟨B, cp, by rw [HSN.out]; rfl, by rw [HSN.out]; exact HO9.out, HG.out⟩
end Go.Proofs.Ytlcfimddcedbcab

namespace Go.Proofs.Ytlcfimddcedbcab
open Go.RowKit Vo

theorem iCountSolutions_p (m : Int) (A : Option Addr) (n cap : Nat) (C : List Clu) (w : World) (hl : n ≤ 1048576) (_hc : n ≤ cap) (hk : KCl w A n C) :
    Calls Try.prog 24 #[.agg #[.int .i64 m, .slice A n cap]] w fun e w' => e = .returned (.tuple #[.int .i64 (if puzB m C then (solK m.toNat C).length else 0 : Nat), .bool (puzB m C)]) ∧ Below w.heap.size w w' := iCountSolutions_any m A n cap C w hl hk
theorem iIsSolved_p (m : Int) (A : Option Addr) (n cap : Nat) (C : List Clu) (w : World) (hl : n ≤ 1048576) (_hc : n ≤ cap) (hk : KCl w A n C) :
    Calls Try.prog 31 #[.agg #[.int .i64 m, .slice A n cap]] w fun e w' => e = .returned (.tuple #[.bool (puzB m C && decide ((solK m.toNat C).length = 1)), .bool (puzB m C)]) ∧ Below w.heap.size w w' := iIsSolved_any m A n cap C w hl hk
theorem iLeftByClues_p (m : Int) (A : Option Addr) (n cap : Nat) (C : List Clu) (w : World) (hl : n ≤ 1048576) (_hc : n ≤ cap) (hk : KCl w A n C) :
    Calls Try.prog 33 #[.agg #[.int .i64 m, .slice A n cap]] w fun e w' => Ans (RS (if puzB m C then leftL m.toNat C C.length else [])) (puzB m C) w w' e := iLeftByClues_any m A n cap C w hl hk
theorem leftL_small (m : Int) (C : List Clu) : (if puzB m C then leftL m.toNat C C.length else []).length ≤ 1048576 := by
  split
  · rename_i h
    rw [leftL_len]
    have := puzB_le h
    omega
  · simp
end Go.Proofs.Ytlcfimddcedbcab
