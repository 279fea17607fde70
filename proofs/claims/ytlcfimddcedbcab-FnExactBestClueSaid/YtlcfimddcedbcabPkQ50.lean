/- Texts of Ye, Yf. -/
import Derived.Test.YtlcfimddcedbcabPkQ39
import Derived.Test.YtlcfimddcedbcabPkQ34
import Derived.Test.YtlcfimddcedbcabPkQ40
namespace Go.Proofs.Ytlcfimddcedbcab
open Go.RowKit Vo

def loF (f : Nat → Nat) : Nat → Nat
  | 0 => f 0
  | k+1 => min (loF f k) (f k)
theorem loF_le {f : Nat → Nat} {B k : Nat} (h : ∀ j, f j ≤ B) : loF f k ≤ B := by
  induction k with
  | zero => exact h 0
  | succ k ih => simp only [loF]; omega
theorem loF_at {f : Nat → Nat} {k j : Nat} (h : j < k) : loF f k ≤ f j := by
  induction k with
  | zero => omega
  | succ k ih =>
    simp only [loF]
    by_cases e : j = k
    · subst e; omega
    · have := ih (by omega); omega
/-- The first index of the least of the first numbers, and the least. -/
def bstK (f : Nat → Nat) : Nat → Nat × Nat
  | 0 => (0, 0)
  | k+1 => if k = 0 ∨ f k < (bstK f k).2 then (k, f k) else bstK f k
theorem bstK_succ (f : Nat → Nat) (k : Nat) : bstK f (k+1) = if k = 0 ∨ f k < (bstK f k).2 then (k, f k) else bstK f k := rfl
theorem bstK_good (f : Nat → Nat) : ∀ k, (bstK f (k+1)).1 < k+1 ∧ f (bstK f (k+1)).1 = (bstK f (k+1)).2 ∧ (bstK f (k+1)).2 = loF f (k+1) ∧ ∀ t, t < (bstK f (k+1)).1 → (bstK f (k+1)).2 < f t
  | 0 => ⟨by simp [bstK], by simp [bstK], by simp [bstK, loF], fun t ht => by simp [bstK] at ht⟩
  | k+1 => by
    obtain ⟨h1, h2, h3, h4⟩ := bstK_good f k
    have hm : ∀ t, t < k + 1 → (bstK f (k+1)).2 ≤ f t := fun t ht => by rw [h3]; exact loF_at ht
    have hl : loF f (k+1+1) = min (loF f (k+1)) (f (k+1)) := rfl
    rw [bstK_succ]
    split
    · rename_i h
      have h : f (k+1) < (bstK f (k+1)).2 := by
        rcases h with h | h
        · omega
        · exact h
      refine ⟨by simp, rfl, ?_, fun t ht => ?_⟩
      · show f (k+1) = _; omega
      · have := hm t (by simpa using ht)
        show f (k+1) < f t
        omega
    · rename_i h
      have h : ¬ f (k+1) < (bstK f (k+1)).2 := fun e => h (Or.inr e)
      exact ⟨by omega, h2, by omega, h4⟩
theorem bstK_ok (f : Nat → Nat) {n : Nat} (h : 1 ≤ n) : (bstK f n).1 < n ∧ f (bstK f n).1 = loF f n ∧ ∀ t, t < (bstK f n).1 → loF f n < f t := by
  obtain ⟨k, rfl⟩ : ∃ k, n = k + 1 := ⟨n - 1, by omega⟩
  obtain ⟨a, b, c, d⟩ := bstK_good f k
  exact ⟨a, by rw [b, c], fun t ht => by rw [← c]; exact d t ht⟩
theorem bstK_le {f : Nat → Nat} {B : Nat} (h : ∀ j, f j ≤ B) : ∀ k, (bstK f k).1 ≤ k ∧ (bstK f k).2 ≤ B
  | 0 => ⟨Nat.le_refl _, Nat.zero_le _⟩
  | k+1 => by
    have := bstK_le h k
    rw [bstK_succ]
    split
    · exact ⟨Nat.le_succ _, h k⟩
    · exact ⟨by omega, this.2⟩

set_option maxHeartbeats 1000000 in
theorem lowS_any (f : Nat → Nat) (g n cap : Nat) (w : World) (h1 : 1 ≤ n) (hn : n ≤ 1048576) (hf : ∀ k, f k ≤ 1000000) (hr : ∀ j, j < n → w.cell? ⟨g, j, none⟩ = some (.int .i64 (f j : Nat))) :
    Calls Try.prog 70 #[.slice (some ⟨g, 0, none⟩) n cap] w fun e w' => e = .returned (.int .i64 (loF f n : Nat)) ∧ w = w' := by
  have HR := Lib.hid hr
  have HF := Lib.hid hf
  have hc0 := hr 0 (by omega)
  have H1 := Lib.hid (show loF f 1 = f 0 from by simp [loF])
  have h0 : ¬ (n : Int) < 1 := by omega
  have hf0 := hf 0
  clear hr hf
  go_enter Try.func70, Try.ntmps70
  go_wp2
  go_loop [3, 4] (fun m i => ∃ k : Nat, 1 ≤ k ∧ k ≤ n ∧ i = .int .i64 k ∧ m = .int .i64 (loF f k : Nat)) (fun _ i => n - (intOf i).toNat)
  case atStart => exact ⟨1, by omega, h1, rfl, by rw [H1.out]⟩
  case round =>
    obtain ⟨k, hk1, hk, rfl, rfl⟩ := hrel
    by_cases hlt : k < n
    · have hcell := HR.out k hlt
      have hfk := HF.out k
      have hmk := loF_le (k := k) HF.out
      have HS := Lib.hid (show loF f (k+1) = min (loF f k) (f k) from rfl)
      generalize loF f k = m at *
      generalize f k = x at *
      go_wp2
      go_round
      case rel => exact ⟨k + 1, by omega, by omega, by go_num, by rw [HS.out]; first | (congr 1; omega) | (simp; omega)⟩
      case measure => simp [intOf]; omega
    · obtain rfl : n = k := by omega
      go_wp2
      go_ret
      exact ⟨rfl, rfl⟩

set_option maxHeartbeats 1000000 in
theorem indexI_any (f : Nat → Nat) (g n cap b y : Nat) (w : World) (hn : n ≤ 1048576) (hb : b < n) (hf : ∀ k, f k ≤ 1000000) (hy : f b = y) (hlt : ∀ t, t < b → y < f t) (hr : ∀ j, j < n → w.cell? ⟨g, j, none⟩ = some (.int .i64 (f j : Nat))) :
    Calls Try.prog 69 #[.slice (some ⟨g, 0, none⟩) n cap, .int .i64 y] w fun e w' => e = .returned (.int .i64 (b : Nat)) ∧ w = w' := by
  have HR := Lib.hid hr
  have HF := Lib.hid hf
  have HL := Lib.hid hlt
  have hy9 := hf b
  rw [hy] at hy9
  have hyc := hr b hb
  rw [hy] at hyc
  clear hr hf hlt hy
  go_enter Try.func69, Try.ntmps69
  go_wp2
  go_loop [5, 8] (fun _ i => ∃ k : Nat, k ≤ b ∧ i = .int .i64 k) (fun _ i => n - (intOf i).toNat)
  case atStart => exact ⟨0, Nat.zero_le _, rfl⟩
  case round =>
    obtain ⟨k, hk, rfl⟩ := hrel
    by_cases hkb : k = b
    · subst hkb
      have hkn : (k : Int) < (n : Int) := by omega
      go_wp2
      go_ret
      exact ⟨rfl, rfl⟩
    · have hcell := HR.out k (by omega)
      have hfk := HF.out k
      have hlk := HL.out k (by omega)
      have hkn : (k : Int) < (n : Int) := by omega
      clear hyc
      generalize f k = x at *
      have hne : ((y : Int) == (x : Int)) = false := beq_false_of_ne (by omega)
      go_wp2
      go_round
      case rel => exact ⟨k + 1, by omega, by go_num⟩
      case measure => simp [intOf]; omega

/-- How many games fit a clue alone. -/
def aloneN (q : Nat) (C : List Clu) (j : Nat) : Nat := ((gamesK q).filter (fitAll q [cAt C j] 1)).length
def aloneP (q : Nat) (C : List Clu) (j : Nat) : List Int := (List.range j).map fun t => (aloneN q C t : Int)
theorem aloneP_succ (q : Nat) (C : List Clu) (j : Nat) : aloneP q C (j+1) = aloneP q C j ++ [(aloneN q C j : Int)] := by unfold aloneP; rw [List.range_succ, List.map_append]; rfl
theorem aloneP_len (q : Nat) (C : List Clu) (j : Nat) : (aloneP q C j).length = j := by simp [aloneP]
theorem aloneP_at {q : Nat} {C : List Clu} {j i : Nat} (h : i < j) : (aloneP q C j)[i]? = some (aloneN q C i : Int) := by simp [aloneP, h]
theorem aloneN_le {q : Nat} (C : List Clu) (j : Nat) (h1 : 1 ≤ q) (h4 : q ≤ 4) : aloneN q C j ≤ 1000 := Nat.le_trans (List.length_filter_le _ _) (gamesK_le q h1 h4)
def bestU (m : Int) (C : List Clu) : Nat := if puzB m C then (bstK (aloneN m.toNat C) C.length).1 else 0
def bestOk (m : Int) (C : List Clu) : Bool := puzB m C && decide (0 < C.length)

set_option maxRecDepth 20000 in
set_option maxHeartbeats 8000000 in
theorem iBestClue_any (m : Int) (A : Option Addr) (n cap : Nat) (C : List Clu) (w : World) (hl : n ≤ 1048576) (hk : KCl w A n C) :
    Calls Try.prog 38 #[.agg #[.int .i64 m, .slice A n cap]] w fun e w' => e = .returned (.tuple #[.int .i64 (bestU m C : Nat), .bool (bestOk m C)]) ∧ Below w.heap.size w w' := by
  have b0 := below1 w (.cells #[.int .i64 m, .slice A n cap] 31)
  obtain ⟨c0, c1⟩ := (BoxT.new 31 w (.int .i64 m) (.slice A n cap)).cells
  have HR := Lib.hid (readRiddle_any m A n cap C _ hl (hk.now b0))
  clear hk
  obtain ⟨R, hR⟩ : ∃ R : Nat, R = bestU m C := ⟨_, rfl⟩
  obtain ⟨K, hK⟩ : ∃ K : Bool, K = bestOk m C := ⟨_, rfl⟩
  rw [← hR, ← hK]
  cases hp : puzB m C with
  | false =>
    rw [show bestU m C = 0 from by unfold bestU; rw [hp]; rfl] at hR
    rw [show bestOk m C = false from by unfold bestOk; rw [hp]; rfl] at hK
    subst hR hK
    rw [hp] at HR
    clear hp
    go_enter Try.func38, Try.ntmps38
    go_wp2_with fail
    refine HR.out.mono ?_
    rintro e w1 ⟨h, hb1⟩
    obtain rfl : e = .returned (.tuple #[.pointer none, .bool false]) := by
      rcases h with ⟨_, h⟩ | ⟨h, _⟩
      · exact h
      · simp at h
    clear h c0 c1
    go_wp2
    go_ret2
    exact ⟨rfl, bfrom b0 hb1⟩
  | true =>
    rw [hp] at HR
    have HPP := Lib.hid hp
    have HRR := Lib.hid hR
    have HKK := Lib.hid hK
    obtain ⟨i0, hi0, hz0, hz1, hz2⟩ := infoIntParts
    clear hp hR hK
    go_enter Try.func38, Try.ntmps38
    go_wp2_with fail
    refine HR.out.mono ?_
    rintro e w1 ⟨h, hb1⟩
    obtain ⟨q, h', rfl, hq1, hq4, rfl, hrd⟩ : ∃ (q h' : Nat), m = q ∧ 1 ≤ q ∧ q ≤ 4 ∧ e = .returned (.tuple #[.pointer (some ⟨h', 0, none⟩), .bool true]) ∧ RdAt _ q C h' w1 := by
      rcases h with ⟨h, _⟩ | ⟨_, h⟩
      · simp at h
      · exact h
    have g1 := bfrom b0 hb1
    obtain ⟨h0, A2, n2, cp2, v, hn, hx, hc, hg⟩ := hrd
    obtain ⟨x0, x1, x2⟩ := hx.cells
    obtain ⟨Bq, cq, rfl⟩ := GSb.slice hg
    have h8 := puzB_le HPP.out
    have HASK := Lib.hid (puzB_asks HPP.out hq1 hq4)
    have HK := Lib.hid (OwnCl.kcl hn hc)
    have HG := Lib.hid (hg.low (base' := w.heap.size) b0.size)
    have HN := Lib.hid hn
    have HX := Lib.hid hx
    have HLE := Lib.hid (fun j => aloneN_le C j hq1 hq4)
    have HGL := Lib.hid (gamesK_le q hq1 hq4)
    have hg9 := HGL.out
    have hn8 : n2 ≤ 8 := by omega
    have hg1w := g1.size
    have HRB := Lib.hid (show R = (bstK (aloneN q C) n2).1 from by rw [HRR.out]; unfold bestU; rw [HPP.out, if_pos rfl, Int.toNat_natCast, HN.out])
    have HKB := Lib.hid (show K = decide (0 < n2) from by rw [HKK.out]; unfold bestOk; rw [HPP.out, Bool.true_and, HN.out])
    clear h c0 c1 hc hg hx h8 HR HRR HKK hn
    by_cases hz : n2 = 0
    · subst hz
      have HR0 := Lib.hid (show R = 0 from HRB.out)
      have HK0 := Lib.hid (show K = false from HKB.out)
      go_wp2
      go_ret2
      exact ⟨by rw [HR0.out, HK0.out]; rfl, g1⟩
    · have h1n : 1 ≤ n2 := by omega
      have hzi : ¬ ((n2 : Nat) : Int) = 0 := by omega
      have hzb : (((n2 : Nat) : Int) == 0) = false := beq_false_of_ne hzi
      have HK1 := Lib.hid (show K = true from by rw [HKB.out]; exact decide_eq_true (by omega))
      clear hz
      go_wp2_with fail
      go_loopw [6, 31] (fun cv i wr => ∃ (j : Nat) (B : Option Addr) (cp : Nat), j ≤ n2 ∧ i = .int .i64 j ∧ cv = .slice B j cp ∧ wr.ownsRow w1.heap.size 3 1 (.slice B j cp) j ((aloneP q C j).map (Value.int .i64)) ∧ Below w1.heap.size w1 wr) (fun _ i _ => n2 - (intOf i).toNat)
      case atStart => exact ⟨0, none, 0, Nat.zero_le _, rfl, rfl, World.ownsRow_nil _ _ _ _, Below.refl _ _⟩
      case round =>
        obtain ⟨j, B, cp, hj, rfl, rfl, hown, hbr⟩ := hrel
        have HO := Lib.hid hown
        have HBR := Lib.hid hbr
        have hszr := hbr.size
        clear hown hbr x0 x1 x2
        by_cases hlt : j < n2
        · obtain ⟨b, off, rfl, hcl⟩ := (HK.out.now HBR.out).get (by omega)
          obtain ⟨hc0, hc1, hc2⟩ := hcl.at hlt
          clear hcl
          have HAK := Lib.hid (HASK.out j (by rw [HN.out]; exact hlt))
          have HLX := Lib.hid (HLE.out j)
          have HSJ := Lib.hid (aloneP_succ q C j)
          have HLL := Lib.hid (show ((gamesK q).filter (fitAll q [cAt C j] 1)).length = aloneN q C j from rfl)
          obtain ⟨x, y, z, hxyz⟩ : ∃ x y z, cAt C j = (x, y, z) := ⟨_, _, _, rfl⟩
          rw [hxyz] at hc0 hc1 hc2 HAK HLL
          simp only at hc0 hc1 hc2
          have HA1 : ∀ i, i < 1 → AskK q (cAt [(x, y, z)] i) := by
            intro i hi
            obtain rfl : i = 0 := by omega
            exact HAK.out
          have HA := Lib.hid HA1
          have HF := Lib.hid (fun W (g : Nat) (hW : Below wr.heap.size wr W) (hgW : wr.heap.size ≤ g) (hbx : Bx3 90 W g (.int .i64 x) (.int .i64 y) (.int .i64 z)) =>
            show Calls Try.prog 68 #[.slice Bq (gamesK q).length cq, .slice (some ⟨g, 0, none⟩) 1 1] W (fun e w' => ∃ B3 c3, e = .returned (.slice B3 (aloneN q C j) c3) ∧ Below W.heap.size W w') from
            (gamesThatFit_any q w.heap.size (gamesK q) (.slice Bq (gamesK q).length cq) (some ⟨g, 0, none⟩) 1 1 [(x, y, z)] W hq4 HGL.out (fun i hi => gamesK_get hq1 hq4 hi) (HG.out.now (HBR.out.trans (hW.mono hszr))) (Nat.le_trans hg1w (Nat.le_trans hszr hW.size)) (by omega) (kcl_one x y z hbx) HA.out).mono fun e w' h => by
              obtain ⟨v3, he, hg3, hb3⟩ := h
              obtain ⟨B3, c3, hv⟩ := GSb.slice hg3
              rw [HLL.out] at hv
              exact ⟨B3, c3, by rw [he, hv], hb3⟩)
          have b1r := below1 wr (.cells #[.int .i64 x, .int .i64 y, .int .i64 z] 90)
          have hbv := Bx3.new 90 wr (.int .i64 x) (.int .i64 y) (.int .i64 z)
          have hxw := HX.out.now (HBR.out.trans (b1r.mono hszr))
          have KX := Lib.hid (show ∀ W, Below (wr.alloc (.cells #[.int .i64 x, .int .i64 y, .int .i64 z] 90)).heap.size (wr.alloc (.cells #[.int .i64 x, .int .i64 y, .int .i64 z] 90)) W → (W.cell? ⟨h', 2, none⟩ = some (.slice Bq (gamesK q).length cq) ∧ W.cell? ⟨wr.heap.size, 0, none⟩ = some (.int .i64 x) ∧ W.cell? ⟨wr.heap.size, 1, none⟩ = some (.int .i64 y) ∧ W.cell? ⟨wr.heap.size, 2, none⟩ = some (.int .i64 z)) from fun W hW => ⟨(hxw.now hW).cells.2.2, (hbv.now hW).cells.1, (hbv.now hW).cells.2.1, (hbv.now hW).cells.2.2⟩)
          have K0 := KX.out _ (Below.refl _ _)
          have HXB := Lib.hid (show ∀ W, Below (wr.alloc (.cells #[.int .i64 x, .int .i64 y, .int .i64 z] 90)).heap.size (wr.alloc (.cells #[.int .i64 x, .int .i64 y, .int .i64 z] 90)) W → Bx3 88 W h' (.int .i64 (q : Nat)) (.slice (some ⟨b, off, none⟩) n2 cp2) (.slice Bq (gamesK q).length cq) ∧ Bx3 90 W wr.heap.size (.int .i64 x) (.int .i64 y) (.int .i64 z) from fun W hW => ⟨hxw.now hW, hbv.now hW⟩)
          have hxl := HX.out.lt
          have HA9 := Lib.hid (b1r.drew.alloc (by simp) (.cells #[.int .i64 x, .int .i64 y, .int .i64 z] 90))
          have HC9 := Lib.hid ((Below.refl (wr.alloc (.cells #[.int .i64 x, .int .i64 y, .int .i64 z] 90)).heap.size (wr.alloc (.cells #[.int .i64 x, .int .i64 y, .int .i64 z] 90))).drew.alloc (Nat.le_refl _) (.cells #[.int .i64 x, .int .i64 y, .int .i64 z] 90))
          have hbx := Bx3.new 90 (wr.alloc (.cells #[.int .i64 x, .int .i64 y, .int .i64 z] 90)).drew (.int .i64 x) (.int .i64 y) (.int .i64 z)
          have HBX := Lib.hid hbx
          have hlx9 : aloneN q C j ≤ 1000 := HLX.out
          have hji : (j : Int) < (n2 : Int) := by omega
          clear hxyz HLL HAK HA1 hbx hbv hxw b1r
          generalize aloneN q C j = a at *
          go_wp2_with fail
          obtain ⟨k2, k3, k4, k5⟩ := K0
          go_region_held3 (fun W => W.cell? ⟨h', 2, none⟩ = some (.slice Bq (gamesK q).length cq) ∧ W.cell? ⟨wr.heap.size, 0, none⟩ = some (.int .i64 x) ∧ W.cell? ⟨wr.heap.size, 1, none⟩ = some (.int .i64 y) ∧ W.cell? ⟨wr.heap.size, 2, none⟩ = some (.int .i64 z))
            (first | exact ⟨k2, k3, k4, k5⟩ | exact KX.out _ HC9.out | exact KX.out _ b3 | exact KX.out _ (b3.alloc b3.size _) | exact ⟨k6, k7, k8, k9⟩ | go_keep)
            (first
              | (go_at_call 68; refine (HF.out _ _ HA9.out (by simp) (by first | exact HBX.out | simpa using HBX.out)).mono ?_; rintro e w3 ⟨B3, c3, rfl, hb3⟩; have b3 := bfrom HC9.out hb3; have b4 := bfrom HA9.out hb3; have HO2 := Lib.hid (owns_now HO.out b4))
              | (refine step_append_atN _ ?_ (.tmp 35) (.tmp 44) _ ?_ w1.heap.size 3 i0 (.int .i64 0) 1 8 Try.underlying49 hi0 hz0 hz1 hz2 rfl ?_ (.slice B j cp) j ((aloneP q C j).map (Value.int .i64)) ?_ (HO2.out.alloc _) ⟨w3.heap.size, 0, none⟩ 1 1 [.int .i64 a] ?_ rfl (World.news_of_block (cs := #[.int .i64 a]) (t := 3) (fr := (0, 0)) (heap_alloc_new w3 _)) ?_ ?_ ?_ (by have := b4.size; simp; omega) ?_; (rfl); (rfl); (omega); (rfl); (rfl); (simp [Value.oneCell']); (unfold maxLen; omega); (omega); intro B7 cp7 w7 hown7 hgrow7 hob7
                 obtain ⟨hxr9, hxc9⟩ := HXB.out _ (b3.alloc b3.size (.cells #[.int .i64 a] 3))
                 have hx7 : Bx3 88 w7 h' (.int .i64 (q : Nat)) (.slice (some ⟨b, off, none⟩) n2 cp2) (.slice Bq (gamesK q).length cq) := (hgrow7.block h' hxr9.lt (fun e => by have := (HO.out.lt h' e.symm).1; omega)).trans hxr9
                 have hc7 : Bx3 90 w7 wr.heap.size (.int .i64 x) (.int .i64 y) (.int .i64 z) := (hgrow7.block wr.heap.size hxc9.lt (fun e => by have := (HO.out.lt wr.heap.size e.symm).2; omega)).trans hxc9
                 have k6 := hx7.cells.2.2
                 obtain ⟨k7, k8, k9⟩ := hc7.cells
                 clear hx7 hc7 hxr9 hxc9)
              | fail)
          all_goals
            have b8 := (HBR.out.trans (b4.mono hszr)).alloc (HBR.out.trans (b4.mono hszr)).size (.cells #[.int .i64 a] 3)
            have HB9 := Lib.hid (b8.grown hgrow7 b8.size (fun i hi => (HO.out.lt i hi).1))
            have HO7 := Lib.hid hown7
            clear hown7 hgrow7 hob7 b8 k2 k3 k4 k5 k6 k7 k8 k9
            go_wp2
            go_roundw
            case rel => exact ⟨j + 1, B7, cp7, by omega, by go_num, rfl, by rw [HSJ.out, List.map_append]; exact HO7.out, HB9.out⟩
            case measure => simp [intOf]; omega
        · obtain rfl : j = n2 := by omega
          have hge : ¬ ((j : Nat) : Int) < (j : Int) := by omega
          obtain ⟨g, cap', hv, hgg, _, _⟩ := owns_head HO.out (by omega)
          obtain ⟨rfl, rfl⟩ : B = some ⟨g, 0, none⟩ ∧ cp = cap' := by simpa using hv
          have hcl := Own.of_own (f := fun i => .int .i64 (aloneN q C i : Nat)) HO.out (fun i hi => by simp [aloneP_at hi])
          obtain ⟨hb1', hb2', hb3'⟩ := bstK_ok (aloneN q C) h1n
          have HMIN := Lib.hid (lowS_any (aloneN q C) g j cp wr h1n (by omega) (fun k => Nat.le_trans (HLE.out k) (by omega)) (fun i hi => hcl.cell hi))
          have HIDX := Lib.hid (indexI_any (aloneN q C) g j cp (bstK (aloneN q C) j).1 (loF (aloneN q C) j) wr (by omega) hb1' (fun k => Nat.le_trans (HLE.out k) (by omega)) hb2' hb3' (fun i hi => hcl.cell hi))
          have hmin9 : loF (aloneN q C) j ≤ 1000 := loF_le HLE.out
          have hres := HRB.out
          rw [← hres] at HIDX
          have hR8 : R ≤ 8 := by omega
          clear hcl hb1' hb2' hb3' hres hv
          generalize loF (aloneN q C) j = lo at *
          go_wp2_with (first
            | (go_at_call 70; refine HMIN.out.mono ?_; rintro e w5 ⟨rfl, rfl⟩)
            | (go_at_call 69; refine HIDX.out.mono ?_; rintro e w6 ⟨rfl, rfl⟩)
            | fail)
          go_ret2
          exact ⟨by rw [HK1.out]; rfl, g1.trans (HBR.out.mono hg1w)⟩
end Go.Proofs.Ytlcfimddcedbcab

namespace Go.Proofs.Ytlcfimddcedbcab
open Go.RowKit Vo

theorem kcl_mid {w : World} {b0 n : Nat} {C : List Clu} (h : KCl w (some ⟨b0, 0, none⟩) n C) {j : Nat} (hj : j < n) : KCl w (some ⟨b0, j * 3, none⟩) 1 [cAt C j] := by
  obtain ⟨b, off, hA, hc⟩ := h.get (by omega)
  injection hA with hA
  injection hA with h2 h3
  subst h2 h3
  obtain ⟨a0, a1, a2⟩ := hc.at hj
  simp only [Nat.zero_add] at a0 a1 a2
  refine ⟨rfl, b0, j * 3, fun _ => ⟨rfl, hc.lt, fun i hi => ?_⟩⟩
  match i, hi with
  | 0, _ => exact a0
  | 1, _ => exact a1
  | 2, _ => exact a2
theorem sol_one {q : Nat} {C : List Clu} {j : Nat} : (solK q [cAt C j]).length = aloneN q C j := rfl

set_option maxRecDepth 20000 in
set_option maxHeartbeats 4000000 in
theorem sBestClue_any (m : Int) (b0 : Nat) (n cap : Nat) (C : List Clu) (w : World) (hl : n ≤ 1048576) (hcap : n ≤ cap) (hk : KCl w (some ⟨b0, 0, none⟩) n C) :
    Calls Try.prog 37 #[.agg #[.int .i64 m, .slice (some ⟨b0, 0, none⟩) n cap]] w fun e w' => e = .returned (.tuple #[.int .i64 (bestU m C : Nat), .bool (bestOk m C)]) ∧ Below w.heap.size w w' := by
  have hb0 := below1 w (.cells #[.int .i64 m, .slice (some ⟨b0, 0, none⟩) n cap] 31)
  have hx := BoxT.new 31 w (.int .i64 m) (.slice (some ⟨b0, 0, none⟩) n cap)
  obtain ⟨c0, c1⟩ := hx.cells
  have HP := Lib.hid (pzGood_any m _ n cap C _ (by omega) (hk.now hb0))
  have HK := Lib.hid (hk.now hb0)
  have hcl := hk.1
  obtain ⟨R, hR⟩ : ∃ R : Nat, R = bestU m C := ⟨_, rfl⟩
  obtain ⟨K, hK⟩ : ∃ K : Bool, K = bestOk m C := ⟨_, rfl⟩
  rw [← hR, ← hK]
  clear hk
  cases hp : puzB m C with
  | false =>
    rw [show bestU m C = 0 from by unfold bestU; rw [hp]; rfl] at hR
    rw [show bestOk m C = false from by unfold bestOk; rw [hp]; rfl] at hK
    subst hR hK
    rw [hp] at HP
    clear hp hcl
    go_enter Try.func37, Try.ntmps37
    go_wp2_with fail
    refine HP.out.mono ?_
    rintro e w1 ⟨rfl, hb1⟩
    go_wp2
    go_ret2
    exact ⟨rfl, bfrom hb0 hb1⟩
  | true =>
    obtain ⟨q, rfl, h1, h4, hask⟩ := puzB_nat hp
    have hn8 : n ≤ 8 := by have := puzB_le hp; omega
    rw [hp] at HP
    have HRB := Lib.hid (show R = (bstK (aloneN q C) n).1 from by rw [hR]; unfold bestU; rw [hp, if_pos rfl, Int.toNat_natCast, hcl])
    have HKB := Lib.hid (show K = decide (0 < n) from by rw [hK]; unfold bestOk; rw [hp, Bool.true_and, hcl])
    have HALL := Lib.hid (fun W j cp' (hj : j < n) (hW : Below (w.alloc (.cells #[.int .i64 (q : Nat), .slice (some ⟨b0, 0, none⟩) n cap] 31)).heap.size (w.alloc (.cells #[.int .i64 (q : Nat), .slice (some ⟨b0, 0, none⟩) n cap] 31)) W) =>
      show Calls Try.prog 58 #[.int .i64 q, .slice (some ⟨b0, j * 3, none⟩) 1 cp'] W (fun e w' => ∃ B cp, e = .returned (.slice B (aloneN q C j) cp) ∧ Below W.heap.size W w') from
      (pzAll_any q 1 _ cp' [cAt C j] W h1 h4 (by omega) (kcl_mid (HK.out.now hW) hj) (fun t ht => by
        obtain rfl : t = 0 := by omega
        exact hask j (by omega))).mono fun e w' h => by
        obtain ⟨Q, B, cp, he, _, _, hb⟩ := h.sol h1 h4 (fun t ht => by
          obtain rfl : t = 0 := by simp at ht; omega
          exact hask j (by omega))
        rw [sol_one] at he
        exact ⟨B, cp, he, hb⟩)
    have HLT := Lib.hid (fun j => aloneN_le C j h1 h4)
    clear hp hcl hask hR hK
    go_enter Try.func37, Try.ntmps37
    go_wp2_with fail
    refine HP.out.mono ?_
    rintro e w1 ⟨rfl, hb1⟩
    have G1 := Lib.hid (bfrom hb0 hb1)
    have X1 := Lib.hid (hx.now hb1)
    have B1 := Lib.hid hb1
    obtain ⟨c0, c1⟩ := X1.out.cells
    by_cases hz : n = 0
    · subst hz
      have HR0 := Lib.hid (show R = 0 from HRB.out)
      have HK0 := Lib.hid (show K = false from HKB.out)
      go_wp2
      go_ret2
      exact ⟨by rw [HR0.out, HK0.out]; rfl, G1.out⟩
    · have h1n : 1 ≤ n := by omega
      have hzi : ¬ ((n : Nat) : Int) = 0 := by omega
      have hzb : (((n : Nat) : Int) == 0) = false := beq_false_of_ne hzi
      have HK1 := Lib.hid (show K = true from by rw [HKB.out]; exact decide_eq_true (by omega))
      obtain ⟨f, hf⟩ : ∃ f, f = aloneN q C := ⟨_, rfl⟩
      rw [← hf] at HALL HLT HRB
      clear hz hf HKB
      go_wp2_with fail
      go_loopw [4, 5, 20] (fun bv lv i wr => ∃ (j : Nat), j ≤ n ∧ i = .int .i64 j ∧ bv = .int .i64 ((bstK f j).1 : Nat) ∧ lv = .int .i64 ((bstK f j).2 : Nat) ∧ Below w1.heap.size w1 wr) (fun _ _ i _ => n - (intOf i).toNat)
      case atStart => exact ⟨0, Nat.zero_le _, rfl, rfl, rfl, Below.refl _ _⟩
      case round =>
        obtain ⟨j, hj, rfl, rfl, rfl, hbr⟩ := hrel
        have HBR := Lib.hid hbr
        have hszr := hbr.size
        have hxr := X1.out.now hbr
        obtain ⟨c0, c1⟩ := hxr.cells
        clear hbr
        by_cases hlt : j < n
        · have hji : (j : Int) < (n : Int) := by omega
          have hjc : (j : Int) + 1 ≤ (cap : Int) := by omega
          have hcj : ¬ cap = j := by omega
          have hjj : (j : Int) ≤ (j : Int) + 1 := by omega
          have hjw : IntKind.i64.wrap ((j : Int) + 1) = (j : Int) + 1 := IntWalk.i64_in _ (by omega)
          have hj0 : (0 : Int) ≤ (j : Int) := by omega
          have hxl := HLT.out j
          have hble := bstK_le HLT.out j
          have HC := Lib.hid (fun W cp' (hW : Below wr.heap.size wr W) => HALL.out W j cp' hlt (B1.out.trans ((HBR.out.trans (hW.mono hszr)).mono B1.out.size)))
          have HCS := Lib.hid (show (j = 0 ∧ bstK f (j+1) = (j, f j)) ∨ (1 ≤ j ∧ f j < (bstK f j).2 ∧ bstK f (j+1) = (j, f j)) ∨ (1 ≤ j ∧ (bstK f j).2 ≤ f j ∧ bstK f (j+1) = bstK f j) from by
            rw [bstK_succ]
            by_cases e : j = 0
            · exact Or.inl ⟨e, if_pos (Or.inl e)⟩
            · by_cases e2 : f j < (bstK f j).2
              · exact Or.inr (Or.inl ⟨by omega, e2, if_pos (Or.inr e2)⟩)
              · exact Or.inr (Or.inr ⟨by omega, by omega, if_neg (by omega)⟩))
          have KX := Lib.hid (show ∀ W, Below wr.heap.size wr W → (W.cell? ⟨w.heap.size, 0, none⟩ = some (.int .i64 (q : Nat)) ∧ W.cell? ⟨w.heap.size, 1, none⟩ = some (.slice (some ⟨b0, 0, none⟩) n cap)) from fun W hW => (hxr.now hW).cells)
          obtain ⟨P, hP⟩ : ∃ P, P = bstK f j := ⟨_, rfl⟩
          rw [← hP] at HCS hble
          rw [← hP]
          obtain ⟨b, l⟩ := P
          simp only at HCS hble
          simp only
          obtain ⟨hble1, hble2⟩ := hble
          clear hP hxr
          generalize f j = a at *
          go_wp2_with fail
          go_region_held3 (fun W => W.cell? ⟨w.heap.size, 0, none⟩ = some (.int .i64 (q : Nat)) ∧ W.cell? ⟨w.heap.size, 1, none⟩ = some (.slice (some ⟨b0, 0, none⟩) n cap))
            (first | exact ⟨c0, c1⟩ | exact KX.out _ b2 | go_keep)
            (first
              | (go_at_call 58; (first | rw [if_neg hcj] | skip); refine (HC.out _ _ (Below.refl _ _).drew).mono ?_; rintro e w2 ⟨B2, cp2, rfl, hb2⟩; have b2 := bfrom (Below.refl _ wr).drew hb2)
              | fail)
          all_goals
            have HB9 := Lib.hid (HBR.out.trans (b2.mono hszr))
            clear c0 c1 b2 hb2
            rcases HCS.out with ⟨e0, e9⟩ | ⟨e0, e1, e9⟩ | ⟨e0, e1, e9⟩
            · subst e0
              have E9 := Lib.hid e9
              clear e9
              go_wp2
              go_roundw
              case rel => exact ⟨0 + 1, by omega, by go_num, by rw [E9.out], by rw [E9.out], HB9.out⟩
              case measure => simp [intOf]; omega
            · have E9 := Lib.hid e9
              have hne : ((j : Int) == 0) = false := beq_false_of_ne (by omega)
              have hlt1 : (a : Int) < (l : Int) := by omega
              clear e9
              go_wp2
              go_roundw
              case rel => exact ⟨j + 1, by omega, by go_num, by rw [E9.out], by rw [E9.out], HB9.out⟩
              case measure => simp [intOf]; omega
            · have E9 := Lib.hid e9
              have hne : ((j : Int) == 0) = false := beq_false_of_ne (by omega)
              have hlt1 : ¬ (a : Int) < (l : Int) := by omega
              clear e9
              go_wp2
              go_roundw
              case rel => exact ⟨j + 1, by omega, by go_num, by rw [E9.out], by rw [E9.out], HB9.out⟩
              case measure => simp [intOf]; omega
        · obtain rfl : j = n := by omega
          have hge : ¬ ((j : Nat) : Int) < (j : Int) := by omega
          go_wp2
          go_ret2
          exact ⟨by rw [HRB.out, HK1.out]; rfl, G1.out.trans (HBR.out.mono G1.out.size)⟩
theorem iBestClue_p (m : Int) (A : Option Addr) (n cap : Nat) (C : List Clu) (w : World) (hl : n ≤ 1048576) (_hc : n ≤ cap) (hk : KCl w A n C) :
    Calls Try.prog 38 #[.agg #[.int .i64 m, .slice A n cap]] w fun e w' => e = .returned (.tuple #[.int .i64 (bestU m C : Nat), .bool (bestOk m C)]) ∧ Below w.heap.size w w' := iBestClue_any m A n cap C w hl hk
end Go.Proofs.Ytlcfimddcedbcab
