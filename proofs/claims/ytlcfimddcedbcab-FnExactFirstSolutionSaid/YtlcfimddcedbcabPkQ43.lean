/- Texts of Gu, Gzc. -/
import Derived.Test.YtlcfimddcedbcabPkQ38
import Derived.Test.YtlcfimddcedbcabPkQ32
import Derived.Outline
import Derived.Test.YtlcfimddcedbcabPkQ39
namespace Go.Proofs.Ytlcfimddcedbcab
open Go.RowKit Vo

set_option maxRecDepth 20000 in
set_option maxHeartbeats 4000000 in
/-- readSolutions: a list of games, and whether there are any. -/
theorem readSolutions_any (m : Int) (A : Option Addr) (n cap : Nat) (C : List Clu) (w : World) (hl : n ≤ 1048576) (hk : KCl w A n C) :
    Calls Try.prog 65 #[.agg #[.int .i64 m, .slice A n cap]] w fun e w' => ((puzB m C = false ∧ e = .returned (.tuple #[.slice none 0 0, .bool false])) ∨ (puzB m C = true ∧ ∃ (q : Nat) (v : Value), m = q ∧ 1 ≤ q ∧ q ≤ 4 ∧ e = .returned (.tuple #[v, .bool (decide (0 < (solK q C).length))]) ∧ GSb w.heap.size q (solK q C) v w')) ∧ Below w.heap.size w w' := by
  have b0 := below1 w (.cells #[.int .i64 m, .slice A n cap] 31)
  obtain ⟨c0, c1⟩ := (BoxT.new 31 w (.int .i64 m) (.slice A n cap)).cells
  have HR := Lib.hid (readRiddle_any m A n cap C _ hl (hk.now b0))
  clear hk
  cases hp : puzB m C with
  | false =>
    rw [hp] at HR
    clear hp
    go_enter Try.func65, Try.ntmps65
    go_wp2_with fail
    refine HR.out.mono ?_
    rintro e w1 ⟨h, hb1⟩
    obtain rfl : e = .returned (.tuple #[.pointer none, .bool false]) := by
      rcases h with ⟨_, h⟩ | ⟨h, _⟩
      · exact h
      · simp at h
    clear h c0 c1
    go_wp2
    go_ret2
    exact ⟨Or.inl ⟨by first | rfl | trivial, rfl⟩, bfrom b0 hb1⟩
  | true =>
    rw [hp] at HR
    have HPP := Lib.hid hp
    clear hp
    go_enter Try.func65, Try.ntmps65
    go_wp2_with fail
    refine HR.out.mono ?_
    rintro e w1 ⟨h, hb1⟩
    obtain ⟨q, h', rfl, hq1, hq4, rfl, hrd⟩ : ∃ (q h' : Nat), m = q ∧ 1 ≤ q ∧ q ≤ 4 ∧ e = .returned (.tuple #[.pointer (some ⟨h', 0, none⟩), .bool true]) ∧ RdAt _ q C h' w1 := by
      rcases h with ⟨h, _⟩ | ⟨_, h⟩
      · simp at h
      · exact h
    have g1 := bfrom b0 hb1
    have HS := Lib.hid (solutions_any _ q C h' w1 hq1 hq4 hb1.size HPP.out hrd)
    clear h c0 c1 hrd
    go_wp2_with fail
    refine HS.out.mono ?_
    rintro e w2 ⟨v', rfl, hgs, hb2⟩
    obtain ⟨Bq, cq, rfl⟩ := GSb.slice hgs
    have HG := Lib.hid (hgs.low (base' := w.heap.size) b0.size)
    have HD := Lib.hid (show decide ((0 : Int) < ((solK q C).length : Int)) = decide (0 < (solK q C).length) from by congr 1; exact propext (by omega))
    clear hgs
    go_wp2
    go_ret2
    exact ⟨Or.inr ⟨by first | rfl | trivial, q, _, rfl, hq1, hq4, by rw [← HD.out]; rfl, HG.out⟩, bfrom g1 hb2⟩

def fsOk (m : Int) (C : List Clu) : Bool := puzB m C && decide (0 < (solK m.toNat C).length)
def fsL (m : Int) (C : List Clu) : List (List Int) := if fsOk m C then setsL ((solK m.toNat C).getD 0 []) else []
theorem solK_get {m i : Nat} {C : List Clu} (h1 : 1 ≤ m) (h4 : m ≤ 4) (hi : i < (solK m C).length) : ((solK m C).getD i []).length ≤ 16 ∧ ∀ s ∈ (solK m C).getD i [], s < 2^m := by
  have hm : (solK m C).getD i [] ∈ gamesK m := by
    rw [List.getD_eq_getElem?_getD, List.getElem?_eq_getElem hi]
    exact (List.mem_filter.1 (List.getElem_mem hi)).1
  obtain ⟨k, hk, he⟩ := List.getElem_of_mem hm
  have := gamesK_get h1 h4 hk
  rw [List.getD_eq_getElem?_getD, List.getElem?_eq_getElem hk, Option.getD_some, he] at this
  exact this
theorem getD_lt {S : List Nat} {B : Nat} (h : ∀ s ∈ S, s < B) {j : Nat} (hj : j < S.length) : S.getD j 0 < B := h _ (by rw [List.getD_eq_getElem?_getD, List.getElem?_eq_getElem hj]; exact List.getElem_mem hj)
theorem two4 {q : Nat} (h : q ≤ 4) : 2^q ≤ 512 := by
  obtain rfl | rfl | rfl | rfl | rfl : q = 0 ∨ q = 1 ∨ q = 2 ∨ q = 3 ∨ q = 4 := by omega
  all_goals decide

set_option maxRecDepth 20000 in
set_option maxHeartbeats 4000000 in
theorem iFirstSolution_any (m : Int) (A : Option Addr) (n cap : Nat) (C : List Clu) (w : World) (hl : n ≤ 1048576) (hk : KCl w A n C) :
    Calls Try.prog 26 #[.agg #[.int .i64 m, .slice A n cap]] w fun e w' => AnsG RSS (if fsOk m C then m else 0) (fsL m C) (fsOk m C) w w' e := by
  obtain ⟨P, hP⟩ : ∃ P : World → Ending → Prop, P = fun w' e => AnsG RSS (if fsOk m C then m else 0) (fsL m C) (fsOk m C) w w' e := ⟨_, rfl⟩
  suffices h : Calls Try.prog 26 #[.agg #[.int .i64 m, .slice A n cap]] w fun e w' => P w' e by rw [hP] at h; exact h
  have HNO := Lib.hid (show fsOk m C = false → ∀ w' e, AnsG RSS 0 [] false w w' e → P w' e from fun h w' e k => by rw [hP]; unfold fsL; rw [h]; exact k)
  have HYES := Lib.hid (show fsOk m C = true → ∀ w' e, AnsG RSS m (setsL ((solK m.toNat C).getD 0 [])) true w w' e → P w' e from fun h w' e k => by rw [hP]; unfold fsL; rw [h]; exact k)
  clear hP
  have b0 : Below w.heap.size w ((w.alloc (.cells #[.int .i64 m, .slice A n cap] 31)).alloc (.cells #[.int .i64 0, .slice none 0 0] 42)) := (below1 w _).alloc (by simp) _
  have hx := (BoxT.new 31 w (.int .i64 m) (.slice A n cap)).alloc (.cells #[.int .i64 0, .slice none 0 0] 42)
  have hr := BoxT.new 42 (w.alloc (.cells #[.int .i64 m, .slice A n cap] 31)) (.int .i64 0) (.slice none 0 0)
  simp only [World.size_alloc] at hr
  obtain ⟨c0, c1⟩ := hx.cells
  have HR := Lib.hid (readSolutions_any m A n cap C _ hl (hk.now b0))
  clear hk hx
  go_enter Try.func26, Try.ntmps26
  go_wp2_with fail
  refine HR.out.mono ?_
  rintro e w1 ⟨h, hb1⟩
  have g1 := bfrom b0 hb1
  have hr1 := hr.now hb1
  have hz1 := hr1.lt
  obtain ⟨r0, r1⟩ := hr1.cells
  obtain ⟨f0, f1⟩ := box_soft2 hr1
  rcases h with ⟨hp, rfl⟩ | ⟨hp, q, v, rfl, hq1, hq4, rfl, hg⟩
  · have HF := Lib.hid (show fsOk m C = false from by unfold fsOk; rw [hp]; rfl)
    clear c0 c1 hr hr1 hp
    go_wp2
    refine bodyPost_ret (v := .tuple #[.agg #[.int .i64 0, .slice none 0 0], .bool false]) (by simp [results, Try.results26, go_sem, r0, r1]) rfl (HNO.out HF.out _ _ ?_)
    exact AnsG.none_ RSS.none_ ((g1.setCell (by simp) _).setCell (by simp) _)
  · by_cases h0 : 0 < (solK q C).length
    · have HF := Lib.hid (show fsOk (q : Int) C = true from by unfold fsOk; rw [hp, Int.toNat_natCast, decide_eq_true h0]; rfl)
      obtain ⟨h16, h512⟩ := solK_get hq1 hq4 h0
      obtain ⟨xs, G, Cc, hown, hgs⟩ := hg
      obtain ⟨x0, x1, _, ho⟩ := hgs 0 h0
      obtain ⟨g, cp', hv, hgl, _, _⟩ := owns_headS hown h0
      subst hv
      have hlen := hown.1
      have e0 : w1.cell? ⟨g, 0, none⟩ = some (.int .i64 (q : Nat)) := by rw [hown.cellAt 0 (by omega)]; exact x0
      have e1 : w1.cell? ⟨g, 1, none⟩ = some (.slice (some ⟨G 0, 0, none⟩) ((solK q C).getD 0 []).length (Cc 0)) := by rw [hown.cellAt 1 (by omega)]; exact x1
      have HT := Lib.hid (told_any ((solK q C).getD 0 []) q _ _ (Cc 0) _ w1 rfl (by omega) (fun j hj => Nat.lt_of_lt_of_le (getD_lt h512 hj) (two4 hq4)) ho)
      have HQ := Lib.hid (show (solK (q : Int).toNat C).getD 0 [] = (solK q C).getD 0 [] from by rw [Int.toNat_natCast])
      rw [HQ.out] at HYES
      have HLS := Lib.hid (show (setsL ((solK q C).getD 0 [])).length = ((solK q C).getD 0 []).length from by simp [setsL])
      have h0' : (0 : Int) < ((solK q C).length : Int) := by omega
      have hdec : decide (0 < (solK q C).length) = true := decide_eq_true h0
      rw [hdec]
      obtain ⟨S, hS⟩ : ∃ S, S = (solK q C).getD 0 [] := ⟨_, rfl⟩
      rw [← hS] at e1 HT HYES HLS
      obtain ⟨ls, hls⟩ : ∃ z, z = S.length := ⟨_, rfl⟩
      rw [← hls] at e1 HT HLS
      obtain ⟨NS, hNS⟩ : ∃ z, z = (solK q C).length := ⟨_, rfl⟩
      rw [← hNS] at h0'
      rw [← hNS]
      clear hr hp hown hgs ho x0 x1 h16 h512 h0 hdec hlen hS hls hNS HQ HR c0 c1
      go_wp2_with fail
      refine HT.out.mono ?_
      rintro e w2 ⟨B, cp, rfl, hlr, hb2⟩
      have HL2 := Lib.hid hlr
      have g2 := bfrom g1 hb2
      have hr2 := hr1.now hb2
      obtain ⟨r20, r21⟩ := hr2.cells
      obtain ⟨f20, f21⟩ := box_soft2 hr2
      clear r0 r1 f0 f1 hlr
      go_wp2
      refine bodyPost_ret (v := .tuple #[.agg #[.int .i64 (q : Nat), .slice B ls cp], .bool true]) (by simp [results, Try.results26, go_sem, r20, r21]) rfl (HYES.out HF.out _ _ ⟨B, cp, by rw [HLS.out], ?_, (g2.setCell (by simp) _).setCell (by simp) _⟩)
      rw [HLS.out]
      exact Lies.rss_wide (Lies.far (Lies.far HL2.out (by simp; omega) _) (by simp; omega) _) (by omega) (by first | exact Nat.le_refl _ | simp) (by first | exact Nat.le_refl _ | simp)
    · have HF := Lib.hid (show fsOk (q : Int) C = false from by unfold fsOk; rw [hp, Int.toNat_natCast, decide_eq_false h0]; rfl)
      rw [decide_eq_false h0]
      clear c0 c1 hr hr1 hp hg h0
      go_wp2
      refine bodyPost_ret (v := .tuple #[.agg #[.int .i64 0, .slice none 0 0], .bool false]) (by simp [results, Try.results26, go_sem, r0, r1]) rfl (HNO.out HF.out _ _ ?_)
      exact AnsG.none_ RSS.none_ ((g1.setCell (by simp) _).setCell (by simp) _)
end Go.Proofs.Ytlcfimddcedbcab

namespace Go.Proofs.Ytlcfimddcedbcab
open Go.RowKit Vo

set_option maxRecDepth 20000 in
set_option maxHeartbeats 4000000 in
theorem sFirstSolution_any (m : Int) (A : Option Addr) (n cap : Nat) (C : List Clu) (w : World) (hl : n ≤ 1048576) (_hc : n ≤ cap) (hk : KCl w A n C) :
    Calls Try.prog 25 #[.agg #[.int .i64 m, .slice A n cap]] w fun e w' => AnsG RSS0 (if fsOk m C then m else 0) (fsL m C) (fsOk m C) w w' e := by
  obtain ⟨P, hP⟩ : ∃ P : World → Ending → Prop, P = fun w' e => AnsG RSS0 (if fsOk m C then m else 0) (fsL m C) (fsOk m C) w w' e := ⟨_, rfl⟩
  suffices h : Calls Try.prog 25 #[.agg #[.int .i64 m, .slice A n cap]] w fun e w' => P w' e by rw [hP] at h; exact h
  have HNO := Lib.hid (show fsOk m C = false → ∀ w' e, AnsG RSS0 0 [] false w w' e → P w' e from fun h w' e k => by rw [hP]; unfold fsL; rw [h]; exact k)
  have HYES := Lib.hid (show fsOk m C = true → ∀ w' e, AnsG RSS0 m (setsL ((solK m.toNat C).getD 0 [])) true w w' e → P w' e from fun h w' e k => by rw [hP]; unfold fsL; rw [h]; exact k)
  clear hP
  have hb0 : Below w.heap.size w ((w.alloc (.cells #[.int .i64 m, .slice A n cap] 31)).alloc (.cells #[.int .i64 0, .slice none 0 0] 42)) := (below1 w _).alloc (by simp) _
  have hx := (BoxT.new 31 w (.int .i64 m) (.slice A n cap)).alloc (.cells #[.int .i64 0, .slice none 0 0] 42)
  have hr := BoxT.new 42 (w.alloc (.cells #[.int .i64 m, .slice A n cap] 31)) (.int .i64 0) (.slice none 0 0)
  simp only [World.size_alloc] at hr
  have HP := Lib.hid (pzGood_any m A n cap C _ (by omega) (hk.now hb0))
  have HK := Lib.hid (hk.now hb0)
  have hcl := hk.1
  have KF := Lib.hid (show ∀ W, BoxT 42 W (w.heap.size + 1) (.int .i64 0) (.slice none 0 0) → (W.frozen? ⟨w.heap.size + 1, 0, none⟩ = false ∧ W.frozen? ⟨w.heap.size + 1, 1, none⟩ = false) from fun W h => by unfold BoxT at h; exact ⟨by simp [World.frozen?, h], by simp [World.frozen?, h]⟩)
  clear hk
  obtain ⟨c0, c1⟩ := hx.cells
  cases hp : puzB m C with
  | false =>
    have HF := Lib.hid (show fsOk m C = false from by unfold fsOk; rw [hp]; rfl)
    rw [hp] at HP
    clear hp hcl
    go_enter Try.func25, Try.ntmps25
    go_wp2_with fail
    refine HP.out.mono ?_
    rintro e w1 ⟨rfl, hb1⟩
    have g1 := bfrom hb0 hb1
    have hr1 := hr.now hb1
    obtain ⟨r0, r1⟩ := hr1.cells
    obtain ⟨f0, f1⟩ := KF.out _ hr1
    go_wp2
    refine bodyPost_ret (v := .tuple #[.agg #[.int .i64 0, .slice none 0 0], .bool false]) (by simp [results, Try.results25, go_sem, r0, r1]) rfl (HNO.out HF.out _ _ (AnsG.none_ RSS0.none_ ((g1.setCell (by simp) _).setCell (by simp) _)))
  | true =>
    obtain ⟨q, rfl, h1, h4, hask⟩ := puzB_nat hp
    rw [hp] at HP
    have HOK := Lib.hid (show fsOk (q : Int) C = decide (0 < (solK q C).length) from by unfold fsOk; rw [hp, Int.toNat_natCast]; rfl)
    rw [Int.toNat_natCast] at HYES
    have HALL := Lib.hid (fun W (hW : Below ((w.alloc (.cells #[.int .i64 (q : Nat), .slice A n cap] 31)).alloc (.cells #[.int .i64 0, .slice none 0 0] 42)).heap.size ((w.alloc (.cells #[.int .i64 (q : Nat), .slice A n cap] 31)).alloc (.cells #[.int .i64 0, .slice none 0 0] 42)) W) => (pzAll_any q n A cap C W h1 h4 hl (HK.out.now hW) (fun j hj => hask j (by omega))).mono fun e w' h => h.sol h1 h4 hask)
    obtain ⟨R, hR⟩ : ∃ R, R = (solK q C).length := ⟨_, rfl⟩
    rw [← hR] at HALL HOK
    have HR := Lib.hid hR
    clear hp hcl hask hR
    by_cases h0 : R = 0
    · subst h0
      have HF := Lib.hid (show fsOk (q : Int) C = false from by rw [HOK.out]; rfl)
      go_enter Try.func25, Try.ntmps25
      go_wp2_with fail
      refine HP.out.mono ?_
      rintro e w1 ⟨rfl, hb1⟩
      have g1 := bfrom hb0 hb1
      have hr1 := hr.now hb1
      clear c0 c1
      obtain ⟨c0, c1⟩ := (hx.now hb1).cells
      go_wp2_with (first
        | (go_at_call 58; refine (HALL.out _ hb1).mono ?_; rintro e w2 ⟨Q, B, cp, rfl, hq, hG, hb2⟩; have g2 := bfrom g1 hb2; have hr2 := hr1.now hb2; obtain ⟨r0, r1⟩ := hr2.cells; obtain ⟨f0, f1⟩ := KF.out _ hr2)
        | fail)
      refine bodyPost_ret (v := .tuple #[.agg #[.int .i64 0, .slice none 0 0], .bool false]) (by simp [results, Try.results25, go_sem, r0, r1]) rfl (HNO.out HF.out _ _ (AnsG.none_ RSS0.none_ ((g2.setCell (by simp) _).setCell (by simp) _)))
    · have HT := Lib.hid (show fsOk (q : Int) C = true from by rw [HOK.out]; exact decide_eq_true (by omega))
      have hne : ((R : Int) == 0) = false := beq_false_of_ne (by omega)
      have hpos : (0 : Int) < (R : Int) := by omega
      go_enter Try.func25, Try.ntmps25
      go_wp2_with fail
      refine HP.out.mono ?_
      rintro e w1 ⟨rfl, hb1⟩
      have g1 := bfrom hb0 hb1
      have hr1 := hr.now hb1
      clear c0 c1
      obtain ⟨c0, c1⟩ := (hx.now hb1).cells
      go_wp2_with fail
      refine (HALL.out _ hb1).mono ?_
      rintro e w2 ⟨Q, B, cp, rfl, hq, hG, hb2⟩
      have g2 := bfrom g1 hb2
      have hr2 := hr1.now hb2
      have hz1 := hb1.size
      have hz2 := hb2.size
      have hQ : Q.length = R := by rw [HR.out, ← hq, List.length_map]
      have hQ0 : 0 < Q.length := by omega
      obtain ⟨gB, cpB, hvB, _, _, _⟩ := owns_headN hG.1 hQ0
      have hvB2 := hvB
      simp only [Value.slice.injEq] at hvB2
      obtain ⟨rfl, _, rfl⟩ := hvB2
      obtain ⟨x0, x1⟩ := gpV_pair q Q 0 hQ0
      have hown := hG.1
      rw [hQ] at hown
      have e0 : w2.cell? ⟨gB, 0, none⟩ = some (.int .i64 q) := by rw [hown.cellAt 0 (by omega)]; exact x0
      have e1 : w2.cell? ⟨gB, 1, none⟩ = some (Q.getD 0 (0, .slice none 0 0)).2 := by rw [hown.cellAt 1 (by omega)]; exact x1
      have hmem : Q.getD 0 (0, .slice none 0 0) ∈ Q := by rw [List.getD_eq_getElem?_getD, List.getElem?_eq_getElem hQ0]; exact List.getElem_mem hQ0
      have hle : leastC q (Q.getD 0 (0, .slice none 0 0)).1 = (solK q C).getD 0 [] := by
        rw [← hq, List.getD_eq_getElem?_getD, List.getD_eq_getElem?_getD, List.getElem?_map, List.getElem?_eq_getElem hQ0]; rfl
      obtain ⟨lo, hi, AX, cX, hlo, _, hX, hlies⟩ := hG.2 _ hmem
      rw [hle] at hX hlies
      rw [hX] at e1 hlies
      have hhi := hlies.1
      obtain ⟨lx, hlx⟩ : ∃ lx, lx = ((solK q C).getD 0 []).length := ⟨_, rfl⟩
      rw [← hlx] at e1 hlies
      have HLX := Lib.hid hlies
      have HLN := Lib.hid hlx
      obtain ⟨r0, r1⟩ := hr2.cells
      obtain ⟨f0, f1⟩ := KF.out _ hr2
      clear hq hG x0 x1 hmem hX hlies hvB hlx hown hle hQ hQ0
      go_wp2
      have hzw : w1.heap.size ≤ lo := hlo
      have hzr : w.heap.size + 1 < w1.heap.size := hr1.lt
      refine bodyPost_ret (v := .tuple #[.agg #[.int .i64 q, .slice AX lx cX], .bool true]) (by simp [results, Try.results25, go_sem, r0, r1]) rfl (HYES.out HT.out _ _ ⟨AX, cX, by rw [setsL_len, ← HLN.out], ?_, (g2.setCell (by simp) _).setCell (by simp) _⟩)
      rw [setsL_len, ← HLN.out]
      exact Lies.rss0_wide (Lies.far (Lies.far HLX.out (by first | (simp; done) | (simp; omega)) _) (by first | (simp; done) | (simp; omega)) _) (by omega) (by simp; omega) (by first | exact Nat.le_refl _ | simp)
theorem iFirstSolution_p (m : Int) (A : Option Addr) (n cap : Nat) (C : List Clu) (w : World) (hl : n ≤ 1048576) (_hc : n ≤ cap) (hk : KCl w A n C) :
    Calls Try.prog 26 #[.agg #[.int .i64 m, .slice A n cap]] w fun e w' => AnsG RSS (if fsOk m C then m else 0) (fsL m C) (fsOk m C) w w' e := iFirstSolution_any m A n cap C w hl hk
theorem fsL_few (m : Int) (C : List Clu) : tot (fsL m C) + (fsL m C).length ≤ 1048576 := by
  unfold fsL
  split
  · rename_i h
    have h' := h
    unfold fsOk at h'
    rw [Bool.and_eq_true, decide_eq_true_iff] at h'
    obtain ⟨q, rfl, h1, h4, _⟩ := puzB_nat h'.1
    rw [Int.toNat_natCast] at h' ⊢
    have := (solK_get h1 h4 h'.2).1
    exact setsL_few (by omega)
  · simp [tot, totK]
end Go.Proofs.Ytlcfimddcedbcab
