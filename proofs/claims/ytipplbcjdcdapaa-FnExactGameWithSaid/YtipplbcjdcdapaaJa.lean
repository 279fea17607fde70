/- Contract of the model's DualGame. -/
import Derived.Outline
import Derived.Test.YtipplbcjdcdapaaJ2
import Derived.Test.YtipplbcjdcdapaaA5
import Derived.Test.YtipplbcjdcdapaaDz
namespace Go.Proofs.Ytipplbcjdcdapaa
open Go.RowKit Vo

theorem cell_far2 {w : World} {a p p' : Addr} {u u' v : Value} (h : w.cell? a = some v) (h1 : a.block ≠ p.block) (h2 : a.block ≠ p'.block) : ((w.setCell p u).setCell p' u').cell? a = some v := by
  have e : ((w.setCell p u).setCell p' u').heap[a.block]? = w.heap[a.block]? := (Below.heap_setCell _ p' u' a.block h2).trans (Below.heap_setCell w p u a.block h1)
  unfold World.cell? at h ⊢
  rw [e]; exact h
theorem filt512 {q : Nat} (hq : q ≤ 9) (P : Nat → Bool) : ((inOrder q).filter P).length ≤ 512 ∧ ∀ j, j < ((inOrder q).filter P).length → ((inOrder q).filter P).getD j 0 < 512 := by
  have h2 := pow_lt hq
  refine ⟨?_, fun j hj => ?_⟩
  · have h1 := List.length_filter_le P (inOrder q)
    have h3 := inOrder_len q
    omega
  · have h1 : ((inOrder q).filter P).getD j 0 ∈ (inOrder q).filter P := getD_mem hj
    have := mem_inOrder.1 (List.mem_filter.1 h1).1
    omega
/-- The sets of the dual. -/
def blockP (S : List Nat) (q s : Nat) : Bool := !winS S (co q s)
def dualS (m : Int) (L : List (List Int)) : List Nat := (inOrder m.toNat).filter (leastP (blockP (setsN L) m.toNat) m.toNat)
theorem dualS_len {m : Int} {L : List (List Int)} (h : goodG m L = true) : (dualS m L).length ≤ 512 := by
  obtain ⟨h1, h9, _, _, _⟩ := goodG_parts h
  exact (filt512 (by omega) _).1

set_option maxHeartbeats 1000000 in
theorem everybodyJ_any (v : Value) (n : Nat) (w : World) (hn : n < 10) :
    Calls Try.prog 121 #[.agg #[.int .i64 n, v]] w fun e w' => e = .returned (.int .u64 ((2^n - 1 : Nat) : Int)) ∧ Below w.heap.size w w' := by
  have hb0 := below1 w (.cells #[.int .i64 n, v] 71)
  obtain ⟨c0, c1⟩ := (BoxT.new 71 w (.int .i64 n) v).cells
  go_enter Try.func121, Try.ntmps121
  go_wp2_with (go_at_call 115; refine (allMembers_any _ _ hn).mono ?_; rintro e w2 ⟨rfl, rfl⟩)
  go_ret
  exact ⟨rfl, hb0⟩
set_option maxRecDepth 20000 in
set_option maxHeartbeats 2000000 in
theorem gBlocks_any (S : List Nat) (q s base k cap : Nat) (A : Option Addr) (w : World) (hq : q ≤ 9) (hk : k = S.length) (hs : k ≤ 1048576) (hS : ∀ t ∈ S, t < 512) (h5 : s < 2^q) (h1 : w.ownsRow base 96 1 (.slice A k cap) k (setsV S)) :
    Calls Try.prog 78 #[.agg #[.int .i64 q, .slice A k cap], .int .u64 s] w fun e w' => e = .returned (.bool (blockP S q s)) ∧ Below w.heap.size w w' := by
  have hx := BoxT.new 71 w (.int .i64 q) (.slice A k cap)
  have hb0 := below1 w (.cells #[.int .i64 q, .slice A k cap] 71)
  have hq10 : q < 10 := by omega
  have h512 := pow_lt hq
  have hco := co_lt h5
  have HE := Lib.hid (and_not q s hq10 h5)
  have HO1 := Lib.hid (owns_now h1 hb0)
  have HW := Lib.hid (fun W h => gLoses_any S q (co q s) base k cap A W hk hs hS (by omega) h)
  have HP := Lib.hid (show blockP S q s = !winS S (co q s) from rfl)
  have K := Lib.hid (show ∀ W, Below (w.alloc (.cells #[.int .i64 q, .slice A k cap] 71)).heap.size (w.alloc (.cells #[.int .i64 q, .slice A k cap] 71)) W → W.cell? ⟨w.heap.size, 0, none⟩ = some (.int .i64 q) ∧ W.cell? ⟨w.heap.size, 1, none⟩ = some (.slice A k cap) from fun W hb => (hx.now hb).cells)
  obtain ⟨c0, c1⟩ := hx.cells
  clear h1 hk hS hx
  obtain ⟨b, hb⟩ : ∃ b, b = winS S (co q s) := ⟨_, rfl⟩
  rw [← hb] at HW HP
  have HC := Lib.hid hco
  clear hb
  go_enter Try.func78, Try.ntmps78
  go_wp2_with fail
  go_region_held3 (fun w' => w'.cell? ⟨w.heap.size, 0, none⟩ = some (.int .i64 q) ∧ w'.cell? ⟨w.heap.size, 1, none⟩ = some (.slice A k cap))
    (first | exact ⟨c0, c1⟩ | exact ⟨e0, e1⟩ | exact ⟨a0, a1⟩ | go_keep)
    (first
      | (go_at_call 121; refine (everybodyJ_any _ q _ hq10).mono ?_; rintro e wE ⟨rfl, hbE⟩; have gE := bfrom (Below.refl _ _).drew hbE; obtain ⟨e0, e1⟩ := K.out _ gE)
      | (go_at_call 120; rw [HE.out]; refine (HW.out _ (owns_now HO1.out gE)).mono ?_; rintro e wA ⟨rfl, hbA⟩; have gA := bfrom gE hbA; obtain ⟨a0, a1⟩ := K.out _ gA))
  go_wp2
  go_ret
  exact ⟨by rw [HP.out]; cases b <;> rfl, bfrom hb0 gA⟩

theorem gBlocks_asks (S : List Nat) (q base k cap : Nat) (A : Option Addr) (w : World) (hq : q ≤ 9) (hk : k = S.length) (hs : k ≤ 1048576) (hS : ∀ t ∈ S, t < 512) (h1 : w.ownsRow base 96 1 (.slice A k cap) k (setsV S)) :
    Asks (blockP S q) 78 #[.agg #[.int .i64 q, .slice A k cap]] #[] q w :=
  ⟨enters_of Try.func78 (by kernel_rfl) rfl, fun W s h hb => gBlocks_any S q s base k cap A W hq hk hs hS h (owns_now h1 hb)⟩

set_option maxRecDepth 20000 in
set_option maxHeartbeats 6000000 in
theorem iDualGame_any (m : Int) (A : Option Addr) (n cap : Nat) (L : List (List Int)) (w : World) (hl : n ≤ 1048576) (hk : Lists w A n L) :
    Calls Try.prog 35 #[.agg #[.int .i64 m, .slice A n cap]] w fun e w' => AnsG RSS (okM (goodG m L) m) (okG (goodG m L) (dualS m L)) (goodG m L) w w' e := by
  have HLEN := Lib.hid hk.1
  have hb0 : Below w.heap.size w ((w.alloc (.cells #[.int .i64 m, .slice A n cap] 28)).alloc (.cells #[.int .i64 0, .slice none 0 0] 28)) := (below1 w _).alloc (by simp) _
  have HK := Lib.hid (hk.now hb0)
  have hx := (BoxT.new 28 w (.int .i64 m) (.slice A n cap)).alloc (.cells #[.int .i64 0, .slice none 0 0] 28)
  have hr := BoxT.new 28 (w.alloc (.cells #[.int .i64 m, .slice A n cap] 28)) (.int .i64 0) (.slice none 0 0)
  simp only [World.size_alloc] at hr
  clear hk
  have KF := Lib.hid (show ∀ W, BoxT 28 W (w.heap.size + 1) (.int .i64 0) (.slice none 0 0) → (W.frozen? ⟨w.heap.size + 1, 0, none⟩ = false ∧ W.frozen? ⟨w.heap.size + 1, 1, none⟩ = false) from fun W h => by unfold BoxT at h; exact ⟨by simp [World.frozen?, h], by simp [World.frozen?, h]⟩)
  obtain ⟨c0, c1⟩ := hx.cells
  go_enter Try.func35, Try.ntmps35
  go_wp2_with fail
  refine (readGame_any m A n cap L _ hl HK.out).mono ?_
  rintro e w1 ⟨hb1, h⟩
  have g1 := bfrom hb0 hb1
  have hr1 := hr.now hb1
  have hzr : w.heap.size + 1 < w1.heap.size := hr1.lt
  clear hx hr hb1 c0 c1 HK
  rcases h with ⟨hg, B, cp, rfl, hown⟩ | ⟨hg, rfl⟩
  · obtain ⟨h1, h9, _, hr', _⟩ := goodG_parts hg
    obtain ⟨q, rfl⟩ : ∃ q : Nat, m = q := ⟨m.toNat, by omega⟩
    rw [Int.toNat_natCast] at hr'
    have hq9 : q ≤ 9 := by omega
    have hq10 : q < 10 := by omega
    rw [HLEN.out] at hown ⊢
    have HGB := Lib.hid hg
    have HMM := Lib.hid (okM_yes (m := (q : Int)) hg)
    have HSS := Lib.hid (okG_yes (S := dualS (q : Int) L) hg)
    have HDS := Lib.hid (show dualS (q : Int) L = (inOrder q).filter (leastP (blockP (setsN L) q) q) from by unfold dualS; rw [Int.toNat_natCast])
    have HSN := Lib.hid (show n = (setsN L).length from by rw [← HLEN.out]; simp [setsN])
    have b2 := below1 w1 (.cells #[.int .i64 q, .slice B n cp] 71)
    have hy := BoxT.new 71 w1 (.int .i64 q) (.slice B n cp)
    have hr2 := hr1.now b2
    have HA := Lib.hid (gBlocks_asks (setsN L) q _ n cp B _ hq9 HSN.out hl (setsN_512 hq9 hr') (owns_now hown b2))
    have HF := Lib.hid (filt512 hq9 (leastP (blockP (setsN L) q) q))
    have HLS := Lib.hid (fun W h => leastSets_any (blockP (setsN L) q) 78 #[.agg #[.int .i64 q, .slice B n cp]] #[] q W hq10 h)
    obtain ⟨S, hS⟩ : ∃ S, S = (inOrder q).filter (leastP (blockP (setsN L) q) q) := ⟨_, rfl⟩
    rw [← hS] at HF HLS HDS
    obtain ⟨k, hkk⟩ : ∃ k, k = S.length := ⟨_, rfl⟩
    have HKL := Lib.hid hkk
    have hk512 : k ≤ 512 := by rw [hkk]; exact HF.out.1
    have HTOLD := Lib.hid (fun (cap : Nat) (A : Option Addr) (base : Nat) W h => told_any S q base k cap A W hkk hk512 (by rw [hkk]; exact HF.out.2) h)
    obtain ⟨w2, hw2⟩ : ∃ w2, w2 = w1.alloc (.cells #[.int .i64 q, .slice B n cp] 71) := ⟨_, rfl⟩
    have hz2 : w2.heap.size = w1.heap.size + 1 := by rw [hw2]; simp
    have hgw : Below w.heap.size w w2 := by rw [hw2]; exact bfrom g1 b2
    rw [← hw2] at hy hr2 HA
    have K := Lib.hid (show ∀ W, Below w2.heap.size w2 W → (W.cell? ⟨w1.heap.size, 0, none⟩ = some (.int .i64 q) ∧ W.cell? ⟨w1.heap.size, 1, none⟩ = some (.slice B n cp) ∧ W.cell? ⟨w.heap.size + 1, 0, none⟩ = some (.int .i64 0) ∧ W.cell? ⟨w.heap.size + 1, 1, none⟩ = some (.slice none 0 0) ∧ W.frozen? ⟨w.heap.size + 1, 0, none⟩ = false ∧ W.frozen? ⟨w.heap.size + 1, 1, none⟩ = false) from fun W hb => ⟨(hy.now hb).cells.1, (hy.now hb).cells.2, (hr2.now hb).cells.1, (hr2.now hb).cells.2, (KF.out _ (hr2.now hb)).1, (KF.out _ (hr2.now hb)).2⟩)
    have HGW := Lib.hid hgw
    obtain ⟨c0, c1, c2, c3, c4, c5⟩ := K.out _ (Below.refl _ _)
    clear hown hg hr' hS hkk hy hr1 hr2 g1 b2 hgw
    go_wp2_with fail
    rw [← hw2]
    clear hw2
    go_region_held3 (fun w' => w'.cell? ⟨w1.heap.size, 0, none⟩ = some (.int .i64 q) ∧ w'.cell? ⟨w1.heap.size, 1, none⟩ = some (.slice B n cp) ∧ (w'.cell? ⟨w.heap.size + 1, 0, none⟩).isSome = true ∧ (w'.cell? ⟨w.heap.size + 1, 1, none⟩).isSome = true ∧ w'.frozen? ⟨w.heap.size + 1, 0, none⟩ = false ∧ w'.frozen? ⟨w.heap.size + 1, 1, none⟩ = false)
      (first | exact ⟨c0, c1, by rw [c2]; rfl, by rw [c3]; rfl, c4, c5⟩ | exact ⟨b0, b1, by rw [b2]; rfl, by rw [b3]; rfl, b4, b5⟩ | exact ⟨d0, d1, by rw [d2]; rfl, by rw [d3]; rfl, d4, d5⟩ | ((try dsimp only); (repeat' apply And.intro); all_goals (first | exact cell_far2 d0 (by simp; omega) (by simp; omega) | exact cell_far2 d1 (by simp; omega) (by simp; omega) | exact isSome_set (isSome_set (Option.isSome_iff_exists.2 ⟨_, d2⟩)) | exact isSome_set (isSome_set (Option.isSome_iff_exists.2 ⟨_, d3⟩)) | go_keep)) | go_keep)
      (first
        | (go_at_call 77; refine (HLS.out _ (HA.out.now (Below.refl _ _).drew)).mono ?_; rintro e wB ⟨AB, cB, rfl, hoB, hbB⟩; rw [← HKL.out] at hoB ⊢; have HOB := Lib.hid hoB; clear hoB; have gB := bfrom (Below.refl _ w2).drew hbB; obtain ⟨b0, b1, b2, b3, b4, b5⟩ := K.out _ gB)
        | (go_at_call 63; refine (HTOLD.out cB AB _ _ HOB.out).mono ?_; rintro e wC ⟨BC, cC, rfl, hlC, hbC⟩; have HLC := Lib.hid hlC; clear hlC; have gC := bfrom gB hbC; obtain ⟨d0, d1, d2, d3, d4, d5⟩ := K.out _ gC))
    have hzB := gB.size
    have hzC := gC.size
    clear b0 b1 b2 b3 b4 b5 c0 c1 c2 c3 c4 c5 d0 d1 d4 d5
    go_wp2
    refine bodyPost_ret (v := .tuple #[.agg #[.int .i64 q, .slice BC k cC], .bool true]) (by simp [results, Try.results35, go_sem, d2, d3]) rfl ?_
    rw [HMM.out, HSS.out, HDS.out, HGB.out]
    have HSLN := Lib.hid (show (setsL S).length = k from by rw [setsL_len, HKL.out])
    refine ⟨BC, cC, by rw [HSLN.out], ?_, ?_⟩
    · rw [HSLN.out]
      exact Lies.rss_wide (Lies.far (Lies.far HLC.out (by first | omega | (simp; omega)) _) (by first | omega | (simp; omega)) _) (by omega) (by first | exact Nat.le_refl _ | simp) (by first | exact Nat.le_refl _ | simp)
    · exact ((bfrom HGW.out gC).setCell (by simp) _).setCell (by simp) _
  · have HGB := Lib.hid hg
    have HMM := Lib.hid (okM_no (m := m) hg)
    have HSS := Lib.hid (okG_no (S := dualS m L) hg)
    obtain ⟨f2, f3⟩ := KF.out _ hr1
    obtain ⟨e2, e3⟩ := hr1.cells
    have q0 : ((w1.setCell ⟨w.heap.size + 1, 0, none⟩ (.int .i64 0)).setCell ⟨w.heap.size + 1, 1, none⟩ (.slice none 0 0)).cell? ⟨w.heap.size + 1, 0, none⟩ = some (.int .i64 0) := by simp [go_sem, e2]
    have q1 : ((w1.setCell ⟨w.heap.size + 1, 0, none⟩ (.int .i64 0)).setCell ⟨w.heap.size + 1, 1, none⟩ (.slice none 0 0)).cell? ⟨w.heap.size + 1, 1, none⟩ = some (.slice none 0 0) := by simp [go_sem, e3]
    have hgs : Below w.heap.size w ((w1.setCell ⟨w.heap.size + 1, 0, none⟩ (.int .i64 0)).setCell ⟨w.heap.size + 1, 1, none⟩ (.slice none 0 0)) := (g1.setCell (by simp) _).setCell (by simp) _
    have k0 := ((below1 ((w1.setCell ⟨w.heap.size + 1, 0, none⟩ (.int .i64 0)).setCell ⟨w.heap.size + 1, 1, none⟩ (.slice none 0 0)) (.cells #[.int .i64 0, .slice none 0 0] 71)).cell (p := ⟨w.heap.size + 1, 0, none⟩) (by simp; omega)).trans q0
    have k1 := ((below1 ((w1.setCell ⟨w.heap.size + 1, 0, none⟩ (.int .i64 0)).setCell ⟨w.heap.size + 1, 1, none⟩ (.slice none 0 0)) (.cells #[.int .i64 0, .slice none 0 0] 71)).cell (p := ⟨w.heap.size + 1, 1, none⟩) (by simp; omega)).trans q1
    clear hg q0 q1
    have K0 := Lib.hid k0
    have K1 := Lib.hid k1
    clear k0 k1
    go_wp2
    refine bodyPost_ret (v := .tuple #[.agg #[.int .i64 0, .slice none 0 0], .bool false]) (by simp [results, Try.results35, go_sem, K0.out, K1.out]) rfl ?_
    rw [HMM.out, HSS.out, HGB.out]
    exact AnsG.none_ RSS.none_ (hgs.alloc hgs.size _)
end Go.Proofs.Ytipplbcjdcdapaa
namespace Go.Proofs.Ytipplbcjdcdapaa
open Go.RowKit Vo

theorem blockP_eq (S : List Nat) (q : Nat) : (fun j => Value.bool (!wnL S (2^q - 1 - j))) = fun j => Value.bool (blockP S q j) := rfl

set_option maxRecDepth 20000 in
set_option maxHeartbeats 6000000 in
theorem sDualGame_any (m : Int) (A : Option Addr) (n cap : Nat) (L : List (List Int)) (w : World) (hl : n ≤ 1048576) (hcap : n ≤ cap) (hk : ListsR w A n L) :
    Calls Try.prog 34 #[.agg #[.int .i64 m, .slice A n cap]] w fun e w' => AnsG RSS0 (okM (goodG m L) m) (okG (goodG m L) (dualS m L)) (goodG m L) w w' e := by
  have hb0 : Below w.heap.size w ((w.alloc (.cells #[.int .i64 m, .slice A n cap] 28)).alloc (.cells #[.int .i64 0, .slice none 0 0] 28)) := (below1 w _).alloc (by simp) _
  have HK := Lib.hid (hk.now hb0)
  have hx := (BoxT.new 28 w (.int .i64 m) (.slice A n cap)).alloc (.cells #[.int .i64 0, .slice none 0 0] 28)
  have hr := BoxT.new 28 (w.alloc (.cells #[.int .i64 m, .slice A n cap] 28)) (.int .i64 0) (.slice none 0 0)
  simp only [World.size_alloc] at hr
  clear hk
  have KF := Lib.hid (show ∀ W, BoxT 28 W (w.heap.size + 1) (.int .i64 0) (.slice none 0 0) → (W.frozen? ⟨w.heap.size + 1, 0, none⟩ = false ∧ W.frozen? ⟨w.heap.size + 1, 1, none⟩ = false) from fun W h => by unfold BoxT at h; exact ⟨by simp [World.frozen?, h], by simp [World.frozen?, h]⟩)
  obtain ⟨c0, c1⟩ := hx.cells
  cases hg : goodG m L with
  | true =>
    obtain ⟨h1, h9, _, hr', _⟩ := goodG_parts hg
    obtain ⟨q, rfl⟩ : ∃ q : Nat, m = q := ⟨m.toNat, by omega⟩
    rw [Int.toNat_natCast] at hr'
    have hq9 : q ≤ 9 := by omega
    have hq10 : q < 10 := by omega
    have h512 := pow_lt hq9
    have HGB := Lib.hid hg
    have HMM := Lib.hid (okM_yes (ok := true) (m := (q : Int)) rfl)
    have HSS := Lib.hid (show okG true (dualS (q : Int) L) = setsL ((inOrder q).filter (leastP (blockP (setsN L) q) q)) from by rw [okG_yes rfl]; unfold dualS; rw [Int.toNat_natCast])
    have HGA := Lib.hid (fun W h => gmAll_any q A n cap L W hq9 hl hr' h)
    have HGD := Lib.hid (fun g W h => gmDual_any (wnL (setsN L)) (2^q) g (2^q) W (by omega) h)
    have HGO := Lib.hid (fun g W h => gmOf_any (blockP (setsN L) q) q g (2^q) W hq10 h)
    rw [blockP_eq] at HGD
    obtain ⟨P, hP⟩ : ∃ P, P = 2 ^ q := ⟨_, rfl⟩
    rw [← hP] at HGA HGD HGO
    clear hP
    clear hg hr'
    go_enter Try.func34, Try.ntmps34
    go_wp2_with fail
    refine (gmGood_any q A n cap L _ hl hcap HK.out).mono ?_
    rintro e w1 ⟨rfl, hb1⟩
    rw [HGB.out]
    have g1 := bfrom hb0 hb1
    have hx1 := hx.now hb1
    have hr1 := hr.now hb1
    have HK1 := Lib.hid (HK.out.now hb1).lists
    have hzr : w.heap.size + 1 < w1.heap.size := hr1.lt
    have K := Lib.hid (show ∀ W, Below w1.heap.size w1 W → (W.cell? ⟨w.heap.size, 0, none⟩ = some (.int .i64 q) ∧ W.cell? ⟨w.heap.size, 1, none⟩ = some (.slice A n cap) ∧ W.cell? ⟨w.heap.size + 1, 0, none⟩ = some (.int .i64 0) ∧ W.cell? ⟨w.heap.size + 1, 1, none⟩ = some (.slice none 0 0) ∧ W.frozen? ⟨w.heap.size + 1, 0, none⟩ = false ∧ W.frozen? ⟨w.heap.size + 1, 1, none⟩ = false) from fun W hb => ⟨(hx1.now hb).cells.1, (hx1.now hb).cells.2, (hr1.now hb).cells.1, (hr1.now hb).cells.2, (KF.out _ (hr1.now hb)).1, (KF.out _ (hr1.now hb)).2⟩)
    clear c0 c1 hx hr hb0 hb1
    obtain ⟨c0, c1, c2, c3, c4, c5⟩ := K.out _ (Below.refl _ _)
    clear hx1 hr1 HK
    go_wp2_with fail
    go_region_held3 (fun w' => w'.cell? ⟨w.heap.size, 0, none⟩ = some (.int .i64 q) ∧ w'.cell? ⟨w.heap.size, 1, none⟩ = some (.slice A n cap) ∧ (w'.cell? ⟨w.heap.size + 1, 0, none⟩).isSome = true ∧ (w'.cell? ⟨w.heap.size + 1, 1, none⟩).isSome = true ∧ w'.frozen? ⟨w.heap.size + 1, 0, none⟩ = false ∧ w'.frozen? ⟨w.heap.size + 1, 1, none⟩ = false)
      (first | exact ⟨c0, c1, by rw [c2]; rfl, by rw [c3]; rfl, c4, c5⟩ | exact ⟨a0, a1, by rw [a2]; rfl, by rw [a3]; rfl, a4, a5⟩ | exact ⟨b0, b1, by rw [b2]; rfl, by rw [b3]; rfl, b4, b5⟩ | exact ⟨d0, d1, by rw [d2]; rfl, by rw [d3]; rfl, d4, d5⟩ | ((try dsimp only); (repeat' apply And.intro); all_goals (first | exact isSome_set (isSome_set (Option.isSome_iff_exists.2 ⟨_, d2⟩)) | exact isSome_set (isSome_set (Option.isSome_iff_exists.2 ⟨_, d3⟩)) | go_keep)) | go_keep)
      (first
        | (go_at_call 72; refine (HGA.out _ (HK1.out.now (Below.refl _ _).drew)).mono ?_; rintro e wA ⟨rfl, hoA, hbA⟩; have HOA := Lib.hid hoA; clear hoA; have gA := bfrom (Below.refl _ w1).drew hbA; obtain ⟨a0, a1, a2, a3, a4, a5⟩ := K.out _ gA)
        | (go_at_call 76; refine (HGD.out _ _ HOA.out).mono ?_; rintro e wB ⟨rfl, hoB, hbB⟩; have HOB := Lib.hid hoB; clear hoB; have gB := bfrom gA hbB; obtain ⟨b0, b1, b2, b3, b4, b5⟩ := K.out _ gB)
        | (go_at_call 58; refine (HGO.out _ _ HOB.out).mono ?_; rw [← HSS.out]; rintro e wC ⟨BC, cC, rfl, hlC, hbC⟩; have HLC := Lib.hid hlC; clear hlC; have gC := bfrom gB hbC; obtain ⟨d0, d1, d2, d3, d4, d5⟩ := K.out _ gC))
    have hzA := gA.size
    have hzB := gB.size
    have hzC := gC.size
    clear a0 a1 a2 a3 a4 a5 b0 b1 b2 b3 b4 b5 c0 c1 c2 c3 c4 c5 d0 d1 d4 d5
    obtain ⟨k, hk⟩ : ∃ k, k = (okG true (dualS (q : Int) L)).length := ⟨_, rfl⟩
    rw [← hk] at HLC ⊢
    have HKL := Lib.hid hk
    clear hk
    go_wp2
    refine bodyPost_ret (v := .tuple #[.agg #[.int .i64 q, .slice BC k cC], .bool true]) (by simp [results, Try.results34, go_sem, d2, d3]) rfl ?_
    rw [HMM.out]
    refine ⟨BC, cC, by first | rfl | rw [HKL.out], ?_, ?_⟩
    · try rw [← HKL.out]
      exact Lies.rss0_wide (Lies.far (Lies.far HLC.out (by first | omega | (simp; omega)) _) (by first | omega | (simp; omega)) _) (by omega) (by first | exact Nat.le_refl _ | simp) (by first | exact Nat.le_refl _ | simp)
    · exact ((bfrom g1 gC).setCell (by simp) _).setCell (by simp) _
  | false =>
    have HGB := Lib.hid hg
    have HMM := Lib.hid (okM_no (ok := false) (m := m) rfl)
    have HSS := Lib.hid (okG_no (ok := false) (S := dualS m L) rfl)
    clear hg
    go_enter Try.func34, Try.ntmps34
    go_wp2_with fail
    refine (gmGood_any m A n cap L _ hl hcap HK.out).mono ?_
    rintro e w1 ⟨rfl, hb1⟩
    rw [HGB.out]
    have g1 := bfrom hb0 hb1
    have hr1 := hr.now hb1
    obtain ⟨f0, f1⟩ := KF.out _ hr1
    obtain ⟨c2, c3⟩ := hr1.cells
    go_wp2
    refine bodyPost_ret (v := .tuple #[.agg #[.int .i64 0, .slice none 0 0], .bool false]) (by simp [results, Try.results34, go_sem, c2, c3]) rfl ?_
    rw [HMM.out, HSS.out]
    exact AnsG.none_ RSS0.none_ ((g1.setCell (by simp) _).setCell (by simp) _)
end Go.Proofs.Ytipplbcjdcdapaa
