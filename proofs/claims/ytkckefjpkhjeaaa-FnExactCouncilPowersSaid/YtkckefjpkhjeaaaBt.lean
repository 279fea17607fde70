/- Contracts of councils' powers, and of the model's games of councils. -/
import Derived.Test.YtkckefjpkhjeaaaBr
import Derived.Test.YtkckefjpkhjeaaaBs
import Derived.Test.YtkckefjpkhjeaaaN4
import Derived.Test.YtkckefjpkhjeaaaN2
import Derived.Deep.RegionHeld3
import Derived.Outline
namespace Go.Proofs.Ytkckefjpkhjeaaa
open Go.RowKit Vo

theorem cellf2t {w : World} {p q r : Addr} {v u1 u2 : Value} (h : w.cell? p = some v) (h1 : p.block ≠ q.block) (h2 : p.block ≠ r.block) : ((w.setCell q u1).setCell r u2).cell? p = some v := by
  rw [World.cell?_of_block (w := w) ((Below.heap_setCell _ r u2 p.block h2).trans (Below.heap_setCell _ q u1 p.block h1))]
  exact h

set_option maxRecDepth 20000 in
set_option maxHeartbeats 4000000 in
theorem sCouncilGame_ans (q : Int) (A : Option Addr) (n cap : Nat) (ws : List Int) (A2 : Option Addr) (k cp : Nat) (C : List (Int × List Int)) (w : World) (hm : n ≤ 9223372036854775807) (hk : Known w A n ws) (hm2 : k ≤ 9223372036854775807) (hk2 : KCS w A2 k C) (hT : csum C k ≤ 1048576) :
    Calls Try.prog 48 #[.agg #[.int .i64 q, .slice A n cap], .slice A2 k cp] w fun e w' => AnsG RSS0 (okM (cnB q ws n C) (csum C n : Nat)) (okG (cnB q ws n C) ((inOrder (csum C n)).filter (leastP (councilP q ws n C) (csum C n)))) (cnB q ws n C) w w' e := by
  have hb0 : Below w.heap.size w ((w.alloc (.cells #[.int .i64 q, .slice A n cap] 47)).alloc (.cells #[.int .i64 0, .slice none 0 0] 37)) := (below1 w _).alloc (by simp) _
  have hx := (Box.new w (.int .i64 q) (.slice A n cap)).alloc (.cells #[.int .i64 0, .slice none 0 0] 37)
  have hr := BoxT.new 37 (w.alloc (.cells #[.int .i64 q, .slice A n cap] 47)) (.int .i64 0) (.slice none 0 0)
  simp only [World.size_alloc] at hr
  have KF := Lib.hid (show ∀ W, BoxT 37 W (w.heap.size + 1) (.int .i64 0) (.slice none 0 0) → (W.frozen? ⟨w.heap.size + 1, 0, none⟩ = false ∧ W.frozen? ⟨w.heap.size + 1, 1, none⟩ = false) from fun W h => by unfold BoxT at h; exact ⟨by simp [World.frozen?, h], by simp [World.frozen?, h]⟩)
  obtain ⟨c0, c1⟩ := hx.cells
  have HAC := Lib.hid (sAreCouncil_any q A n cap ws A2 k cp C _ hm (hk.now hb0) hm2 (hk2.now hb0) hT)
  cases hc : cnB q ws n C with
  | true =>
    obtain ⟨hkn, hco⟩ := council_of hk hk2 hc
    subst hkn
    have h9 : csum C k < 10 := by have := hco.few; omega
    have HC := Lib.hid hc
    have HCI := Lib.hid (cmI_yes (C := C) (n := k) (allK_iff.2 fun i hi => decide_eq_true (hco.each i hi)))
    have HCM := Lib.hid (fun W (hb : Below w.heap.size w W) => chMembers_any A2 k cp C W hm hT (hk2.now hb))
    rw [HCI.out] at HCM
    have HCC := Lib.hid (fun W (hb : Below w.heap.size w W) => chCouncil_any q A k cap ws A2 cp C W hm (hco.now hb))
    simp only [TableAt] at HCC
    have HM := Lib.hid (okM_yes (m := ((csum C k : Nat) : Int)) (show true = true from rfl))
    have HG := Lib.hid (okG_yes (S := (inOrder (csum C k)).filter (leastP (councilP q ws k C) (csum C k))) (show true = true from rfl))
    rw [HM.out, HG.out]
    clear HM HG hk hk2 hc hco HCI hT
    obtain ⟨m0, hm0⟩ : ∃ z, z = csum C k := ⟨_, rfl⟩
    rw [← hm0] at h9 ⊢
    simp only [← hm0] at HCM HCC
    clear hm0
    have HV := Lib.hid (fun g2 cap2 W => gmOf_any (councilP q ws k C) m0 g2 cap2 W h9)
    obtain ⟨L, hL⟩ : ∃ L, L = setsL ((inOrder m0).filter (leastP (councilP q ws k C) m0)) := ⟨_, rfl⟩
    simp only [← hL] at HV
    rw [← hL]
    clear hL
    obtain ⟨N, hN⟩ : ∃ z, z = 2 ^ m0 := ⟨_, rfl⟩
    simp only [← hN] at HV HCC
    clear hN
    obtain ⟨ln, hln⟩ : ∃ z, z = L.length := ⟨_, rfl⟩
    simp only [← hln] at HV
    have HLN := Lib.hid hln
    clear hln
    go_enter Try.func48, Try.ntmps48
    go_wp2_with fail
    refine HAC.out.mono ?_
    rintro e w1 ⟨rfl, hb1⟩
    rw [HC.out]
    have g1 := bfrom hb0 hb1
    have hx1 := hx.now hb1
    have hr1 := hr.now hb1
    have hzr := hr1.lt
    clear hx hr c0 c1 hb0 hb1
    have K := Lib.hid (show ∀ W, Below w1.heap.size w1 W → (W.cell? ⟨w.heap.size, 0, none⟩ = some (.int .i64 q) ∧ W.cell? ⟨w.heap.size, 1, none⟩ = some (.slice A k cap) ∧ W.cell? ⟨w.heap.size + 1, 0, none⟩ = some (.int .i64 0) ∧ W.cell? ⟨w.heap.size + 1, 1, none⟩ = some (.slice none 0 0) ∧ W.frozen? ⟨w.heap.size + 1, 0, none⟩ = false ∧ W.frozen? ⟨w.heap.size + 1, 1, none⟩ = false) from fun W hb => ⟨(hx1.now hb).cells.1, (hx1.now hb).cells.2, (hr1.now hb).cells.1, (hr1.now hb).cells.2, (KF.out _ (hr1.now hb)).1, (KF.out _ (hr1.now hb)).2⟩)
    obtain ⟨c0, c1, c2, c3, c4, c5⟩ := K.out _ (Below.refl _ _)
    clear hx1 hr1
    go_wp2_with fail
    go_region_held3 (fun w' => w'.cell? ⟨w.heap.size, 0, none⟩ = some (.int .i64 q) ∧ w'.cell? ⟨w.heap.size, 1, none⟩ = some (.slice A k cap) ∧ (w'.cell? ⟨w.heap.size + 1, 0, none⟩).isSome = true ∧ (w'.cell? ⟨w.heap.size + 1, 1, none⟩).isSome = true ∧ w'.frozen? ⟨w.heap.size + 1, 0, none⟩ = false ∧ w'.frozen? ⟨w.heap.size + 1, 1, none⟩ = false)
      (first | exact ⟨c0, c1, by rw [c2]; rfl, by rw [c3]; rfl, c4, c5⟩ | exact ⟨m1, m2, by rw [m3]; rfl, by rw [m4]; rfl, m5, m6⟩ | exact ⟨a0, a1, by rw [a2]; rfl, by rw [a3]; rfl, a4, a5⟩ | exact ⟨d0, d1, by rw [d2]; rfl, by rw [d3]; rfl, d4, d5⟩ | ((try dsimp only); (repeat' apply And.intro); all_goals (first | exact isSome_set (isSome_set (Option.isSome_iff_exists.2 ⟨_, d2⟩)) | exact isSome_set (isSome_set (Option.isSome_iff_exists.2 ⟨_, d3⟩)) | exact cellf2t d0 (by simp) (by simp) | exact cellf2t d1 (by simp) (by simp) | go_keep)) | go_keep)
      (first
        | (go_at_call 94; refine (HCM.out _ (bfrom g1 (Below.refl _ _).drew)).mono ?_; rintro e wM ⟨rfl, hbM⟩; have gM := bfrom (Below.refl _ w1).drew hbM; obtain ⟨m1, m2, m3, m4, m5, m6⟩ := K.out _ gM)
        | (go_at_call 96; refine (HCC.out _ (bfrom g1 gM)).mono ?_; rintro e wA ⟨g2, cap2, rfl, hg2, hoA, hbA⟩; have HOA := Lib.hid hoA; clear hoA; have gA := bfrom gM hbA; obtain ⟨a0, a1, a2, a3, a4, a5⟩ := K.out _ gA)
        | (go_at_call 71; refine (HV.out g2 cap2 _ HOA.out).mono ?_; rintro e wC ⟨BC, cC, rfl, hlC, hbC⟩; have HLC := Lib.hid hlC; clear hlC; have gC := bfrom gA hbC; obtain ⟨d0, d1, d2, d3, d4, d5⟩ := K.out _ gC)
        | fail)
    have hzA := gA.size
    have hzC := gC.size
    clear a0 a1 a2 a3 a4 a5 c0 c1 c2 c3 c4 c5 d0 d1 d4 d5 m1 m2 m3 m4 m5 m6
    go_wp2
    refine bodyPost_ret (v := .tuple #[.agg #[.int .i64 m0, .slice BC ln cC], .bool true]) (by simp [results, Try.results48, go_sem, d2, d3]) rfl ?_
    refine ⟨BC, cC, by first | rfl | rw [HLN.out], ?_, ?_⟩
    · try rw [← HLN.out]
      exact Lies.rss0_wide (Lies.far (Lies.far HLC.out (by first | omega | (simp; omega)) _) (by first | omega | (simp; omega)) _) (by omega) (by first | exact Nat.le_refl _ | simp) (by first | exact Nat.le_refl _ | simp)
    · exact ((bfrom g1 gC).setCell (by simp) _).setCell (by simp) _
  | false =>
    have HC := Lib.hid hc
    have HM := Lib.hid (okM_no (m := ((csum C n : Nat) : Int)) (show false = false from rfl))
    have HG := Lib.hid (okG_no (S := (inOrder (csum C n)).filter (leastP (councilP q ws n C) (csum C n))) (show false = false from rfl))
    rw [HM.out, HG.out]
    clear HM HG hk hk2 hc
    go_enter Try.func48, Try.ntmps48
    go_wp2_with fail
    refine HAC.out.mono ?_
    rintro e w1 ⟨rfl, hb1⟩
    rw [HC.out]
    have g1 := bfrom hb0 hb1
    have hr1 := hr.now hb1
    obtain ⟨f0, f1⟩ := KF.out _ hr1
    obtain ⟨p0, p1⟩ := hr1.cells
    go_wp2
    refine bodyPost_ret (v := .tuple #[.agg #[.int .i64 0, .slice none 0 0], .bool false]) (by simp [results, Try.results48, go_sem, p0, p1]) rfl ?_
    exact AnsG.none_ RSS0.none_ ((g1.setCell (by simp) _).setCell (by simp) _)

theorem shl_powk (k : Nat) (hk : k < 10) : IntKind.i64.wrap ((2 : Int) ^ k) = ((2 ^ k : Nat) : Int) := by
  have h1 : (2:Nat)^k ≤ 2^10 := Nat.pow_le_pow_right (by omega) (by omega)
  rw [show ((2 : Int) ^ k) = ((2 ^ k : Nat) : Int) from by simp]
  generalize 2 ^ k = x at *
  exact IntWalk.i64_in _ (by omega)

/-- The powers of a council's members. -/
def cpwN (q : Int) (ws : List Int) (n : Nat) (C : List (Int × List Int)) (k : Nat) : Nat := cnt (swP (councilP q ws n C) k) (2 ^ csum C n)
def cpwL (q : Int) (ws : List Int) (n : Nat) (C : List (Int × List Int)) : List (Int × Int) := if cnB q ws n C then shL (cpwN q ws n C) (2 ^ (csum C n - 1)) (csum C n) else []
theorem cpwL_yes {q ws n C} (h : cnB q ws n C = true) : cpwL q ws n C = shL (cpwN q ws n C) (2 ^ (csum C n - 1)) (csum C n) := if_pos h
theorem cpwL_no {q ws n C} (h : cnB q ws n C = false) : cpwL q ws n C = [] := if_neg (by rw [h]; simp)
theorem cpwL_len (q ws n C) : 2 * (cpwL q ws n C).length ≤ 1048576 := by
  cases h : cnB q ws n C with
  | false => rw [cpwL_no h]; simp
  | true =>
    rw [cpwL_yes h, shL_len]
    have := (cnB_parts h).2.2.1
    omega

set_option maxRecDepth 20000 in
set_option maxHeartbeats 4000000 in
theorem iCouncilPowers_ans (q : Int) (A : Option Addr) (n cap : Nat) (ws : List Int) (A2 : Option Addr) (k cp : Nat) (C : List (Int × List Int)) (w : World) (hm : n ≤ 9223372036854775807) (hk : Known w A n ws) (hm2 : k ≤ 9223372036854775807) (hk2 : KCS w A2 k C) (_hT : csum C k ≤ 1048576) :
    Calls Try.prog 56 #[.agg #[.int .i64 q, .slice A n cap], .slice A2 k cp] w fun e w' => Ans (RSh (cpwL q ws n C)) (cnB q ws n C) w w' e := by
  have hb0 := below1 w (.cells #[.int .i64 q, .slice A n cap] 47)
  have hx := Box.new w (.int .i64 q) (.slice A n cap)
  obtain ⟨c0, c1⟩ := hx.cells
  cases hc : cnB q ws n C with
  | true =>
    obtain ⟨hkn, hco⟩ := council_of hk hk2 hc
    subst hkn
    have hT9 := hco.few
    have hT1 := csum_pos hco.good.lo hco.each
    have HRC := Lib.hid (readCouncil_yes q A k cap ws A2 k cp C _ hm (hk.now hb0) hm2 (hk2.now hb0) hc)
    have HCA := Lib.hid (fun W (hb : Below w.heap.size w W) => cAssembly_any q A k cap ws A2 cp C W hm (hco.now hb))
    have HL := Lib.hid (cpwL_yes hc)
    have HF := Lib.hid (show ∀ j, j < csum C k → cpwN q ws k C j < 4611686018427387904 from fun j _ => by
      have := cnt_le (swP (councilP q ws k C) j) (2 ^ csum C k)
      have := pow_lt (n := csum C k) hT9
      unfold cpwN; omega)
    have HN := Lib.hid (show ∀ j, cnt (swP (councilP q ws k C) j) (2 ^ csum C k) = cpwN q ws k C j from fun _ => rfl)
    rw [HL.out]
    clear hk hk2 hc hco HL
    obtain ⟨T, hTe⟩ : ∃ z, z = csum C k := ⟨_, rfl⟩
    rw [← hTe] at hT9 hT1 ⊢
    simp only [← hTe] at HCA HF HN
    clear hTe
    obtain ⟨f, hf⟩ : ∃ z, z = cpwN q ws k C := ⟨_, rfl⟩
    rw [← hf]
    simp only [← hf] at HF HN
    have HSW := Lib.hid (fun g b w0 W h => aSwings_any (councilP q ws k C) T g b w0 W (by omega) h)
    have HPF := Lib.hid (show perL (fun j => cnt (swP (councilP q ws k C) j) (2 ^ T)) T = perL f T from by
      unfold perL
      exact List.map_congr_left fun j _ => congrArg (fun z : Nat => (z : Int)) (HN.out j))
    rw [HPF.out] at HSW
    simp only [IntsAtR, perL_len] at HSW
    clear hf
    have hsh := shl_pow (T - 1) (by omega)
    have hsh2 := shl_powk (T - 1) (by omega)
    have hcast : ((T : Int) - 1) = ((T - 1 : Nat) : Int) := by omega
    have hD0 := Nat.two_pow_pos (T - 1)
    have hD1 : 2 ^ (T - 1) ≤ 512 := pow_lt (n := T - 1) (by omega)
    have HPW := Lib.hid (fun B2 c2 W base h => partsOfWhole_any f T (2 ^ (T - 1)) base c2 B2 W (by omega) hT1 HF.out hD0 (by omega) h)
    obtain ⟨D, hD⟩ : ∃ z, z = 2 ^ (T - 1) := ⟨_, rfl⟩
    rw [← hD] at hD0 hD1 hsh hsh2 ⊢
    have hwr : IntKind.i64.wrap ((T - 1 : Nat) : Int) = ((T - 1 : Nat) : Int) := IntWalk.i64_in _ (by omega)
    simp only [← hD] at HPW
    clear hD
    have HSL := Lib.hid (shL_len f D T)
    go_enter Try.func56, Try.ntmps56
    go_wp2_with fail
    refine HRC.out.mono ?_
    rintro e w1 ⟨rfl, hb1⟩
    have g1 := bfrom hb0 hb1
    have b2 := below1 w1 (.cells #[.int .i64 q, .slice A k cap, .slice A2 k cp] 103)
    have hy := CBox.new q A k cap A2 k cp w1
    obtain ⟨d0, d1, d2⟩ := hy.cells
    have g2 := bfrom g1 b2
    clear hx c0 c1 hy
    go_wp2_with (first
      | (go_at_call 98; refine (HCA.out _ g2).mono ?_; rintro e w3 ⟨g, b, w0, rfl, hasm, hw0, hb3⟩; have HA := Lib.hid hasm; have HB3 := Lib.hid (bfrom g2 hb3); have hbb := hasm.bw; clear hasm)
      | fail)
    have KA := Lib.hid (show ∀ W, Asm (councilP q ws k C) T g b w0 W → W.cell? ⟨g, 0, none⟩ = some (.int .i64 T) from fun W h => by
      obtain ⟨_, _, _, hbx, _⟩ := h.box
      exact hbx.cells.1)
    have k0 := KA.out _ HA.out
    simp only [World.size_alloc] at hw0
    have hwb : w.heap.size ≤ b := by have := g1.size; omega
    have hz3 := HB3.out.size
    go_region_held3 (fun w' => w'.cell? ⟨g, 0, none⟩ = some (.int .i64 T))
      (first | exact k0 | exact l0 | exact m0 | go_keep)
      (first
        | (go_at_call 93; refine (HSW.out g b w0 _ (HA.out.now (Below.refl _ _).drew)).mono ?_; rintro e w4 ⟨B4, c4, rfl, hown4, hasm4, hg4⟩; have HO4 := Lib.hid hown4; have HB4 := Lib.hid (HB3.out.grown (gcons (Below.refl _ w3).drew hg4) hz3 (fun z hz => by cases hz; omega)); have l0 := KA.out _ hasm4; have HA4 := Lib.hid hasm4; clear hown4 hasm4 hg4)
        | (go_at_call 104; refine (HPW.out B4 c4 _ _ HO4.out).mono ?_; rintro e w5 ⟨B5, c5, rfl, hown5, hb5⟩; have HO5 := Lib.hid hown5; have HB5 := Lib.hid hb5; have m0 := KA.out _ (HA4.out.now hb5); clear hown5 hb5)
        | fail)
    all_goals
      have hz4 := HB4.out.size
      go_wp2
      go_ret2
      refine ShAt.ans ⟨B5, c5, by rw [HSL.out]; rfl, by rw [HSL.out]; exact owns_less HO5.out hz4, bfrom HB4.out HB5.out⟩
  | false =>
    have HRC := Lib.hid (readCouncil_no q A n cap ws A2 k cp C _ hm (hk.now hb0) hm2 (hk2.now hb0) hc)
    have HL := Lib.hid (cpwL_no hc)
    rw [HL.out]
    clear hk hk2 hc
    go_enter Try.func56, Try.ntmps56
    go_wp2_with fail
    refine HRC.out.mono ?_
    rintro e w1 ⟨rfl, hb1⟩
    have g2 := bfrom (bfrom hb0 hb1) (below1 w1 (.cells #[.int .i64 0, .slice none 0 0, .slice none 0 0] 103))
    go_wp2
    go_ret2
    exact (ShAt.none_ g2).ans
end Go.Proofs.Ytkckefjpkhjeaaa
