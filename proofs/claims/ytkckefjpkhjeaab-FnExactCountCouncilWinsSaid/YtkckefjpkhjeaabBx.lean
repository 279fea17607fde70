/- Contracts of CountCouncilWins, the program's and the model's. -/
import Derived.Test.YtkckefjpkhjeaabBr
import Derived.Test.YtkckefjpkhjeaabBs
import Derived.Outline
namespace Go.Proofs.Ytkckefjpkhjeaab
open Go.RowKit Vo

def ccN (q : Int) (ws : List Int) (n : Nat) (C : List (Int × List Int)) : Nat := if cnB q ws n C then cnt (councilP q ws n C) (2 ^ csum C n) else 0
theorem ccN_yes {q ws n C} (h : cnB q ws n C = true) : ccN q ws n C = cnt (councilP q ws n C) (2 ^ csum C n) := if_pos h
theorem ccN_no {q ws n C} (h : cnB q ws n C = false) : ccN q ws n C = 0 := if_neg (by rw [h]; simp)

set_option maxRecDepth 20000 in
set_option maxHeartbeats 4000000 in
theorem iCountCouncilWins_any (q : Int) (A : Option Addr) (n cap : Nat) (ws : List Int) (A2 : Option Addr) (k cp : Nat) (C : List (Int × List Int)) (w : World) (hm : n ≤ 9223372036854775807) (hk : Known w A n ws) (hm2 : k ≤ 9223372036854775807) (hk2 : KCS w A2 k C) (_hT : csum C k ≤ 1048576) :
    Calls Try.prog 23 #[.agg #[.int .i64 q, .slice A n cap], .slice A2 k cp] w fun e w' => e = .returned (.tuple #[.int .i64 (ccN q ws n C : Nat), .bool (cnB q ws n C)]) ∧ Below w.heap.size w w' := by
  have hb0 := below1 w (.cells #[.int .i64 q, .slice A n cap] 43)
  have hx := Box.new w (.int .i64 q) (.slice A n cap)
  obtain ⟨c0, c1⟩ := hx.cells
  cases hc : cnB q ws n C with
  | true =>
    obtain ⟨hkn, hco⟩ := council_of hk hk2 hc
    subst hkn
    have hT9 := hco.few
    have HRC := Lib.hid (readCouncil_yes q A k cap ws A2 k cp C _ hm (hk.now hb0) hm2 (hk2.now hb0) hc)
    have HCA := Lib.hid (fun W (hb : Below w.heap.size w W) => cAssembly_any q A k cap ws A2 cp C W hm (hco.now hb))
    have HL := Lib.hid (ccN_yes hc)
    rw [HL.out]
    clear hk hk2 hc hco HL
    obtain ⟨T, hTe⟩ : ∃ z, z = csum C k := ⟨_, rfl⟩
    rw [← hTe] at hT9 ⊢
    simp only [← hTe] at HCA
    clear hTe
    have HCS := Lib.hid (fun g b B w0 W (hg : g < B) (hb : b < B) hI => countSetsR_any (councilP q ws k C) _ _ _ T B (some b) _ W (by omega) (awins_asks (councilP q ws k C) T g b B w0 (by omega) hg hb) hI)
    obtain ⟨N, hN⟩ : ∃ z, z = cnt (councilP q ws k C) (2 ^ T) := ⟨_, rfl⟩
    simp only [← hN] at HCS
    rw [← hN]
    clear hN
    go_enter Try.func23, Try.ntmps23
    go_wp2_with fail
    refine HRC.out.mono ?_
    rintro e w1 ⟨rfl, hb1⟩
    have g1 := bfrom hb0 hb1
    have b2 := below1 w1 (.cells #[.int .i64 q, .slice A k cap, .slice A2 k cp] 77)
    have hy := CBox.new q A k cap A2 k cp w1
    obtain ⟨d0, d1, d2⟩ := hy.cells
    have g2 := bfrom g1 b2
    clear hx c0 c1 hy
    go_wp2_with (first
      | (go_at_call 55; refine (HCA.out _ g2).mono ?_; rintro e w3 ⟨g, b, w0, rfl, hasm, hw0, hb3⟩; have HA := Lib.hid hasm; have HB3 := Lib.hid (bfrom g2 hb3); have hbb := hasm.bw; have hgl := hasm.glt; have hbl := hasm.memo.lt; obtain ⟨_, _, _, hbx, _⟩ := hasm.box; have k0 := hbx.cells.1; clear hbx hasm)
      | (go_at_call 56; refine (HCS.out g b w3.heap.size w0 _ hgl hbl ⟨HA.out, Nat.le_refl _⟩).mono ?_; rintro e w4 ⟨rfl, _, hg4⟩)
      | fail)
    simp only [World.size_alloc] at hw0
    have hwb : w.heap.size ≤ b := by have := g1.size; omega
    have hz3 := HB3.out.size
    go_ret2
    exact ⟨rfl, HB3.out.grown hg4 hz3 (fun z hz => by cases hz; omega)⟩
  | false =>
    have HRC := Lib.hid (readCouncil_no q A n cap ws A2 k cp C _ hm (hk.now hb0) hm2 (hk2.now hb0) hc)
    have HL := Lib.hid (ccN_no hc)
    rw [HL.out]
    clear hk hk2 hc
    go_enter Try.func23, Try.ntmps23
    go_wp2_with fail
    refine HRC.out.mono ?_
    rintro e w1 ⟨rfl, hb1⟩
    have g2 := bfrom (bfrom hb0 hb1) (below1 w1 (.cells #[.int .i64 0, .slice none 0 0, .slice none 0 0] 77))
    go_wp2
    go_ret2
    exact ⟨rfl, g2⟩

set_option maxRecDepth 20000 in
set_option maxHeartbeats 4000000 in
theorem sCountCouncilWins_any (q : Int) (A : Option Addr) (n cap : Nat) (ws : List Int) (A2 : Option Addr) (k cp : Nat) (C : List (Int × List Int)) (w : World) (hm : n ≤ 9223372036854775807) (hk : Known w A n ws) (hm2 : k ≤ 9223372036854775807) (hk2 : KCS w A2 k C) (hT : csum C k ≤ 1048576) :
    Calls Try.prog 21 #[.agg #[.int .i64 q, .slice A n cap], .slice A2 k cp] w fun e w' => e = .returned (.tuple #[.int .i64 (ccN q ws n C : Nat), .bool (cnB q ws n C)]) ∧ Below w.heap.size w w' := by
  have hb0 := below1 w (.cells #[.int .i64 q, .slice A n cap] 43)
  have hx := Box.new w (.int .i64 q) (.slice A n cap)
  obtain ⟨c0, c1⟩ := hx.cells
  have HAC := Lib.hid (sAreCouncil_any q A n cap ws A2 k cp C _ hm (hk.now hb0) hm2 (hk2.now hb0) hT)
  cases hc : cnB q ws n C with
  | true =>
    have HC := Lib.hid hc
    obtain ⟨hkn, hco⟩ := council_of hk hk2 hc
    subst hkn
    have hT9 := hco.few
    have h512 := pow_lt (n := csum C k) hT9
    have HL := Lib.hid (ccN_yes hc)
    have HCC := Lib.hid (fun W (hb : Below w.heap.size w W) => chCouncil_any q A k cap ws A2 cp C W hm (hco.now hb))
    simp only [TableAt] at HCC
    rw [HL.out]
    clear hk hk2 hc hco HL
    obtain ⟨N, hN⟩ : ∃ z, z = 2 ^ csum C k := ⟨_, rfl⟩
    rw [← hN] at h512 ⊢
    simp only [← hN] at HCC
    clear hN
    obtain ⟨p, hp⟩ : ∃ z, z = councilP q ws k C := ⟨_, rfl⟩
    rw [← hp]
    simp only [← hp] at HCC
    clear hp
    go_enter Try.func21, Try.ntmps21
    go_wp2_with fail
    refine HAC.out.mono ?_
    rintro e w1 ⟨rfl, hb1⟩
    rw [HC.out]
    have g1 := bfrom hb0 hb1
    obtain ⟨d0, d1⟩ := (hx.now hb1).cells
    clear hx c0 c1
    go_wp2_with fail
    refine (HCC.out _ g1).mono ?_
    rintro e w2 ⟨g, cap2, rfl, hg, hown, hb2⟩
    have HO := Lib.hid hown
    have hgl := hown.lt
    clear hown d0 d1
    go_wp2_with fail
    go_loop [6, 8, 17] (fun c _ i => ∃ t : Nat, t ≤ N ∧ i = .int .i64 t ∧ c = .int .i64 (cnt p t : Nat)) (fun _ _ i => N - (intOf i).toNat)
    case atStart => exact ⟨0, Nat.zero_le _, rfl, rfl⟩
    case round =>
      obtain ⟨t, ht, rfl, rfl⟩ := hrel
      have hcl := cnt_le p t
      by_cases hlt : t < N
      · have hcell := HO.out.cell hlt
        have HS := Lib.hid (show cnt p (t+1) = cnt p t + if p t then 1 else 0 from rfl)
        generalize cnt p t = c at *
        cases hwin : p t
        all_goals
          rw [hwin] at hcell HS
          clear hwin
          go_wp2
          go_round
          case rel => exact ⟨t + 1, by omega, by go_num, by rw [HS.out]; simp⟩
          case measure => simp [intOf]; omega
      · obtain rfl : t = N := by omega
        go_wp2
        go_ret2
        exact ⟨rfl, bfrom g1 hb2⟩
  | false =>
    have HC := Lib.hid hc
    have HL := Lib.hid (ccN_no hc)
    rw [HL.out]
    clear hk hk2 hc
    go_enter Try.func21, Try.ntmps21
    go_wp2_with fail
    refine HAC.out.mono ?_
    rintro e w1 ⟨rfl, hb1⟩
    rw [HC.out]
    go_wp2
    go_ret2
    exact ⟨rfl, bfrom hb0 hb1⟩
