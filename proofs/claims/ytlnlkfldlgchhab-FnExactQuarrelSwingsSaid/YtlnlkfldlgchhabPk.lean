/- Contracts of the model's quarrels. -/
import Derived.Test.YtlnlkfldlgchhabPj
namespace Go.Proofs.Ytlnlkfldlgchhab
open Go.RowKit Vo

set_option maxHeartbeats 1000000 in
theorem unPair_any (q : Int) (A : Option Addr) (n cap : Nat) (ws : List Int) (x y : Int) (w : World) (hm : n ≤ 9223372036854775807) (hk : Known w A n ws) :
    Calls Try.prog 76 #[.agg #[.int .i64 q, .slice A n cap], .int .i64 x, .int .i64 y] w fun e w' => e = .returned (.bool (pairOk q ws n x y)) ∧ Below w.heap.size w w' := by
  have HK := Lib.hid hk
  clear hk
  have hx := Box.new w (.int .i64 q) (.slice A n cap)
  have hb0 := below1 w (.cells #[.int .i64 q, .slice A n cap] 29)
  have HP := Lib.hid (show pairOk q ws n x y = (memOk q ws n x && memOk q ws n y && !(x == y)) from rfl)
  cases h1 : memOk q ws n x with
  | false =>
    have HM1 := Lib.hid h1
    clear h1
    go_enter Try.func76, Try.ntmps76
    go_wp2_with fail
    refine (pwMember_any q A n cap ws x _ hm (HK.out.now hb0)).mono ?_
    rintro e w1 ⟨rfl, hb1⟩
    rw [HM1.out]
    go_wp2
    go_ret
    exact ⟨by rw [HP.out, HM1.out]; rfl, bfrom hb0 hb1⟩
  | true =>
    cases h2 : memOk q ws n y with
    | false =>
      have HM1 := Lib.hid h1
      have HM2 := Lib.hid h2
      clear h1 h2
      go_enter Try.func76, Try.ntmps76
      go_wp2_with fail
      refine (pwMember_any q A n cap ws x _ hm (HK.out.now hb0)).mono ?_
      rintro e w1 ⟨rfl, hb1⟩
      rw [HM1.out]
      have g1 := bfrom hb0 hb1
      obtain ⟨c0, c1⟩ := (hx.now hb1).cells
      go_wp2_with fail
      refine (pwMember_any q A n cap ws y _ hm (HK.out.now g1)).mono ?_
      rintro e w2 ⟨rfl, hb2⟩
      rw [HM2.out]
      go_wp2
      go_ret
      exact ⟨by rw [HP.out, HM1.out, HM2.out]; rfl, bfrom g1 hb2⟩
    | true =>
      have HM1 := Lib.hid h1
      have HM2 := Lib.hid h2
      clear h1 h2
      go_enter Try.func76, Try.ntmps76
      go_wp2_with fail
      refine (pwMember_any q A n cap ws x _ hm (HK.out.now hb0)).mono ?_
      rintro e w1 ⟨rfl, hb1⟩
      rw [HM1.out]
      have g1 := bfrom hb0 hb1
      obtain ⟨c0, c1⟩ := (hx.now hb1).cells
      go_wp2_with fail
      refine (pwMember_any q A n cap ws y _ hm (HK.out.now g1)).mono ?_
      rintro e w2 ⟨rfl, hb2⟩
      rw [HM2.out]
      go_wp2
      go_ret
      exact ⟨by rw [HP.out, HM1.out, HM2.out]; simp [bne], bfrom g1 hb2⟩

set_option maxHeartbeats 2000000 in
theorem unQuarrel_any (q : Int) (b off n cap : Nat) (ws : List Int) (i j : Nat) (w : World) (hn : n < 10) (hi : i < n) (hj : j < n) (hok : InK 0 1000 ws n) (hsl : Sl w b off n ws) :
    Calls Try.prog 78 #[.agg #[.int .i64 q, .slice (some ⟨b, off, none⟩) n cap], .int .i64 i, .int .i64 j] w fun e w' =>
      ∃ g cap2, e = .returned (.slice (some ⟨g, 0, none⟩) (2^n : Nat) cap2) ∧ w.heap.size ≤ g ∧ WinsIn (quaP (winB q ws n) i j) n g w' ∧ Below w.heap.size w w' := by
  have HOK := Lib.hid hok
  have HSL := Lib.hid hsl
  clear hok hsl
  have h512 := pow_lt (n := n) (by omega)
  have hb0 := below1 w (.cells #[.int .i64 q, .slice (some ⟨b, off, none⟩) n cap] 29)
  have HV := Lib.hid (fun W (h : Sl W b off n ws) => voWins_any q b off n cap ws W hn HOK.out h)
  unfold WinsAt at HV
  have HQ := Lib.hid (show ∀ s, quaP (winB q ws n) i j s = (winB q ws n s && !(s.testBit i && s.testBit j)) from fun _ => rfl)
  obtain ⟨p, hp⟩ : ∃ p, p = winB q ws n := ⟨_, rfl⟩
  rw [← hp] at HV HQ ⊢
  obtain ⟨p', hp'⟩ : ∃ p', p' = quaP p i j := ⟨_, rfl⟩
  rw [← hp'] at HQ ⊢
  obtain ⟨N, hN⟩ : ∃ N, 2^n = N := ⟨_, rfl⟩
  unfold WinsIn
  rw [hN] at HV h512 ⊢
  clear hN hp hp'
  go_enter Try.func78, Try.ntmps78
  go_wp2_with fail
  refine (HV.out _ (HSL.out.now hb0)).mono ?_
  rintro e w1 ⟨g, cap1, rfl, hg, hown, hb1⟩
  have g1 := bfrom hb0 hb1
  have HO1 := Lib.hid (show Own w1 g 4 N (fun z => .bool (if z < 0 then p' z else p z)) from hown.congr fun z _ => by simp)
  have hgw : w.heap.size ≤ g := Nat.le_trans hb0.size hg
  clear hown hb0 hb1 hg
  go_wp2
  go_loopw [8, 13] (fun _ k wr => ∃ z : Nat, z ≤ N ∧ k = .int .i64 z ∧ Own wr g 4 N (fun y => .bool (if y < z then p' y else p y)) ∧ Below w.heap.size w wr) (fun _ k _ => N - (intOf k).toNat)
  case atStart => exact ⟨0, Nat.zero_le _, rfl, HO1.out, g1⟩
  case round =>
    obtain ⟨z, hz, rfl, hown, hbr⟩ := hrel
    by_cases hlt : z < N
    · have hcell := hown.cell hlt
      have hfr := hown.frozen z
      have HO := Lib.hid hown
      simp only [Nat.lt_irrefl, if_false] at hcell
      have HS := Lib.hid (HQ.out z)
      have HNX := Lib.hid (fun (v : Bool) (hv : p' z = v) => (show Own (wr.setCell ⟨g, z, none⟩ (.bool v)) g 4 N (fun y => .bool (if y < z + 1 then p' y else p y)) from
        (HO.out.set z (.bool v)).congr fun y _ => by
          by_cases e : y = z
          · subst e; rw [if_pos rfl, if_pos (Nat.lt_succ_self _), hv]
          · rw [if_neg e]
            by_cases h : y < z
            · rw [if_pos h, if_pos (Nat.lt_succ_of_lt h)]
            · rw [if_neg h, if_neg (by omega)]))
      have hbi := bit_mod0 z i
      have hbj := bit_mod0 z j
      have hni := div_nn z i
      have hnj := div_nn z j
      clear hown
      cases hpz : p z with
      | false =>
        rw [hpz] at hcell HS
        have HPF := Lib.hid (show p' z = false from HS.out)
        clear hpz hbi hbj hni hnj
        go_wp2
        go_roundw
        case rel => exact ⟨z + 1, by omega, by go_num, HNX.out false HPF.out, hbr.setCell hgw _⟩
        case measure => simp [intOf]; omega
      | true =>
        rw [hpz] at hcell HS
        clear hpz
        cases hti : z.testBit i with
        | false =>
          rw [hti] at hbi HS
          have HPF := Lib.hid (show p' z = true from HS.out.trans (by simp))
          clear hti hbj hnj
          go_wp2
          go_roundw
          case rel => exact ⟨z + 1, by omega, by go_num, HNX.out true HPF.out, hbr.setCell hgw _⟩
          case measure => simp [intOf]; omega
        | true =>
          rw [hti] at hbi HS
          clear hti
          cases htj : z.testBit j with
          | false =>
            rw [htj] at hbj HS
            have HPF := Lib.hid (show p' z = true from HS.out.trans (by simp))
            clear htj
            go_wp2
            go_roundw
            case rel => exact ⟨z + 1, by omega, by go_num, HNX.out true HPF.out, hbr.setCell hgw _⟩
            case measure => simp [intOf]; omega
          | true =>
            rw [htj] at hbj HS
            have HPF := Lib.hid (show p' z = false from HS.out.trans (by simp))
            clear htj
            go_wp2
            go_roundw
            case rel => exact ⟨z + 1, by omega, by go_num, HNX.out false HPF.out, hbr.setCell hgw _⟩
            case measure => simp [intOf]; omega
    · obtain rfl : z = N := by omega
      go_wp2
      go_ret
      exact ⟨g, cap1, rfl, hgw, hown.congr fun y hy => by rw [if_pos hy], hbr⟩
end Go.Proofs.Ytlnlkfldlgchhab
