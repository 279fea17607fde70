/- Contracts of WinsGame: the program's and the model's. -/
import Derived.Test.YtgilbenbaefgfabJ2
import Derived.Outline
namespace Go.Proofs.Ytgilbenbaefgfab
open Go.RowKit Vo

def winsOk (m : Int) (L : List (List Int)) (xs : List Int) (k : Nat) : Bool := goodG m L && riseB m.toNat xs k
def winsG (m : Int) (L : List (List Int)) (xs : List Int) (k : Nat) : Bool := winsOk m L xs k && winS (setsN L) (ofK xs k)
theorem winsOk_good {q : Nat} {L : List (List Int)} {xs : List Int} {k : Nat} (h : goodG (q : Int) L = true) : winsOk (q : Int) L xs k = riseB q xs k := by unfold winsOk; rw [h, Int.toNat_natCast]; rfl
theorem winsOk_bad {m : Int} {L : List (List Int)} {xs : List Int} {k : Nat} (h : goodG m L = false) : winsOk m L xs k = false := by unfold winsOk; rw [h]; rfl
theorem winsG_no {m : Int} {L : List (List Int)} {xs : List Int} {k : Nat} (h : winsOk m L xs k = false) : winsG m L xs k = false := by unfold winsG; rw [h]; rfl
theorem winsG_yes {m : Int} {L : List (List Int)} {xs : List Int} {k : Nat} (h : winsOk m L xs k = true) : winsG m L xs k = winS (setsN L) (ofK xs k) := by unfold winsG; rw [h]; rfl

set_option maxRecDepth 20000 in
set_option maxHeartbeats 2000000 in
theorem iWinsGame_any (m : Int) (A : Option Addr) (n cap : Nat) (L : List (List Int)) (b2 off2 k cap2 : Nat) (xs : List Int) (w : World) (hl : n ≤ 1048576) (hk : Lists w A n L) (hm2 : k ≤ 9223372036854775807) (hs : Sl w b2 off2 k xs) :
    Calls Try.prog 33 #[.agg #[.int .i64 m, .slice A n cap], .slice (some ⟨b2, off2, none⟩) k cap2] w fun e w' => e = .returned (.tuple #[.bool (winsG m L xs k), .bool (winsOk m L xs k)]) ∧ Below w.heap.size w w' := by
  have HK := Lib.hid (hk.now (below1 w (.cells #[.int .i64 m, .slice A n cap] 29)))
  have HLEN := Lib.hid hk.1
  have HS := Lib.hid hs
  clear hk hs
  have hx := BoxT.new 29 w (.int .i64 m) (.slice A n cap)
  have hb0 := below1 w (.cells #[.int .i64 m, .slice A n cap] 29)
  obtain ⟨c0, c1⟩ := hx.cells
  go_enter Try.func33, Try.ntmps33
  go_wp2_with fail
  refine (readGame_any m A n cap L _ hl HK.out).mono ?_
  rintro e w1 ⟨hb1, h⟩
  have g1 := bfrom hb0 hb1
  rcases h with ⟨hg, B, cp, rfl, hown⟩ | ⟨hg, rfl⟩
  · obtain ⟨h1, h9, _, hr, _⟩ := goodG_parts hg
    obtain ⟨q, rfl⟩ : ∃ q : Nat, m = q := ⟨m.toNat, by omega⟩
    rw [Int.toNat_natCast] at hr
    have hq9 : q ≤ 9 := by omega
    have hq10 : q < 10 := by omega
    have h512 := pow_lt hq9
    rw [HLEN.out] at hown ⊢
    have HOK := Lib.hid (winsOk_good (xs := xs) (k := k) hg)
    have HSN := Lib.hid (show n = (setsN L).length from by rw [← HLEN.out]; simp [setsN])
    have b2' := below1 w1 (.cells #[.int .i64 q, .slice B n cp] 70)
    have hy := BoxT.new 70 w1 (.int .i64 q) (.slice B n cp)
    obtain ⟨d0, d1⟩ := hy.cells
    have HSL := Lib.hid (HS.out.now (bfrom g1 b2'))
    have HW := Lib.hid (fun s h => gWins_any (setsN L) q s _ n cp B _ HSN.out hl (setsN_512 hq9 hr) h (owns_now hown b2'))
    clear hown hg hr
    by_cases hrise : RiseK q xs k
    · have H1 := Lib.hid (ofB_yes hrise)
      have H2 := Lib.hid (riseB_yes hrise)
      have hof : ofK xs k < 512 := by have := ofK_lt hrise; omega
      have HOT := Lib.hid (show winsOk (q : Int) L xs k = true from by rw [HOK.out, H2.out])
      have HG := Lib.hid (winsG_yes HOT.out)
      have HWS := Lib.hid (HW.out (ofK xs k) hof)
      obtain ⟨r, hr⟩ : ∃ r, r = winS (setsN L) (ofK xs k) := ⟨_, rfl⟩
      rw [← hr] at HWS HG
      clear hrise hr
      have HRS := Lib.hid (readSet_any q b2 off2 k cap2 xs _ hq10 hm2 HSL.out)
      rw [H1.out, H2.out] at HRS
      generalize ofK xs k = s at *
      go_wp2_with (first
        | (go_at_call 75; refine HRS.out.mono ?_; rintro e w3 ⟨rfl, rfl⟩)
        | (go_at_call 76; refine HWS.out.mono ?_; rintro e w4 ⟨rfl, hb4⟩))
      go_ret2
      exact ⟨by rw [HG.out, HOT.out]; rfl, bfrom (bfrom g1 b2') hb4⟩
    · have H2 := Lib.hid (riseB_no hrise)
      have HOT := Lib.hid (show winsOk (q : Int) L xs k = false from by rw [HOK.out, H2.out])
      have HG := Lib.hid (winsG_no HOT.out)
      have HRS := Lib.hid (readSet_any q b2 off2 k cap2 xs _ hq10 hm2 HSL.out)
      rw [ofB_no hrise, H2.out] at HRS
      clear hrise
      go_wp2_with (first
        | (go_at_call 75; refine HRS.out.mono ?_; rintro e w3 ⟨rfl, rfl⟩))
      go_ret2
      exact ⟨by rw [HG.out, HOT.out]; rfl, bfrom g1 b2'⟩
  · have HOT := Lib.hid (winsOk_bad (xs := xs) (k := k) hg)
    have HG := Lib.hid (winsG_no HOT.out)
    clear hg
    go_wp2
    go_ret2
    exact ⟨by rw [HG.out, HOT.out]; rfl, g1.alloc g1.size _⟩

set_option maxRecDepth 20000 in
set_option maxHeartbeats 2000000 in
theorem sWinsGame_any (m : Int) (A : Option Addr) (n cap : Nat) (L : List (List Int)) (b2 off2 k cap2 : Nat) (xs : List Int) (w : World) (hl : n ≤ 1048576) (hcap : n ≤ cap) (hk : ListsR w A n L) (hm2 : k ≤ 9223372036854775807) (hs : Sl w b2 off2 k xs) :
    Calls Try.prog 31 #[.agg #[.int .i64 m, .slice A n cap], .slice (some ⟨b2, off2, none⟩) k cap2] w fun e w' => e = .returned (.tuple #[.bool (winsG m L xs k), .bool (winsOk m L xs k)]) ∧ Below w.heap.size w w' := by
  have HK := Lib.hid (hk.now (below1 w (.cells #[.int .i64 m, .slice A n cap] 29)))
  have HS := Lib.hid hs
  clear hk hs
  have hx := BoxT.new 29 w (.int .i64 m) (.slice A n cap)
  have hb0 := below1 w (.cells #[.int .i64 m, .slice A n cap] 29)
  obtain ⟨c0, c1⟩ := hx.cells
  cases hg : goodG m L with
  | true =>
    obtain ⟨h1, h9, _, hr, _⟩ := goodG_parts hg
    obtain ⟨q, rfl⟩ : ∃ q : Nat, m = q := ⟨m.toNat, by omega⟩
    rw [Int.toNat_natCast] at hr
    have hq9 : q ≤ 9 := by omega
    have hq10 : q < 10 := by omega
    have h512 := pow_lt hq9
    have HGB := Lib.hid hg
    have HOK := Lib.hid (winsOk_good (xs := xs) (k := k) hg)
    have HGA := Lib.hid (fun W h => gmAll_any q A n cap L W hq9 hl hr h)
    have HVS := Lib.hid (fun W h => voSet_any q b2 off2 k cap2 xs W hq10 hm2 h)
    clear hg hr
    by_cases hrise : RiseK q xs k
    · have H2 := Lib.hid (riseB_yes hrise)
      have hof := ofK_lt hrise
      have HOT := Lib.hid (show winsOk (q : Int) L xs k = true from by rw [HOK.out, H2.out])
      have HG := Lib.hid (show winsG (q : Int) L xs k = wnL (setsN L) (ofK xs k) from winsG_yes HOT.out)
      have HVB := Lib.hid (fun W h => voBits_any q b2 off2 k cap2 xs W hq10 hm2 hrise h)
      rw [H2.out] at HVS
      clear hrise
      generalize ofK xs k = s at *
      obtain ⟨P, hP⟩ : ∃ P, P = 2 ^ q := ⟨_, rfl⟩
      rw [← hP] at HGA hof h512
      clear hP
      have hofi : (s : Int) < (P : Int) := by omega
      go_enter Try.func31, Try.ntmps31
      go_wp2_with fail
      refine (gmGood_any q A n cap L _ hl hcap HK.out).mono ?_
      rintro e w1 ⟨rfl, hb1⟩
      rw [HGB.out]
      have g1 := bfrom hb0 hb1
      have hx1 := hx.now hb1
      have HS1 := Lib.hid (HS.out.now g1)
      clear c0 c1
      obtain ⟨c0, c1⟩ := hx1.cells
      go_wp2_with fail
      refine (HVS.out _ HS1.out).mono ?_
      rintro e w2 ⟨rfl, rfl⟩
      go_wp2_with fail
      refine (HGA.out _ (HK.out.now hb1).lists).mono ?_
      rintro e w3 ⟨rfl, hown, hb3⟩
      have hcell := hown.cell hof
      clear hown
      have HS3 := Lib.hid (HS1.out.now hb3)
      go_wp2_with fail
      refine (HVB.out _ HS3.out).mono ?_
      rintro e w4 ⟨rfl, rfl⟩
      generalize wnL (setsN L) s = r at *
      go_wp2
      go_ret2
      exact ⟨by rw [HG.out, HOT.out]; rfl, bfrom g1 hb3⟩
    · have H2 := Lib.hid (riseB_no hrise)
      have HOT := Lib.hid (show winsOk (q : Int) L xs k = false from by rw [HOK.out, H2.out])
      have HG := Lib.hid (winsG_no HOT.out)
      rw [H2.out] at HVS
      clear hrise
      go_enter Try.func31, Try.ntmps31
      go_wp2_with fail
      refine (gmGood_any q A n cap L _ hl hcap HK.out).mono ?_
      rintro e w1 ⟨rfl, hb1⟩
      rw [HGB.out]
      have g1 := bfrom hb0 hb1
      have hx1 := hx.now hb1
      have HS1 := Lib.hid (HS.out.now g1)
      clear c0 c1
      obtain ⟨c0, c1⟩ := hx1.cells
      go_wp2_with fail
      refine (HVS.out _ HS1.out).mono ?_
      rintro e w2 ⟨rfl, rfl⟩
      go_wp2
      go_ret2
      exact ⟨by rw [HG.out, HOT.out]; rfl, g1⟩
  | false =>
    have HGB := Lib.hid hg
    have HOT := Lib.hid (winsOk_bad (xs := xs) (k := k) hg)
    have HG := Lib.hid (winsG_no HOT.out)
    clear hg
    go_enter Try.func31, Try.ntmps31
    go_wp2_with fail
    refine (gmGood_any m A n cap L _ hl hcap HK.out).mono ?_
    rintro e w1 ⟨rfl, hb1⟩
    rw [HGB.out]
    go_wp2
    go_ret2
    exact ⟨by rw [HG.out, HOT.out]; rfl, bfrom hb0 hb1⟩
end Go.Proofs.Ytgilbenbaefgfab
