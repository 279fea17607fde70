/- IsTrade, the program's. -/
import Derived.Test.YtpcijgdpinmcmaaDw
import Derived.Test.YtpcijgdpinmcmaaI4
namespace Go.Proofs.Ytpcijgdpinmcmaa
open Go.RowKit Vo

def trI (m : Int) (L L1 L2 : List (List Int)) : Bool := goodG m L && tradeB (setsN L) m.toNat L1 L2
theorem trI_yes {q : Nat} {L L1 L2 : List (List Int)} (h : goodG (q : Int) L = true) : trI (q : Int) L L1 L2 = tradeB (setsN L) q L1 L2 := by unfold trI; rw [h, Int.toNat_natCast]; rfl
theorem trI_no {m : Int} {L L1 L2 : List (List Int)} (h : goodG m L = false) : trI m L L1 L2 = false := by unfold trI; rw [h]; rfl

set_option maxRecDepth 20000 in
set_option maxHeartbeats 2000000 in
theorem iIsTrade_any (m : Int) (A : Option Addr) (n cap : Nat) (L : List (List Int)) (A1 : Option Addr) (n1 c1 : Nat) (L1 : List (List Int)) (A2 : Option Addr) (n2 c2 : Nat) (L2 : List (List Int)) (w : World) (hl : n ≤ 1048576) (hl1 : n1 ≤ 1048576) (hl2 : n2 ≤ 1048576) (hk : Lists w A n L) (hk1 : Lists w A1 n1 L1) (hk2 : Lists w A2 n2 L2) :
    Calls Try.prog 15 #[.agg #[.int .i64 m, .slice A n cap], .agg #[.slice A1 n1 c1, .slice A2 n2 c2]] w fun e w' => e = .returned (.tuple #[.bool (trI m L L1 L2), .bool (goodG m L)]) ∧ Below w.heap.size w w' := by
  have b1 := below1 w (.cells #[.int .i64 m, .slice A n cap] 31)
  have x1 := (BoxT.new 31 w (.int .i64 m) (.slice A n cap)).now (below1 _ (.cells #[.slice A1 n1 c1, .slice A2 n2 c2] 33))
  have x2 := BoxT.new 33 (w.alloc (.cells #[.int .i64 m, .slice A n cap] 31)) (.slice A1 n1 c1) (.slice A2 n2 c2)
  have hb0 := b1.alloc (by simp) (.cells #[.slice A1 n1 c1, .slice A2 n2 c2] 33)
  simp only [World.size_alloc] at x2
  have HK := Lib.hid (hk.now hb0)
  have HLEN := Lib.hid hk.1
  have HK1 := Lib.hid (fun W (hb : Below w.heap.size w W) => hk1.now hb)
  have HK2 := Lib.hid (fun W (hb : Below w.heap.size w W) => hk2.now hb)
  obtain ⟨c0, c1'⟩ := x1.cells
  have X2 := Lib.hid x2
  clear hk hk1 hk2 x1 x2 b1
  go_enter Try.func15, Try.ntmps15
  go_wp2_with fail
  refine (readGame_any m A n cap L _ hl HK.out).mono ?_
  rintro e w1 ⟨hb1, h⟩
  have g1 := bfrom hb0 hb1
  rcases h with ⟨hg, B, cp, rfl, hown⟩ | ⟨hg, rfl⟩
  · obtain ⟨h1, h9, _, hr, _⟩ := goodG_parts hg
    obtain ⟨q, rfl⟩ : ∃ q : Nat, m = q := ⟨m.toNat, by omega⟩
    rw [Int.toNat_natCast] at hr
    have hq9 : q ≤ 9 := by omega
    rw [HLEN.out] at hown ⊢
    have HGB := Lib.hid hg
    have HCN := Lib.hid (trI_yes (L1 := L1) (L2 := L2) hg)
    have b2 := below1 w1 (.cells #[.int .i64 q, .slice B n cp] 81)
    obtain ⟨d0, d1⟩ := (BoxT.new 81 w1 (.int .i64 q) (.slice B n cp)).cells
    have g2 := bfrom g1 b2
    obtain ⟨d2, d3⟩ := ((X2.out.now hb1).now b2).cells
    have HB := Lib.hid (gIsTrade_any (setsN L) q _ n cp B A1 n1 c1 L1 A2 n2 c2 L2 _ hq9 (by rw [← HLEN.out]; simp [setsN]) hl (setsN_512 hq9 hr) (owns_now hown b2) hl1 hl2 (HK1.out _ g2) (HK2.out _ g2))
    obtain ⟨r, hr'⟩ : ∃ r, r = tradeB (setsN L) q L1 L2 := ⟨_, rfl⟩
    rw [← hr'] at HB HCN
    clear hown hg hr hr'
    go_wp2_with fail
    refine HB.out.mono ?_
    rintro e w3 ⟨rfl, hb3⟩
    go_wp2
    go_ret2
    exact ⟨by rw [HCN.out, HGB.out]; rfl, bfrom g2 hb3⟩
  · have HGB := Lib.hid hg
    have HCN := Lib.hid (trI_no (L1 := L1) (L2 := L2) hg)
    clear hg
    go_wp2
    go_ret2
    exact ⟨by rw [HCN.out, HGB.out]; rfl, (g1.alloc g1.size _)⟩
end Go.Proofs.Ytpcijgdpinmcmaa
