/- OrderOfWorth, the program's. -/
import Derived.Test.YtgilbenbaefgfaaGreatDh
import Derived.Test.YtgilbenbaefgfaaGreatK1
import Derived.Outline
namespace Go.Proofs.YtgilbenbaefgfaaGreat
open Go.RowKit Vo

/-- A complete game read: its table. -/
def ReadC (m : Int) (L : List (List Int)) (w w' : World) (e : Ending) : Prop :=
  Below w.heap.size w w' ∧ ((goodG m L = true ∧ ∃ g, e = .returned (.tuple #[.slice (some ⟨g, 0, none⟩) m.toNat m.toNat, .bool (compG m L)]) ∧ w.heap.size ≤ g ∧ Own w' g 68 m.toNat (fun i => .int .u64 (selK (worthP (winS (setsN L)) m.toNat i) m.toNat : Nat))) ∨ (goodG m L = false ∧ e = .returned (.tuple #[.slice none 0 0, .bool false])))

set_option maxRecDepth 20000 in
set_option maxHeartbeats 2000000 in
theorem readCompleteGame_any (m : Int) (A : Option Addr) (n cap : Nat) (L : List (List Int)) (w : World) (hl : n ≤ 1048576) (hk : Lists w A n L) :
    Calls Tryz.prog 29 #[.agg #[.int .i64 m, .slice A n cap]] w fun e w' => ReadC m L w w' e := by
  have HK := Lib.hid (hk.now (below1 w (.cells #[.int .i64 m, .slice A n cap] 28)))
  have HLEN := Lib.hid hk.1
  clear hk
  have hx := BoxT.new 28 w (.int .i64 m) (.slice A n cap)
  have hb0 := below1 w (.cells #[.int .i64 m, .slice A n cap] 28)
  obtain ⟨c0, c1⟩ := hx.cells
  go_enter Tryz.func29, Tryz.ntmps29
  go_wp2_with fail
  refine (readGame_any m A n cap L _ hl HK.out).mono ?_
  rintro e w1 ⟨hb1, h⟩
  have g1 := bfrom hb0 hb1
  rcases h with ⟨hg, B, cp, rfl, hown⟩ | ⟨hg, rfl⟩
  · obtain ⟨h1, h9, _, hr, _⟩ := goodG_parts hg
    obtain ⟨q, rfl⟩ : ∃ q : Nat, m = q := ⟨m.toNat, by omega⟩
    rw [Int.toNat_natCast] at hr
    have hq9 : q ≤ 9 := by omega
    rw [HLEN.out] at hown ⊢
    have HGB := Lib.hid hg
    have HCN := Lib.hid (compG_yes hg)
    have HSN := Lib.hid (show n = (setsN L).length from by rw [← HLEN.out]; simp [setsN])
    have b2 := below1 w1 (.cells #[.int .i64 q, .slice B n cp] 55)
    obtain ⟨d0, d1⟩ := (BoxT.new 55 w1 (.int .i64 q) (.slice B n cp)).cells
    have HB := Lib.hid (worthTable_any (setsN L) q _ n cp B _ hq9 HSN.out hl (setsN_512 hq9 hr) (owns_now hown b2))
    have g2 := bfrom g1 b2
    have HF := Lib.hid (show worthP (winS (setsN L)) q = worthP (winS (setsN L)) (q : Int).toNat from by rw [Int.toNat_natCast])
    obtain ⟨f, hf⟩ : ∃ f, f = worthP (winS (setsN L)) q := ⟨_, rfl⟩
    rw [← hf] at HB HCN
    have HFE := Lib.hid hf
    clear hown hg hr hf
    go_wp2_with fail
    refine HB.out.mono ?_
    rintro e w3 ⟨rfl, hown3, hb3⟩
    have HC := Lib.hid (tIsComplete_any f q _ q w3 hq9 hown3)
    have HO := Lib.hid hown3
    have hol := hown3.lt
    clear hown3
    have g3 := bfrom g2 hb3
    have hz := g2.size
    obtain ⟨tg, htg⟩ : ∃ z, z = (w1.alloc (.cells #[.int .i64 q, .slice B n cp] 55)).heap.size + 1 := ⟨_, rfl⟩
    rw [← htg] at HC HO hol ⊢
    have htl : w.heap.size ≤ tg := by omega
    clear htg hz
    obtain ⟨r, hr⟩ : ∃ r, r = compB f q := ⟨_, rfl⟩
    rw [← hr] at HC HCN
    clear hr
    go_wp2_with fail
    refine HC.out.mono ?_
    rintro e w4 ⟨rfl, hb4⟩
    go_wp2
    go_ret2
    refine ⟨bfrom g3 hb4, Or.inl ⟨HGB.out, tg, by rw [HCN.out, Int.toNat_natCast]; rfl, htl, ?_⟩⟩
    rw [Int.toNat_natCast, ← HFE.out]
    exact HO.out.below hb4 hol
  · have HGB := Lib.hid hg
    clear hg
    go_wp2
    go_ret2
    exact ⟨g1.alloc g1.size _, Or.inr ⟨HGB.out, rfl⟩⟩

def ordI (m : Int) (L : List (List Int)) : List Int := if compG m L then natsI (ordL (grK (worthP (winS (setsN L)) m.toNat)) m.toNat) else []
theorem ordI_yes {q : Nat} {L : List (List Int)} (h : compG (q : Int) L = true) : ordI (q : Int) L = natsI (ordL (grK (worthP (winS (setsN L)) q)) q) := by unfold ordI; rw [if_pos h, Int.toNat_natCast]
theorem ordI_no {m : Int} {L : List (List Int)} (h : compG m L = false) : ordI m L = [] := if_neg (by rw [h]; simp)
theorem ordI_len (m : Int) (L : List (List Int)) : (ordI m L).length ≤ 1048576 := by
  unfold ordI; split
  · rename_i h
    rw [natsI_len, ordL_len]
    have : goodG m L = true := by
      cases hg : goodG m L with
      | true => rfl
      | false => rw [compG_no hg] at h; cases h
    obtain ⟨h1, h9, _⟩ := goodG_parts this
    omega
  · simp

set_option maxRecDepth 20000 in
set_option maxHeartbeats 2000000 in
theorem iOrderOfWorth_any (m : Int) (A : Option Addr) (n cap : Nat) (L : List (List Int)) (w : World) (hl : n ≤ 1048576) (hk : Lists w A n L) :
    Calls Tryz.prog 17 #[.agg #[.int .i64 m, .slice A n cap]] w fun e w' => Ans (RS (ordI m L)) (compG m L) w w' e := by
  have HK := Lib.hid (hk.now (below1 w (.cells #[.int .i64 m, .slice A n cap] 28)))
  clear hk
  have hx := BoxT.new 28 w (.int .i64 m) (.slice A n cap)
  have hb0 := below1 w (.cells #[.int .i64 m, .slice A n cap] 28)
  obtain ⟨c0, c1⟩ := hx.cells
  go_enter Tryz.func17, Tryz.ntmps17
  go_wp2_with fail
  refine (readCompleteGame_any m A n cap L _ hl HK.out).mono ?_
  rintro e w1 ⟨hb1, h⟩
  have g1 := bfrom hb0 hb1
  rcases h with ⟨hg, g, rfl, hgl, hown⟩ | ⟨hg, rfl⟩
  · obtain ⟨h1, h9, _, _, _⟩ := goodG_parts hg
    obtain ⟨q, rfl⟩ : ∃ q : Nat, m = q := ⟨m.toNat, by omega⟩
    rw [Int.toNat_natCast] at hown ⊢
    have hq9 : q ≤ 9 := by omega
    cases hc : compG (q : Int) L with
    | false =>
      have HC := Lib.hid hc
      have HCN := Lib.hid (ordI_no hc)
      clear hc hown hg
      go_wp2
      go_ret2
      rw [HCN.out, HC.out]
      exact noInts g1
    | true =>
      have HC := Lib.hid hc
      have HCN := Lib.hid (ordI_yes hc)
      have HO := Lib.hid (tOrder_any (worthP (winS (setsN L)) q) q g q w1 hq9 (by omega) (worth_desire _ q) (by rw [← compG_yes hg]; exact hc) hown)
      have HLN := Lib.hid (show (natsI (ordL (grK (worthP (winS (setsN L)) q)) q)).length = q from by rw [natsI_len, ordL_len])
      clear hc hown hg
      obtain ⟨K, hK⟩ : ∃ K, K = natsI (ordL (grK (worthP (winS (setsN L)) q)) q) := ⟨_, rfl⟩
      rw [← hK] at HO HCN HLN
      clear hK
      go_wp2_with fail
      refine HO.out.mono ?_
      rintro e w2 ⟨r, cp2, rfl, hr1, hr2, hin, hb2⟩
      have HI := Lib.hid hin
      clear hin
      have hz := g1.size
      go_wp2
      go_ret2
      refine ⟨.slice (some ⟨r, 0, none⟩) q cp2, by rw [HC.out]; rfl, ?_, bfrom g1 hb2⟩
      rw [HCN.out]
      exact RS.lies ⟨_, cp2, by rw [HLN.out], Or.inr ⟨r, rfl, by omega, hr2, by rw [HLN.out]; exact HI.out⟩⟩ (Nat.le_refl _)
  · have HC := Lib.hid (compG_no hg)
    have HCN := Lib.hid (ordI_no HC.out)
    clear hg
    go_wp2
    go_ret2
    rw [HCN.out, HC.out]
    exact noInts g1
end Go.Proofs.YtgilbenbaefgfaaGreat
