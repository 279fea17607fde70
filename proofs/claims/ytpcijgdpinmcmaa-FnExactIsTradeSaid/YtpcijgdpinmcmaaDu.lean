/- One side of a trade read, the program's readSide. -/
import Derived.Test.YtpcijgdpinmcmaaDt
namespace Go.Proofs.Ytpcijgdpinmcmaa
open Go.RowKit Vo

/-- Are lists sets, in order, none of a kind? -/
def sideB (p : Nat → Bool) (n : Nat) (L : List (List Int)) : Bool := riseRows n L && (sortS (setsN L) && !(setsN L).any p)
def SideAt (p : Nat → Bool) (n : Nat) (L : List (List Int)) (w w' : World) (e : Ending) : Prop :=
  Below w.heap.size w w' ∧ ((sideB p n L = true ∧ ∃ B cp, e = .returned (.tuple #[.slice B L.length cp, .bool true]) ∧ w'.ownsRow w.heap.size 94 1 (.slice B L.length cp) L.length (setsV (setsN L))) ∨ (sideB p n L = false ∧ e = .returned (.tuple #[.slice none 0 0, .bool false])))

set_option maxRecDepth 20000 in
set_option maxHeartbeats 2000000 in
theorem readSide_any (p : Nat → Bool) (f : Nat) (first cap2 : Array Value) (n : Nat) (v : Value) (A : Option Addr) (ln cap : Nat) (L : List (List Int)) (w : World) (hn : n ≤ 9) (hl : ln ≤ 1048576) (hl1 : 1 ≤ ln) (hk : Lists w A ln L) (ha : Asks p f first cap2 9 w) :
    Calls Try.prog 79 #[.agg #[.int .i64 n, v], .slice A ln cap, .func (.func f) first cap2] w fun e w' => SideAt p n L w w' e := by
  have HK := Lib.hid (hk.now (below1 w (.cells #[.int .i64 n, v] 81)))
  have hlen : L.length = ln := hk.1
  have hx := BoxT.new 81 w (.int .i64 n) v
  have hb0 := below1 w (.cells #[.int .i64 n, v] 81)
  obtain ⟨c0, c1⟩ := hx.cells
  have HA := Lib.hid ha
  clear ha hk
  go_enter Try.func79, Try.ntmps79
  go_wp2_with fail
  refine (readSets_any n A ln cap L _ hn hl HK.out).mono ?_
  rintro e w1 ⟨hb1, h⟩
  have g1 := bfrom hb0 hb1
  rcases h with ⟨hr, B, cp, rfl, hown⟩ | ⟨hr, rfl⟩
  · have hsl : (setsN L).length = L.length := by unfold setsN; simp
    have HSO := Lib.hid (isSorted_any (setsN L) _ L.length cp B w1 hsl.symm (by omega) (by omega) (riseRows_512 hn hr) hown)
    have HCA := Lib.hid (fun W (hb : Below w1.heap.size w1 W) => containsA_any p f first cap2 (setsN L) _ L.length cp B W hsl.symm (by omega) (riseRows_512 hn hr) (owns_now hown hb) (HA.out.now (bfrom g1 hb)))
    have HOW := Lib.hid (fun W (hb : Below w1.heap.size w1 W) => owns_less (owns_now hown hb) hb0.size)
    have HSB := Lib.hid (show sideB p n L = (sortS (setsN L) && !(setsN L).any p) from by unfold sideB; rw [hr]; rfl)
    clear hr hown hsl
    obtain ⟨S, hS⟩ : ∃ S, S = setsN L := ⟨_, rfl⟩
    obtain ⟨k, hkl⟩ : ∃ k, k = L.length := ⟨_, rfl⟩
    rw [← hkl, ← hS] at HSO
    simp only [← hkl, ← hS] at HCA HSB
    have HKL := Lib.hid hkl
    rw [← hkl] 
    clear hS hkl
    cases hso : sortS S with
    | false =>
      rw [hso] at HSO
      have HSN := Lib.hid (show sideB p n L = false from by rw [HSB.out, hso]; rfl)
      clear hso
      go_wp2_with fail
      refine HSO.out.mono ?_
      rintro e w2 ⟨rfl, hb2⟩
      go_wp2
      go_ret2
      exact ⟨bfrom g1 hb2, Or.inr ⟨HSN.out, rfl⟩⟩
    | true =>
      rw [hso] at HSO
      cases hca : S.any p with
      | true =>
        have HSN := Lib.hid (show sideB p n L = false from by rw [HSB.out, hca]; simp)
        simp only [hca] at HCA
        clear hca hso
        go_wp2_with fail
        refine HSO.out.mono ?_
        rintro e w2 ⟨rfl, hb2⟩
        go_wp2_with fail
        refine (HCA.out _ hb2).mono ?_
        rintro e w3 ⟨rfl, hb3⟩
        go_wp2
        go_ret2
        exact ⟨bfrom (bfrom g1 hb2) hb3, Or.inr ⟨HSN.out, rfl⟩⟩
      | false =>
        have HSN := Lib.hid (show sideB p n L = true from by rw [HSB.out, hso, hca]; rfl)
        simp only [hca] at HCA
        clear hca hso
        go_wp2_with fail
        refine HSO.out.mono ?_
        rintro e w2 ⟨rfl, hb2⟩
        go_wp2_with fail
        refine (HCA.out _ hb2).mono ?_
        rintro e w3 ⟨rfl, hb3⟩
        go_wp2
        go_ret2
        exact ⟨bfrom (bfrom g1 hb2) hb3, Or.inl ⟨HSN.out, B, cp, by rw [← HKL.out]; rfl, HOW.out _ (bfrom hb2 hb3)⟩⟩
  · have HSN := Lib.hid (show sideB p n L = false from by unfold sideB; rw [hr]; rfl)
    clear hr
    go_wp2
    go_ret2
    exact ⟨g1, Or.inr ⟨HSN.out, rfl⟩⟩
end Go.Proofs.Ytpcijgdpinmcmaa
