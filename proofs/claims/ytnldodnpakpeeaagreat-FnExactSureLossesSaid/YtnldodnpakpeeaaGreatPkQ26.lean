/- Texts of Gp, LG. -/
import Derived.Test.YtnldodnpakpeeaaGreatPkQ20
import Derived.Test.YtnldodnpakpeeaaGreatPkQ10
import Derived.Outline
import Derived.Shelf.SlicesE.Clone
import Derived.Shelf.SlicesE.DeleteFunc
import Derived.Ground.SlgfProg
import Derived.Ground.SlgnProg
import Derived.Test.YtnldodnpakpeeaaGreatProg
namespace Go.Proofs.YtnldodnpakpeeaaGreat
open Go.RowKit Vo

/-- Whether a game comes before another one, by their least sets. -/
def gmB : List (List Int) → List (List Int) → Bool
  | [], [] => false
  | [], _ :: _ => true
  | _ :: _, [] => false
  | a :: L, b :: K => if before a b then true else if before b a then false else gmB L K
theorem gmB_out {L K : List (List Int)} {j : Nat} (h : j < L.length) (hk : K.length ≤ j) : gmB (L.drop j) (K.drop j) = false := by
  rw [List.drop_eq_getElem_cons h, List.drop_eq_nil_of_le hk]; rfl
theorem gmB_in {L K : List (List Int)} {j : Nat} (h : j < L.length) (hk : j < K.length) : gmB (L.drop j) (K.drop j) = if before (L.getD j []) (K.getD j []) then true else if before (K.getD j []) (L.getD j []) then false else gmB (L.drop (j+1)) (K.drop (j+1)) := by
  rw [List.drop_eq_getElem_cons h, List.drop_eq_getElem_cons hk, List.getD_eq_getElem?_getD, List.getElem?_eq_getElem h, List.getD_eq_getElem?_getD, List.getElem?_eq_getElem hk]; rfl
theorem gmB_end {L K : List (List Int)} {j : Nat} (h : j = L.length) (hk : j ≤ K.length) : gmB (L.drop j) (K.drop j) = decide (L.length < K.length) := by
  rw [List.drop_eq_nil_of_le (by omega)]
  rcases Nat.lt_or_ge j K.length with h1 | h1
  · rw [List.drop_eq_getElem_cons h1, decide_eq_true (by omega)]; rfl
  · rw [List.drop_eq_nil_of_le h1, decide_eq_false (by omega)]; rfl

set_option maxRecDepth 20000 in
set_option maxHeartbeats 4000000 in
theorem gmBefore_any (m1 m2 : Int) (A B : Option Addr) (n c k d : Nat) (L K : List (List Int)) (w : World) (hl : n ≤ 1048576) (_hl2 : k ≤ 1048576) (hL : ListsR w A n L) (hK : ListsR w B k K) :
    Calls Tryz.prog 40 #[.agg #[.int .i64 m1, .slice A n c], .agg #[.int .i64 m2, .slice B k d]] w fun e w' => e = .returned (.bool (gmB L K)) ∧ Below w.heap.size w w' := by
  have b0 : Below w.heap.size w ((w.alloc (.cells #[.int .i64 m1, .slice A n c] 57)).alloc (.cells #[.int .i64 m2, .slice B k d] 57)) := (below1 w _).alloc (by simp) _
  have hx := (BoxT.new 57 w (.int .i64 m1) (.slice A n c)).alloc (.cells #[.int .i64 m2, .slice B k d] 57)
  have hy := BoxT.new 57 (w.alloc (.cells #[.int .i64 m1, .slice A n c] 57)) (.int .i64 m2) (.slice B k d)
  simp only [World.size_alloc] at hy
  obtain ⟨w0, hw0⟩ : ∃ w0, w0 = (w.alloc (.cells #[.int .i64 m1, .slice A n c] 57)).alloc (.cells #[.int .i64 m2, .slice B k d] 57) := ⟨_, rfl⟩
  have HL := Lib.hid (show ListsR w0 A n L from by rw [hw0]; exact hL.now b0)
  have HK := Lib.hid (show ListsR w0 B k K from by rw [hw0]; exact hK.now b0)
  have HLN := Lib.hid hL.1
  have HKN := Lib.hid hK.1
  have HX := Lib.hid (show BoxT 57 w0 w.heap.size (.int .i64 m1) (.slice A n c) from by rw [hw0]; exact hx)
  have HY := Lib.hid (show BoxT 57 w0 (w.heap.size + 1) (.int .i64 m2) (.slice B k d) from by rw [hw0]; exact hy)
  have HB0 := Lib.hid (show Below w.heap.size w w0 from by rw [hw0]; exact b0)
  obtain ⟨c0, c1⟩ := hx.cells
  obtain ⟨R, hR⟩ : ∃ R, R = gmB L K := ⟨_, rfl⟩
  have HR := Lib.hid hR
  rw [← hR]
  clear hL hK hx hy b0 hR
  go_enter Tryz.func40, Tryz.ntmps40
  go_wp2_with fail
  rw [← hw0]
  rw [← hw0] at c0 c1
  clear hw0
  go_loopw [10] (fun i wr => ∃ j : Nat, j ≤ n ∧ j ≤ k ∧ i = .int .i64 j ∧ gmB (L.drop j) (K.drop j) = R ∧ Below w0.heap.size w0 wr) (fun i _ => n - (intOf i).toNat)
  case atStart => exact ⟨0, Nat.zero_le _, Nat.zero_le _, rfl, by rw [HR.out]; rfl, Below.refl _ _⟩
  case round =>
    obtain ⟨j, hj, hjk, rfl, hq, hbr⟩ := hrel
    have HQ := Lib.hid hq
    have HBR := Lib.hid hbr
    obtain ⟨x0, x1⟩ := (HX.out.now hbr).cells
    obtain ⟨y0, y1⟩ := (HY.out.now hbr).cells
    clear hq hbr c0 c1
    by_cases hlt : j < n
    · obtain ⟨g, v, rfl, hg, hc, hm, hv⟩ := (HL.out.now HBR.out).2 j hlt
      by_cases hlk : j < k
      · obtain ⟨g2, v2, rfl, hg2, hc2, hm2, hv2⟩ := (HK.out.now HBR.out).2 j hlk
        have HST := Lib.hid (gmB_in (L := L) (K := K) (j := j) (by rw [HLN.out]; exact hlt) (by rw [HKN.out]; exact hlk))
        have HV := Lib.hid (fun W (h : Below wr.heap.size wr W) => voBefore_any v v2 (L.getD j []) (K.getD j []) W hm hm2 (hv.up h) (hv2.up h))
        have HV2 := Lib.hid (fun W (h : Below wr.heap.size wr W) => voBefore_any v2 v (K.getD j []) (L.getD j []) W hm2 hm (hv2.up h) (hv.up h))
        generalize before (L.getD j []) (K.getD j []) = r1 at *
        generalize before (K.getD j []) (L.getD j []) = r2 at *
        clear hm hm2 hv hv2
        cases r1 with
        | true =>
          go_wp2_with fail
          refine (HV.out _ (Below.refl _ _)).mono ?_
          rintro e w1 ⟨rfl, hb1⟩
          go_wp2
          go_ret
          exact ⟨by rw [← HQ.out, HST.out]; rfl, HB0.out.trans ((HBR.out.trans (hb1.mono HBR.out.size)).mono HB0.out.size)⟩
        | false =>
          go_wp2_with fail
          refine (HV.out _ (Below.refl _ _)).mono ?_
          rintro e w1 ⟨rfl, hb1⟩
          obtain ⟨x10, x11⟩ := ((HX.out.now HBR.out).now hb1).cells
          obtain ⟨y10, y11⟩ := ((HY.out.now HBR.out).now hb1).cells
          have hc2' := (hb1.cell (p := ⟨g2, j, none⟩) hg2).trans hc2
          cases r2 with
          | true =>
            go_wp2_with fail
            refine (HV2.out _ hb1).mono ?_
            rintro e w2 ⟨rfl, hb2⟩
            have hb12 := bfrom hb1 hb2
            go_wp2
            go_ret
            exact ⟨by rw [← HQ.out, HST.out]; rfl, HB0.out.trans ((HBR.out.trans (hb12.mono HBR.out.size)).mono HB0.out.size)⟩
          | false =>
            go_wp2_with fail
            refine (HV2.out _ hb1).mono ?_
            rintro e w2 ⟨rfl, hb2⟩
            have hb12 := bfrom hb1 hb2
            go_wp2
            go_roundw
            case rel => exact ⟨j + 1, by omega, by omega, by go_num, by rw [← HQ.out, HST.out]; rfl, HBR.out.trans (hb12.mono HBR.out.size)⟩
            case measure => simp [intOf]; omega
      · have HST := Lib.hid (gmB_out (L := L) (K := K) (j := j) (by rw [HLN.out]; exact hlt) (by rw [HKN.out]; omega))
        have hge : (k : Int) ≤ (j : Int) := by omega
        go_wp2
        go_ret
        exact ⟨by rw [← HQ.out, HST.out]; rfl, HB0.out.trans (HBR.out.mono HB0.out.size)⟩
    · obtain rfl : j = n := by omega
      have HST := Lib.hid (gmB_end (L := L) (K := K) (j := j) HLN.out.symm (by rw [HKN.out]; exact hjk))
      rw [HLN.out, HKN.out] at HST
      go_wp2
      go_ret
      exact ⟨by rw [← HQ.out, HST.out]; first | rfl | simp, HB0.out.trans (HBR.out.mono HB0.out.size)⟩
end Go.Proofs.YtnldodnpakpeeaaGreat

namespace Go.Proofs.YtnldodnpakpeeaaGreat
open Go.Shelf
def Tryz.cloneS_ren : Go.Shelf.Ren := ⟨fun | 41 => 77 | n => n, fun | 22 => 44 | 23 => 69 | 4 => 4 | n => n, fun | n => n⟩
theorem Tryz.cloneS : Go.Proofs.SlLaysE0.n41 Tryz.prog Tryz.cloneS_ren := {
  mixed := by kernel_rfl
  f41 := ⟨Tryz.f77.name, by decide, Tryz.func77.trans (congrArg some (by kernel_rfl))⟩
  t4 := Tryz.underlying4
  a4 := Tryz.isAgg4
  z4 := Tryz.sizeOf4
  v4 := Tryz.zeroValue4
  t22 := Tryz.underlying44
  a22 := Tryz.isAgg44
  z22 := Tryz.sizeOf44
  v22 := Tryz.zeroValue44 }
def Tryz.deleteS_ren : Go.Shelf.Ren := ⟨fun | 10 => 48 | 6 => 62 | n => n, fun | 22 => 44 | 23 => 69 | 25 => 43 | 3 => 3 | 4 => 4 | 0 => 0 | n => n, fun | n => n⟩
theorem Tryz.deleteS : Go.Proofs.SlLaysH.n10 Tryz.prog Tryz.deleteS_ren := {
  mixed := by kernel_rfl
  f6 := ⟨Tryz.f62.name, by decide, Tryz.func62.trans (congrArg some (by kernel_rfl))⟩
  f10 := ⟨Tryz.f48.name, by decide, Tryz.func48.trans (congrArg some (by kernel_rfl))⟩
  t0 := Tryz.underlying0
  a0 := Tryz.isAgg0
  z0 := Tryz.sizeOf0
  v0 := Tryz.zeroValue0
  t3 := Tryz.underlying3
  a3 := Tryz.isAgg3
  z3 := Tryz.sizeOf3
  v3 := Tryz.zeroValue3
  t4 := Tryz.underlying4
  a4 := Tryz.isAgg4
  z4 := Tryz.sizeOf4
  v4 := Tryz.zeroValue4
  t22 := Tryz.underlying44
  a22 := Tryz.isAgg44
  z22 := Tryz.sizeOf44
  v22 := Tryz.zeroValue44
  a23 := Tryz.isAgg69
  z23 := Tryz.sizeOf69
  t25 := Tryz.underlying43
  a25 := Tryz.isAgg43
  z25 := Tryz.sizeOf43
  v25 := Tryz.zeroValue43 }
end Go.Proofs.YtnldodnpakpeeaaGreat
