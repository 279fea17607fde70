/- Contracts of DecidePower, the program's and the model's; the walk of its law. -/
import Derived.Test.YtlnlkfldlgchhaaN11
import Derived.Test.YtlnlkfldlgchhaaD1
import Derived.Outline
namespace Go.Proofs.Ytlnlkfldlgchhaa
open Go.RowKit Vo

def decX (q : Int) (ws : List Int) (n : Nat) : Int × Int := if goodB q ws n then share1 (cnt (winB q ws n) (2^n)) (2^n) else (0, 0)
theorem decX_yes {q ws n} (h : goodB q ws n = true) : decX q ws n = share1 (cnt (winB q ws n) (2^n)) (2^n) := if_pos h
theorem decX_no {q ws n} (h : goodB q ws n = false) : decX q ws n = (0, 0) := if_neg (by rw [h]; simp)
/-- A share and a truth. -/
def ShOne (x : Int × Int) (ok : Bool) (w w' : World) (e : Ending) : Prop := e = .returned (.tuple #[.agg #[.int .i64 x.1, .int .i64 x.2], .bool ok]) ∧ Below w.heap.size w w'

theorem bfromW {B : Nat} {w w1 w2 : World} (h : Below B w w1) (k : Below w1.heap.size w1 w2) (hB : B ≤ w.heap.size := by exact Nat.le_refl _) : Below B w w2 := h.trans (k.mono (Nat.le_trans hB h.size))

set_option maxRecDepth 20000 in
set_option maxHeartbeats 4000000 in
theorem decidePower_any (q : Int) (A : Option Addr) (n cap : Nat) (ws : List Int) (w : World) (hm : n ≤ 9223372036854775807) (hk : Known w A n ws) :
    Calls Try.prog 29 #[.agg #[.int .i64 q, .slice A n cap]] w fun e w' => ShOne (decX q ws n) (goodB q ws n) w w' e := by
  have HK := Lib.hid hk
  clear hk
  have hb0 : Below w.heap.size w ((w.alloc (.cells #[.int .i64 q, .slice A n cap] 28)).alloc (.cells #[.int .i64 0, .int .i64 0] 38)) := (below1 w _).alloc (by simp) _
  have hx := (Box.new w (.int .i64 q) (.slice A n cap)).alloc (.cells #[.int .i64 0, .int .i64 0] 38)
  have hr := BoxT.new 38 (w.alloc (.cells #[.int .i64 q, .slice A n cap] 28)) (.int .i64 0) (.int .i64 0)
  simp only [World.size_alloc] at hr
  by_cases hg : Vo.Good q ws n
  · obtain ⟨b, off, rfl, hsl⟩ := HK.out.get hg.lo
    have HSL := Lib.hid hsl
    have HOK := Lib.hid hg.ok
    have HGB := Lib.hid (goodB_true hg)
    have HV := Lib.hid (decX_yes HGB.out)
    have hn9 := hg.hi
    have hn10 : n < 10 := by omega
    have h512 := pow_lt hn9
    have hcl := cnt_le (winB q ws n) (2^n)
    have HLT := Lib.hid (fun W => lowestTerms_any (cnt (winB q ws n) (2^n)) (2^n) W (Nat.two_pow_pos n) (by omega) (by omega))
    have HSH := Lib.hid (show share1 (cnt (winB q ws n) (2^n)) (2^n) = (((cnt (winB q ws n) (2^n) / Nat.gcd (cnt (winB q ws n) (2^n)) (2^n) : Nat) : Int), ((2^n / Nat.gcd (cnt (winB q ws n) (2^n)) (2^n) : Nat) : Int)) from rfl)
    generalize cnt (winB q ws n) (2^n) / Nat.gcd (cnt (winB q ws n) (2^n)) (2^n) = a at *
    generalize 2^n / Nat.gcd (cnt (winB q ws n) (2^n)) (2^n) = c at *
    clear hg hsl
    go_enter Try.func29, Try.ntmps29
    go_wp2_with fail
    refine (isCommittee_any q _ n cap ws _ hm (HK.out.now hb0)).mono ?_
    rintro e w1 ⟨rfl, hb⟩
    rw [HGB.out]
    have hx1 := hx.now hb
    have hr1 := hr.now hb
    have g1 := bfrom hb0 hb
    have hs1 := Lib.hid (HSL.out.now g1)
    have hz1 : w.heap.size + 1 < w1.heap.size := hr1.lt
    have K := Lib.hid (show ∀ W, Below w1.heap.size w1 W → (W.cell? ⟨w.heap.size, 0, none⟩ = some (.int .i64 q) ∧ W.cell? ⟨w.heap.size, 1, none⟩ = some (.slice (some ⟨b, off, none⟩) n cap) ∧ W.cell? ⟨w.heap.size + 1, 0, none⟩ = some (.int .i64 0) ∧ W.cell? ⟨w.heap.size + 1, 1, none⟩ = some (.int .i64 0) ∧ W.frozen? ⟨w.heap.size + 1, 0, none⟩ = false ∧ W.frozen? ⟨w.heap.size + 1, 1, none⟩ = false) from fun W hb => ⟨(hx1.now hb).cells.1, (hx1.now hb).cells.2, (hr1.now hb).cells.1, (hr1.now hb).cells.2, (frozen2 (hr1.now hb)).1, (frozen2 (hr1.now hb)).2⟩)
    obtain ⟨c0, c1, c2, c3, c4, c5⟩ := K.out _ (Below.refl _ _)
    have cur : Below w1.heap.size w1 w1.drew := (Below.refl _ _).drew
    go_wp2_with fail
    go_region_held3 (fun w' => w'.cell? ⟨w.heap.size, 0, none⟩ = some (.int .i64 q) ∧ w'.cell? ⟨w.heap.size, 1, none⟩ = some (.slice (some ⟨b, off, none⟩) n cap) ∧ (w'.cell? ⟨w.heap.size + 1, 0, none⟩).isSome = true ∧ (w'.cell? ⟨w.heap.size + 1, 1, none⟩).isSome = true ∧ w'.frozen? ⟨w.heap.size + 1, 0, none⟩ = false ∧ w'.frozen? ⟨w.heap.size + 1, 1, none⟩ = false)
      (first | exact ⟨c0, c1, by rw [c2]; rfl, by rw [c3]; rfl, c4, c5⟩ | exact ⟨d0, d1, by rw [d2]; rfl, by rw [d3]; rfl, d4, d5⟩ | ((try dsimp only); (repeat' apply And.intro); all_goals (first | exact isSome_set (isSome_set (Option.isSome_iff_exists.2 ⟨_, d2⟩)) | exact isSome_set (isSome_set (Option.isSome_iff_exists.2 ⟨_, d3⟩)) | go_keep)) | go_keep)
      (first
        | (go_at_call 68; (first | refine (winningSets_any q b off n cap ws _ hn10 HOK.out (hs1.out.now cur)).mono ?_ | fail); rintro e wA ⟨rfl, hbA⟩; have cur := bfromW cur hbA; obtain ⟨d0, d1, d2, d3, d4, d5⟩ := K.out _ cur)
        | (go_at_call 69; refine (allSets_any _ _ n cap _ hn10).mono ?_; rintro e wB ⟨rfl, hbB⟩; have cur := bfromW cur hbB; obtain ⟨d0, d1, d2, d3, d4, d5⟩ := K.out _ cur)
        | (go_at_call 67; refine (HLT.out _).mono ?_; rintro e wC ⟨rfl, hbC⟩; have cur := bfromW cur hbC; obtain ⟨d0, d1, d2, d3, d4, d5⟩ := K.out _ cur))
    all_goals
      go_wp2
      refine bodyPost_ret (v := .tuple #[.agg #[.int .i64 a, .int .i64 c], .bool true]) (by simp [results, Try.results29, go_sem, d2, d3]) rfl ?_
      rw [HV.out, HGB.out, HSH.out]
      exact ⟨rfl, ((bfrom g1 cur).setCell (by simp) _).setCell (by simp) _⟩
  · have HGB := Lib.hid (goodB_false hg)
    have HV := Lib.hid (decX_no HGB.out)
    clear hg
    go_enter Try.func29, Try.ntmps29
    go_wp2_with fail
    refine (isCommittee_any q A n cap ws _ hm (HK.out.now hb0)).mono ?_
    rintro e w1 ⟨rfl, hb⟩
    rw [HGB.out]
    have hr1 := hr.now hb
    have g1 := bfrom hb0 hb
    obtain ⟨c0, c1⟩ := hr1.cells
    obtain ⟨f0, f1⟩ := frozen2 hr1
    clear hx hr hb0 hb
    go_wp2
    refine bodyPost_ret (v := .tuple #[.agg #[.int .i64 0, .int .i64 0], .bool false]) (by simp [results, Try.results29, go_sem, c0, c1]) rfl ?_
    rw [HV.out, HGB.out]
    exact ⟨rfl, (g1.setCell (by simp) _).setCell (by simp) _⟩

set_option maxRecDepth 20000 in
set_option maxHeartbeats 4000000 in
theorem sDecidePower_any (q : Int) (A : Option Addr) (n cap : Nat) (ws : List Int) (w : World) (hm : n ≤ 9223372036854775807) (hk : Known w A n ws) :
    Calls Try.prog 28 #[.agg #[.int .i64 q, .slice A n cap]] w fun e w' => ShOne (decX q ws n) (goodB q ws n) w w' e := by
  have HK := Lib.hid hk
  clear hk
  have hb0 : Below w.heap.size w ((w.alloc (.cells #[.int .i64 q, .slice A n cap] 28)).alloc (.cells #[.int .i64 0, .int .i64 0] 38)) := (below1 w _).alloc (by simp) _
  have hx := (Box.new w (.int .i64 q) (.slice A n cap)).alloc (.cells #[.int .i64 0, .int .i64 0] 38)
  have hr := BoxT.new 38 (w.alloc (.cells #[.int .i64 q, .slice A n cap] 28)) (.int .i64 0) (.int .i64 0)
  simp only [World.size_alloc] at hr
  by_cases hg : Vo.Good q ws n
  · obtain ⟨b, off, rfl, hsl⟩ := HK.out.get hg.lo
    have HSL := Lib.hid hsl
    have HOK := Lib.hid hg.ok
    have HGB := Lib.hid (goodB_true hg)
    have HV := Lib.hid (decX_yes HGB.out)
    have hn9 := hg.hi
    have hn10 : n < 10 := by omega
    have h512 := pow_lt hn9
    have hcl := cnt_le (winB q ws n) (2^n)
    have HLT := Lib.hid (fun W => pwShare_any (cnt (winB q ws n) (2^n)) (2^n) W (Nat.two_pow_pos n) (by omega) (by omega))
    have HSH := Lib.hid (show share1 (cnt (winB q ws n) (2^n)) (2^n) = (((cnt (winB q ws n) (2^n) / Nat.gcd (cnt (winB q ws n) (2^n)) (2^n) : Nat) : Int), ((2^n / Nat.gcd (cnt (winB q ws n) (2^n)) (2^n) : Nat) : Int)) from rfl)
    generalize cnt (winB q ws n) (2^n) / Nat.gcd (cnt (winB q ws n) (2^n)) (2^n) = a at *
    generalize 2^n / Nat.gcd (cnt (winB q ws n) (2^n)) (2^n) = c at *
    clear hg hsl
    go_enter Try.func28, Try.ntmps28
    go_wp2_with fail
    refine (voGood_any q _ n cap ws _ hm (HK.out.now hb0)).mono ?_
    rintro e w1 ⟨rfl, hb⟩
    rw [HGB.out]
    have hx1 := hx.now hb
    have hr1 := hr.now hb
    have g1 := bfrom hb0 hb
    have hs1 := Lib.hid (HSL.out.now g1)
    have hz1 : w.heap.size + 1 < w1.heap.size := hr1.lt
    obtain ⟨c0, c1⟩ := hx1.cells
    go_wp2_with (first
      | (go_at_call 53; refine (voWins_any q b off n cap ws _ hn10 HOK.out hs1.out).mono ?_; rintro e w2 ⟨g, cap2, rfl, hg, hown, hb2⟩; have HO2 := Lib.hid hown; clear hown)
      | (go_at_call 65; refine (gmCount_any (winB q ws n) n g cap2 _ hn10 HO2.out).mono ?_; rintro e w3 ⟨rfl, rfl⟩)
      | (go_at_call 64; refine (HLT.out _).mono ?_; rintro e w4 ⟨rfl, hb4⟩; have hr4 := (hr1.now hb2).now hb4; obtain ⟨d2, d3⟩ := hr4.cells; obtain ⟨f0, f1⟩ := frozen2 hr4))
    refine bodyPost_ret (v := .tuple #[.agg #[.int .i64 a, .int .i64 c], .bool true]) (by simp [results, Try.results28, go_sem, d2, d3]) rfl ?_
    rw [HV.out, HGB.out, HSH.out]
    exact ⟨rfl, ((bfrom g1 (bfrom hb2 hb4)).setCell (by simp) _).setCell (by simp) _⟩
  · have HGB := Lib.hid (goodB_false hg)
    have HV := Lib.hid (decX_no HGB.out)
    clear hg
    go_enter Try.func28, Try.ntmps28
    go_wp2_with fail
    refine (voGood_any q A n cap ws _ hm (HK.out.now hb0)).mono ?_
    rintro e w1 ⟨rfl, hb⟩
    rw [HGB.out]
    have hr1 := hr.now hb
    have g1 := bfrom hb0 hb
    obtain ⟨c0, c1⟩ := hr1.cells
    obtain ⟨f0, f1⟩ := frozen2 hr1
    clear hx hr hb0 hb
    go_wp2
    refine bodyPost_ret (v := .tuple #[.agg #[.int .i64 0, .int .i64 0], .bool false]) (by simp [results, Try.results28, go_sem, c0, c1]) rfl ?_
    rw [HV.out, HGB.out]
    exact ⟨rfl, (g1.setCell (by simp) _).setCell (by simp) _⟩
end Go.Proofs.Ytlnlkfldlgchhaa
