/- Contracts of the program's AddMember and GiveWeight. -/
import Derived.Test.YtipplbcjdcdapabDoorWc
import Derived.Test.YtipplbcjdcdapabDoorN13
import Derived.Test.YtipplbcjdcdapabDoorMh
import Derived.Outline
namespace Go.Proofs.YtipplbcjdcdapabDoor
open Go.RowKit Vo

/-- The quota, and how many members, of an answer that may be none. -/
def qIf (ok : Bool) (q : Int) : Int := if ok then q else 0
def nIf (ok : Bool) (n : Nat) : Nat := if ok then n else 0
theorem nIf_le {ok : Bool} {n : Nat} (h : ok = true → n ≤ 9) : nIf ok n ≤ 9 := by
  cases ok with
  | false => simp [nIf]
  | true => simpa [nIf] using h rfl
theorem ComAt.fail {w w' : World} {Q : Int} {m : Nat} {L : List Int} (hb : Below w.heap.size w w') : ComAt (qIf false Q) (nIf false m) L false w w' (.returned (.tuple #[.agg #[.int .i64 0, .slice none 0 0], .bool false])) :=
  ⟨none, 0, rfl, Or.inl ⟨rfl, rfl⟩, hb⟩

end Go.Proofs.YtipplbcjdcdapabDoor

namespace Go.Proofs.YtipplbcjdcdapabDoor
open Go.RowKit Vo

set_option maxRecDepth 20000 in
set_option maxHeartbeats 2000000 in
theorem addMember_any (q : Int) (A : Option Addr) (n cap : Nat) (ws : List Int) (x : Int) (w : World) (hm : n ≤ 9223372036854775807) (hk : Known w A n ws) (_hx : (Lit.int .i64 x).wf = true) :
    Calls Tryd.prog 19 #[.agg #[.int .i64 q, .slice A n cap], .int .i64 x] w fun e w' => ComAt (addQ q q ws n x) (addN q q ws n x) (addL ws n x) (addOk q q ws n x) w w' e := by
  have HK := Lib.hid hk
  clear hk
  have hb0 : Below w.heap.size w ((w.alloc (.cells #[.int .i64 q, .slice A n cap] 28)).alloc (.cells #[.int .i64 0, .slice none 0 0] 28)) := (below1 w _).alloc (by simp) _
  have hx := (Box.new w (.int .i64 q) (.slice A n cap)).alloc (.cells #[.int .i64 0, .slice none 0 0] 28)
  have hr := Box.new (w.alloc (.cells #[.int .i64 q, .slice A n cap] 28)) (.int .i64 0) (.slice none 0 0)
  simp only [World.size_alloc] at hr
  have KF := Lib.hid (show ∀ W, BoxT 28 W (w.heap.size + 1) (.int .i64 0) (.slice none 0 0) → (W.frozen? ⟨w.heap.size + 1, 0, none⟩ = false ∧ W.frozen? ⟨w.heap.size + 1, 1, none⟩ = false) from fun W h => by unfold BoxT at h; exact ⟨by simp [World.frozen?, h], by simp [World.frozen?, h]⟩)
  by_cases hg : Vo.Good q ws n
  · obtain ⟨b, off, rfl, hsl⟩ := HK.out.get hg.lo
    have HSL := Lib.hid hsl
    have HG := Lib.hid hg
    have HGB := Lib.hid (goodB_true hg)
    have hn9 := hg.hi
    have hn1 := hg.lo
    have hn10 : n < 10 := by omega
    clear hg hsl
    rw [addQ_good HGB.out, addN_good HGB.out, addOk_good HGB.out]
    go_enter Tryd.func19, Tryd.ntmps19
    go_wp2_with fail
    refine (isCommittee_any q _ n cap ws _ hm (HK.out.now hb0)).mono ?_
    rintro e w1 ⟨rfl, hb1⟩
    rw [HGB.out]
    have g1 := bfrom hb0 hb1
    have hr1 := hr.now hb1
    obtain ⟨c0, c1⟩ := (hx.now hb1).cells
    clear hr hb0 hb1 hx
    go_wp2_with fail
    refine (withMember_any q q x b off n cap ws w1 hn1 hn9 (HSL.out.now g1)).mono ?_
    rintro e w2 ⟨A2, cap2, rfl, hh2, hb2⟩
    have HH2 := Lib.hid hh2
    have g2 := bfrom g1 hb2
    have hr2 := hr1.now hb2
    have hz1 := hr1.lt
    obtain ⟨d0, d1⟩ := hr2.cells
    obtain ⟨f0, f1⟩ := KF.out _ hr2
    clear c0 c1 hh2
    go_wp2
    refine bodyPost_ret (v := .tuple #[.agg #[.int .i64 (moreQ q ws n x), .slice A2 (moreN q ws n x) cap2], .bool (moreOk q ws n x)]) (by simp [results, Tryd.results19, go_sem, d0, d1]) rfl ?_
    exact ⟨_, _, rfl, held_far HH2.out (by have := g1.size; omega) (by simpa using hz1) (by simpa using hz1), (g2.setCell (by simp) _).setCell (by simp) _⟩
  · have HGB := Lib.hid (goodB_false hg)
    have HQ := Lib.hid (addQ_no (q' := q) (x := x) (goodB_false hg))
    clear hg
    go_enter Tryd.func19, Tryd.ntmps19
    go_wp2_with fail
    refine (isCommittee_any q A n cap ws _ hm (HK.out.now hb0)).mono ?_
    rintro e w1 ⟨rfl, hb1⟩
    rw [HGB.out]
    have g1 := bfrom hb0 hb1
    have hr1 := hr.now hb1
    obtain ⟨c0, c1⟩ := hr1.cells
    obtain ⟨f0, f1⟩ := KF.out _ hr1
    clear hr hb0 hb1 hx
    go_wp2
    refine bodyPost_ret (v := .tuple #[.agg #[.int .i64 0, .slice none 0 0], .bool false]) (by simp [results, Tryd.results19, go_sem, c0, c1]) rfl ?_
    rw [HQ.out, addN_no HGB.out, addOk_no HGB.out]
    exact ⟨_, _, rfl, Or.inl ⟨rfl, rfl⟩, (g1.setCell (by simp) _).setCell (by simp) _⟩
/-- The weights when i has given x to j. -/
def giveL (ws : List Int) (n i j : Nat) (x : Int) : List Int := (List.range n).map fun k => if k = j then ws.getD k 0 + x else if k = i then ws.getD k 0 - x else ws.getD k 0
theorem giveL_at {ws : List Int} {n i j k : Nat} {x : Int} (h : k < n) : (giveL ws n i j x).getD k 0 = if k = j then ws.getD k 0 + x else if k = i then ws.getD k 0 - x else ws.getD k 0 := by
  simp [giveL, List.getD_eq_getElem?_getD, h]
theorem giveL_len (ws : List Int) (n i j : Nat) (x : Int) : (giveL ws n i j x).length = n := by simp [giveL]
/-- May the first member named give the second so much? -/
def giveAsk (q : Int) (ws : List Int) (n : Nat) (x y z : Int) : Bool := memOk q ws n x && memOk q ws n y && !(x == y) && inB z 0 (ws.getD x.toNat 0)
def giveOk (q : Int) (ws : List Int) (n : Nat) (x y z : Int) : Bool := giveAsk q ws n x y z && goodB q (giveL ws n x.toNat y.toNat z) n
theorem giveAsk_parts {q ws n x y z} (h : giveAsk q ws n x y z = true) : Vo.Good q ws n ∧ (0 ≤ x ∧ x < n) ∧ (0 ≤ y ∧ y < n) ∧ x ≠ y ∧ 0 ≤ z ∧ z ≤ ws.getD x.toNat 0 := by
  unfold giveAsk at h
  simp at h
  obtain ⟨⟨⟨h1, h2⟩, h3⟩, h4⟩ := h
  have a := memOk_parts h1
  have b := memOk_parts h2
  unfold inB at h4
  simp at h4
  exact ⟨a.1, a.2, b.2, h3, h4.1, h4.2⟩
theorem giveN_le (q : Int) (ws : List Int) (n : Nat) (x y z : Int) : nIf (giveOk q ws n x y z) n ≤ 9 := nIf_le fun h => by
  unfold giveOk at h
  simp at h
  exact (giveAsk_parts h.1).1.hi
end Go.Proofs.YtipplbcjdcdapabDoor
