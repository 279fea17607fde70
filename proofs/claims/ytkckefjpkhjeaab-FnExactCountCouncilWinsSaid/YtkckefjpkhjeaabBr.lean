/- Contracts of the program's councils: read, their games and powers. -/
import Derived.Test.YtkckefjpkhjeaabBq
import Derived.Test.YtkckefjpkhjeaabBh
import Derived.Test.YtkckefjpkhjeaabN2
import Derived.Test.YtkckefjpkhjeaabN8
namespace Go.Proofs.Ytkckefjpkhjeaab
open Go.RowKit Vo

theorem put3 {t : TypeId} {w : World} {g : Nat} {x y z : Value} (h : w.heap[g]? = some (.cells #[x, y, z] t (0, 0))) (a b c : Value) : (((w.setCell ⟨g, 0, none⟩ a).setCell ⟨g, 1, none⟩ b).setCell ⟨g, 2, none⟩ c).heap[g]? = some (.cells #[a, b, c] t (0, 0)) := by
  simp [World.setCell, Array.getElem?_modify, h]
theorem cells3 {t : TypeId} {w : World} {g : Nat} {a b c : Value} (h : w.heap[g]? = some (.cells #[a, b, c] t (0, 0))) : w.cell? ⟨g, 0, none⟩ = some a ∧ w.cell? ⟨g, 1, none⟩ = some b ∧ w.cell? ⟨g, 2, none⟩ = some c ∧ w.frozen? ⟨g, 0, none⟩ = false ∧ w.frozen? ⟨g, 1, none⟩ = false ∧ w.frozen? ⟨g, 2, none⟩ = false := by
  exact ⟨by simp [World.cell?, h], by simp [World.cell?, h], by simp [World.cell?, h], by simp [World.frozen?, h], by simp [World.frozen?, h], by simp [World.frozen?, h]⟩

set_option maxRecDepth 20000 in
set_option maxHeartbeats 2000000 in
theorem readCouncil_yes (q : Int) (A : Option Addr) (n cap : Nat) (ws : List Int) (A2 : Option Addr) (k cp : Nat) (C : List (Int × List Int)) (w : World) (hm : n ≤ 9223372036854775807) (hk : Known w A n ws) (hm2 : k ≤ 9223372036854775807) (hk2 : KCS w A2 k C) (hc : cnB q ws n C = true) :
    Calls Try.prog 54 #[.agg #[.int .i64 q, .slice A n cap], .slice A2 k cp] w fun e w' => e = .returned (.tuple #[.agg #[.int .i64 q, .slice A n cap, .slice A2 k cp], .bool true]) ∧ Below w.heap.size w w' := by
  have HC := Lib.hid hc
  have hb0 : Below w.heap.size w ((w.alloc (.cells #[.int .i64 q, .slice A n cap] 43)).alloc (.cells #[.int .i64 0, .slice none 0 0, .slice none 0 0] 77)) := (below1 w _).alloc (by simp) _
  have hx := (Box.new w (.int .i64 q) (.slice A n cap)).alloc (.cells #[.int .i64 0, .slice none 0 0, .slice none 0 0] 77)
  have hr := heap_alloc_new (w.alloc (.cells #[.int .i64 q, .slice A n cap] 43)) (.cells #[.int .i64 0, .slice none 0 0, .slice none 0 0] 77)
  simp only [World.size_alloc] at hr
  have HAC := Lib.hid (iAreCouncil_any q A n cap ws A2 k cp C _ hm (hk.now hb0) hm2 (hk2.now hb0))
  obtain ⟨c0, c1⟩ := hx.cells
  clear hk hk2 hc
  go_enter Try.func54, Try.ntmps54
  go_wp2_with fail
  refine HAC.out.mono ?_
  rintro e w1 ⟨rfl, hb1⟩
  rw [HC.out]
  have g1 := bfrom hb0 hb1
  obtain ⟨d0, d1⟩ := (hx.now hb1).cells
  have hr1 : w1.heap[w.heap.size + 1]? = some (.cells #[.int .i64 0, .slice none 0 0, .slice none 0 0] 77 (0, 0)) := (hb1.block (w.heap.size + 1) (by simp)).trans hr
  obtain ⟨e0, e1, e2, f0, f1, f2⟩ := cells3 hr1
  clear hx hr c0 c1
  go_wp2
  have hr3 := put3 hr1 (.int .i64 q) (.slice A n cap) (.slice A2 k cp)
  obtain ⟨p0, p1, p2, _⟩ := cells3 hr3
  refine bodyPost_ret (v := .tuple #[.agg #[.int .i64 q, .slice A n cap, .slice A2 k cp], .bool true]) (by simp [results, Try.results54, go_sem, p0, p1, p2]) rfl ⟨rfl, ?_⟩
  exact ((g1.setCell (by simp) _).setCell (by simp) _).setCell (by simp) _

set_option maxRecDepth 20000 in
set_option maxHeartbeats 2000000 in
theorem readCouncil_no (q : Int) (A : Option Addr) (n cap : Nat) (ws : List Int) (A2 : Option Addr) (k cp : Nat) (C : List (Int × List Int)) (w : World) (hm : n ≤ 9223372036854775807) (hk : Known w A n ws) (hm2 : k ≤ 9223372036854775807) (hk2 : KCS w A2 k C) (hc : cnB q ws n C = false) :
    Calls Try.prog 54 #[.agg #[.int .i64 q, .slice A n cap], .slice A2 k cp] w fun e w' => e = .returned (.tuple #[.agg #[.int .i64 0, .slice none 0 0, .slice none 0 0], .bool false]) ∧ Below w.heap.size w w' := by
  have HC := Lib.hid hc
  have hb0 : Below w.heap.size w ((w.alloc (.cells #[.int .i64 q, .slice A n cap] 43)).alloc (.cells #[.int .i64 0, .slice none 0 0, .slice none 0 0] 77)) := (below1 w _).alloc (by simp) _
  have hx := (Box.new w (.int .i64 q) (.slice A n cap)).alloc (.cells #[.int .i64 0, .slice none 0 0, .slice none 0 0] 77)
  have hr := heap_alloc_new (w.alloc (.cells #[.int .i64 q, .slice A n cap] 43)) (.cells #[.int .i64 0, .slice none 0 0, .slice none 0 0] 77)
  simp only [World.size_alloc] at hr
  have HAC := Lib.hid (iAreCouncil_any q A n cap ws A2 k cp C _ hm (hk.now hb0) hm2 (hk2.now hb0))
  obtain ⟨c0, c1⟩ := hx.cells
  clear hk hk2 hc
  go_enter Try.func54, Try.ntmps54
  go_wp2_with fail
  refine HAC.out.mono ?_
  rintro e w1 ⟨rfl, hb1⟩
  rw [HC.out]
  have g1 := bfrom hb0 hb1
  have hr1 : w1.heap[w.heap.size + 1]? = some (.cells #[.int .i64 0, .slice none 0 0, .slice none 0 0] 77 (0, 0)) := (hb1.block (w.heap.size + 1) (by simp)).trans hr
  obtain ⟨e0, e1, e2, f0, f1, f2⟩ := cells3 hr1
  clear hx hr c0 c1
  go_wp2
  have hr3 := put3 hr1 (.int .i64 0) (.slice none 0 0) (.slice none 0 0)
  obtain ⟨p0, p1, p2, _⟩ := cells3 hr3
  refine bodyPost_ret (v := .tuple #[.agg #[.int .i64 0, .slice none 0 0, .slice none 0 0], .bool false]) (by simp [results, Try.results54, go_sem, p0, p1, p2]) rfl ⟨rfl, ?_⟩
  exact ((g1.setCell (by simp) _).setCell (by simp) _).setCell (by simp) _

theorem council_of {q : Int} {A A2 : Option Addr} {n k : Nat} {ws : List Int} {C : List (Int × List Int)} {w : World} (hk : Known w A n ws) (hk2 : KCS w A2 k C) (hc : cnB q ws n C = true) : k = n ∧ Council q A n ws A2 C w := by
  obtain ⟨h1, h2, h3, h4⟩ := cnB_parts hc
  have hkn : k = n := by rw [← hk2.1, h2]
  subst hkn
  exact ⟨rfl, hk, hk2, h1, h4, h3⟩

end Go.Proofs.Ytkckefjpkhjeaab
