/- The walk of the exact law of CompareShares. -/
import Derived.Test.YtgodohfhhedifabQ2
import Derived.Deep.RegionHeld3
import Derived.Outline
namespace Go.Proofs.Ytgodohfhhedifab
open Go.RowKit Vo

set_option maxHeartbeats 4000000 in
theorem lawCompareShares (x y u v : Int) (w : World) :
    Calls Try.prog 12 #[.agg #[.int .i64 x, .int .i64 y], .agg #[.int .i64 u, .int .i64 v]] w fun e w' => e = .returned (.bool true) ∧ Below w.heap.size w w' := by
  have hb0 : Below w.heap.size w ((w.alloc (.cells #[.int .i64 x, .int .i64 y] 52)).alloc (.cells #[.int .i64 u, .int .i64 v] 52)) := (below1 w _).alloc (by simp) _
  have ha := (BoxT.new 52 w (.int .i64 x) (.int .i64 y)).alloc (.cells #[.int .i64 u, .int .i64 v] 52)
  have hb := BoxT.new 52 (w.alloc (.cells #[.int .i64 x, .int .i64 y] 52)) (.int .i64 u) (.int .i64 v)
  simp only [World.size_alloc] at hb
  obtain ⟨W0, hW0⟩ : ∃ W0, W0 = (w.alloc (.cells #[.int .i64 x, .int .i64 y] 52)).alloc (.cells #[.int .i64 u, .int .i64 v] 52) := ⟨_, rfl⟩
  rw [← hW0] at hb0 ha hb
  have HW0 := Lib.hid hW0
  clear hW0
  have K := Lib.hid (show ∀ W, Below W0.heap.size W0 W → (W.cell? ⟨w.heap.size, 0, none⟩ = some (.int .i64 x) ∧ W.cell? ⟨w.heap.size, 1, none⟩ = some (.int .i64 y) ∧ W.cell? ⟨w.heap.size + 1, 0, none⟩ = some (.int .i64 u) ∧ W.cell? ⟨w.heap.size + 1, 1, none⟩ = some (.int .i64 v)) from fun W h => ⟨(ha.now h).cells.1, (ha.now h).cells.2, (hb.now h).cells.1, (hb.now h).cells.2⟩)
  obtain ⟨r, hr⟩ : ∃ r, r = cmpR x y u v := ⟨_, rfl⟩
  obtain ⟨ok, hok⟩ : ∃ ok, ok = cmpOk x y u v := ⟨_, rfl⟩
  have HR := Lib.hid hr
  have HO := Lib.hid hok
  clear ha hb hr hok
  go_enter Try.func12, Try.ntmps12
  go_wp2_with fail
  rw [← HW0.out]
  have cur : Below W0.heap.size W0 W0.drew := (Below.refl _ _).drew
  obtain ⟨c0, c1, c2, c3⟩ := K.out _ (Below.refl _ W0)
  go_region_held3 (fun w' => w'.cell? ⟨w.heap.size, 0, none⟩ = some (.int .i64 x) ∧ w'.cell? ⟨w.heap.size, 1, none⟩ = some (.int .i64 y) ∧ w'.cell? ⟨w.heap.size + 1, 0, none⟩ = some (.int .i64 u) ∧ w'.cell? ⟨w.heap.size + 1, 1, none⟩ = some (.int .i64 v))
    (first | exact ⟨c0, c1, c2, c3⟩ | exact K.out _ cur | go_keep)
    (first
      | (go_at_call 45; (with_reducible refine (toShare_any x y _).mono ?_); rintro e wA ⟨rfl, hbA⟩; have cur := cur.trans (hbA.mono cur.size); clear hbA)
      | (go_at_call 45; (with_reducible refine (toShare_any u v _).mono ?_); rintro e wB ⟨rfl, hbB⟩; have cur := cur.trans (hbB.mono cur.size); clear hbB)
      | (go_at_call 44; (with_reducible refine (sCompareShares_any x y u v _).mono ?_); rw [← HR.out, ← HO.out]; rintro e wC ⟨rfl, hbC⟩; have cur := cur.trans (hbC.mono cur.size); clear hbC))
  all_goals
    obtain ⟨e0, e1, e2, e3⟩ := K.out _ cur
    have curD := cur.drew
    clear cur c0 c1 c2 c3
    go_wp2_with fail
    go_region_held3 (fun w' => w'.cell? ⟨w.heap.size, 0, none⟩ = some (.int .i64 x) ∧ w'.cell? ⟨w.heap.size, 1, none⟩ = some (.int .i64 y) ∧ w'.cell? ⟨w.heap.size + 1, 0, none⟩ = some (.int .i64 u) ∧ w'.cell? ⟨w.heap.size + 1, 1, none⟩ = some (.int .i64 v))
      (first | exact ⟨e0, e1, e2, e3⟩ | exact K.out _ curD | go_keep)
      (first
        | (go_at_call 45; (with_reducible refine (toShare_any x y _).mono ?_); rintro e wD ⟨rfl, hbD⟩; have curD := curD.trans (hbD.mono curD.size); clear hbD)
        | (go_at_call 45; (with_reducible refine (toShare_any u v _).mono ?_); rintro e wE ⟨rfl, hbE⟩; have curD := curD.trans (hbE.mono curD.size); clear hbE)
        | (go_at_call 46; (with_reducible refine (compareShares_any x y u v _).mono ?_); rw [← HR.out, ← HO.out]; rintro e wF ⟨rfl, hbF⟩; have curD := curD.trans (hbF.mono curD.size); clear hbF))
    all_goals
      go_wp2
      go_ret
      exact ⟨rfl, bfrom hb0 curD⟩
end Go.Proofs.Ytgodohfhhedifab
