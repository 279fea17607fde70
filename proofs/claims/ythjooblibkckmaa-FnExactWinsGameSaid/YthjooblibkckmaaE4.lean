/- Contracts of comparing keys of sets. -/
import Derived.Test.YthjooblibkckmaaE3
import Derived.BigQuiet
namespace Go.Proofs.Ythjooblibkckmaa
open Go.RowKit Vo

def cmpZ (x y : Int) : Int := if x < y then -1 else if y < x then 1 else 0
theorem cmpZ_lt {x y : Int} (h : x < y) : cmpZ x y = -1 := if_pos h
theorem cmpZ_gt {x y : Int} (h : y < x) : cmpZ x y = 1 := by unfold cmpZ; rw [if_neg (by omega), if_pos h]
theorem cmpZ_eq (x : Int) : cmpZ x x = 0 := by unfold cmpZ; rw [if_neg (by omega), if_neg (by omega)]

set_option maxHeartbeats 1000000 in
theorem isNaN_any (x : Int) (w : World) : Calls Try.prog 153 #[.int .i64 x] w fun e w' => e = .returned (.bool false) ∧ w = w' := by
  go_enter Try.func153, Try.ntmps153
  go_wp2
  go_ret
  exact ⟨by simp, rfl⟩
set_option maxHeartbeats 1000000 in
theorem cmpCompare_any (x y : Int) (w : World) : Calls Try.prog 142 #[.int .i64 x, .int .i64 y] w fun e w' => e = .returned (.int .i64 (cmpZ x y)) ∧ w = w' := by
  rcases Int.lt_trichotomy x y with h | h | h
  · have HC := Lib.hid (cmpZ_lt h)
    go_enter Try.func142, Try.ntmps142
    go_wp2_with (go_at_call 153; refine (isNaN_any _ _).mono ?_; rintro e w' ⟨rfl, rfl⟩)
    go_ret
    exact ⟨by rw [HC.out]; rfl, rfl⟩
  · subst h
    have HC := Lib.hid (cmpZ_eq x)
    go_enter Try.func142, Try.ntmps142
    go_wp2_with (go_at_call 153; refine (isNaN_any _ _).mono ?_; rintro e w' ⟨rfl, rfl⟩)
    go_ret
    exact ⟨by rw [HC.out]; rfl, rfl⟩
  · have HC := Lib.hid (cmpZ_gt h)
    have h2 : ¬ x < y := by omega
    go_enter Try.func142, Try.ntmps142
    go_wp2_with (go_at_call 153; refine (isNaN_any _ _).mono ?_; rintro e w' ⟨rfl, rfl⟩)
    go_ret
    exact ⟨by rw [HC.out]; rfl, rfl⟩

set_option maxRecDepth 20000 in
set_option maxHeartbeats 2000000 in
theorem slicesCompare_any (s t g g2 : Nat) (ty ty2 : TypeId) (w : World) (hs : Own w g ty 9 (fun j => .int .i64 (keyAt s j))) (ht : Own w g2 ty2 9 (fun j => .int .i64 (keyAt t j))) :
    Calls Try.prog 139 #[.slice (some ⟨g, 0, none⟩) 9 9, .slice (some ⟨g2, 0, none⟩) 9 9] w fun e w' => e = .returned (.int .i64 (ordC s t)) ∧ w = w' := by
  have HS := Lib.hid hs
  have HT := Lib.hid ht
  clear hs ht
  go_enter Try.func139, Try.ntmps139
  go_wp2_with fail
  go_loop [5, 6, 7, 8, 11] (fun _ _ _ _ i => ∃ k : Nat, k ≤ 9 ∧ i = .int .i64 k ∧ ∀ j, j < k → keyAt s j = keyAt t j) (fun _ _ _ _ i => 9 - (intOf i).toNat)
  case atStart => exact ⟨0, by omega, rfl, fun j hj => by omega⟩
  case round =>
    obtain ⟨k, hk, rfl, hp⟩ := hrel
    have HP := Lib.hid hp
    clear hp
    by_cases hlt : k < 9
    · have h1 := HS.out.cell hlt
      have h2 := HT.out.cell hlt
      have hlt' : (k : Int) < 9 := by omega
      have hnge : ¬ (9 : Int) ≤ k := by omega
      rcases Int.lt_trichotomy (keyAt s k) (keyAt t k) with h | h | h
      · have HC := Lib.hid (cmpZ_lt h)
        have HO := Lib.hid (ordC_lt HP.out h)
        clear h
        generalize keyAt s k = x at *
        generalize keyAt t k = y at *
        go_wp2_with (go_at_call 142; refine (cmpCompare_any _ _ _).mono ?_; rintro e w' ⟨rfl, rfl⟩; rw [HC.out])
        go_ret
        exact ⟨by rw [HO.out]; rfl, rfl⟩
      · have HP2 := Lib.hid (show ∀ j, j < k + 1 → keyAt s j = keyAt t j from fun j hj => by
          by_cases e : j = k
          · subst e; exact h
          · exact HP.out j (by omega))
        rw [h] at h1
        have HC := Lib.hid (cmpZ_eq (keyAt t k))
        clear h
        generalize keyAt t k = y at *
        go_wp2_with (go_at_call 142; refine (cmpCompare_any _ _ _).mono ?_; rintro e w' ⟨rfl, rfl⟩; rw [HC.out])
        go_round
        case rel => exact ⟨k + 1, by omega, by go_num, HP2.out⟩
        case measure => simp [intOf]; omega
      · have HC := Lib.hid (cmpZ_gt h)
        have HO := Lib.hid (ordC_gt HP.out h)
        clear h
        generalize keyAt s k = x at *
        generalize keyAt t k = y at *
        go_wp2_with (go_at_call 142; refine (cmpCompare_any _ _ _).mono ?_; rintro e w' ⟨rfl, rfl⟩; rw [HC.out])
        go_ret
        exact ⟨by rw [HO.out]; rfl, rfl⟩
    · obtain rfl : k = 9 := by omega
      have HO := Lib.hid (ordC_eq HP.out)
      go_wp2
      go_ret
      exact ⟨by rw [HO.out]; rfl, rfl⟩

theorem sliceAll (g : Nat) (W : World) : (Instr.sliceAt 116 (.pointer (some ⟨g, 0, none⟩)) none none none).run Try.prog W = .ok (.slice (some ⟨g, 0, none⟩) 9 9) W := by
  kernel_rfl

set_option maxRecDepth 20000 in
set_option maxHeartbeats 2000000 in
theorem compareSets_any (s t : Nat) (w : World) (hs : s < 512) (ht : t < 512) :
    Calls Try.prog 132 #[.int .u64 s, .int .u64 t] w fun e w' => e = .returned (.int .i64 (ordC s t)) ∧ Grew w w' := by
  go_enter Try.func132, Try.ntmps132
  go_wp2_with fail
  refine (key_any s _ hs).mono ?_
  rintro e w1 ⟨rfl, h1⟩
  have H1 := Lib.hid h1
  clear h1
  go_wp2_with fail
  refine (key_any t _ ht).mono ?_
  rintro e w2 ⟨rfl, h2⟩
  have H2 := Lib.hid (H1.out.trans h2)
  clear h2
  unfold keyV
  go_wp2_with fail
  have hS : Own ((w2.alloc (Obj.cells #[.int .i64 (keyAt s 0), .int .i64 (keyAt s 1), .int .i64 (keyAt s 2), .int .i64 (keyAt s 3), .int .i64 (keyAt s 4), .int .i64 (keyAt s 5), .int .i64 (keyAt s 6), .int .i64 (keyAt s 7), .int .i64 (keyAt s 8)] 116)).alloc (Obj.cells #[.int .i64 (keyAt t 0), .int .i64 (keyAt t 1), .int .i64 (keyAt t 2), .int .i64 (keyAt t 3), .int .i64 (keyAt t 4), .int .i64 (keyAt t 5), .int .i64 (keyAt t 6), .int .i64 (keyAt t 7), .int .i64 (keyAt t 8)] 116)) w2.heap.size 116 9 (fun j => .int .i64 (keyAt s j)) := Own.alloc ⟨_, heap_alloc_new w2 _, by simp, fun i hi => by
    rcases i with _ | _ | _ | _ | _ | _ | _ | _ | _ | i
    all_goals first | rfl | omega⟩ _
  have hT : Own ((w2.alloc (Obj.cells #[.int .i64 (keyAt s 0), .int .i64 (keyAt s 1), .int .i64 (keyAt s 2), .int .i64 (keyAt s 3), .int .i64 (keyAt s 4), .int .i64 (keyAt s 5), .int .i64 (keyAt s 6), .int .i64 (keyAt s 7), .int .i64 (keyAt s 8)] 116)).alloc (Obj.cells #[.int .i64 (keyAt t 0), .int .i64 (keyAt t 1), .int .i64 (keyAt t 2), .int .i64 (keyAt t 3), .int .i64 (keyAt t 4), .int .i64 (keyAt t 5), .int .i64 (keyAt t 6), .int .i64 (keyAt t 7), .int .i64 (keyAt t 8)] 116)) (w2.heap.size + 1) 116 9 (fun j => .int .i64 (keyAt t j)) := by
    have h := heap_alloc_new (w2.alloc (Obj.cells #[.int .i64 (keyAt s 0), .int .i64 (keyAt s 1), .int .i64 (keyAt s 2), .int .i64 (keyAt s 3), .int .i64 (keyAt s 4), .int .i64 (keyAt s 5), .int .i64 (keyAt s 6), .int .i64 (keyAt s 7), .int .i64 (keyAt s 8)] 116)) (Obj.cells #[.int .i64 (keyAt t 0), .int .i64 (keyAt t 1), .int .i64 (keyAt t 2), .int .i64 (keyAt t 3), .int .i64 (keyAt t 4), .int .i64 (keyAt t 5), .int .i64 (keyAt t 6), .int .i64 (keyAt t 7), .int .i64 (keyAt t 8)] 116)
    simp only [World.size_alloc] at h
    exact ⟨_, h, by simp, fun i hi => by
      rcases i with _ | _ | _ | _ | _ | _ | _ | _ | _ | i
      all_goals first | rfl | omega⟩
  have hG : Grew w ((w2.alloc (Obj.cells #[.int .i64 (keyAt s 0), .int .i64 (keyAt s 1), .int .i64 (keyAt s 2), .int .i64 (keyAt s 3), .int .i64 (keyAt s 4), .int .i64 (keyAt s 5), .int .i64 (keyAt s 6), .int .i64 (keyAt s 7), .int .i64 (keyAt s 8)] 116)).alloc (Obj.cells #[.int .i64 (keyAt t 0), .int .i64 (keyAt t 1), .int .i64 (keyAt t 2), .int .i64 (keyAt t 3), .int .i64 (keyAt t 4), .int .i64 (keyAt t 5), .int .i64 (keyAt t 6), .int .i64 (keyAt t 7), .int .i64 (keyAt t 8)] 116)) := H2.out.trans ((Grew.alloc _ _).trans (Grew.alloc _ _))
  have HS := Lib.hid hS
  have HT := Lib.hid hT
  have HG := Lib.hid hG
  clear hS hT hG
  generalize ((w2.alloc (Obj.cells #[.int .i64 (keyAt s 0), .int .i64 (keyAt s 1), .int .i64 (keyAt s 2), .int .i64 (keyAt s 3), .int .i64 (keyAt s 4), .int .i64 (keyAt s 5), .int .i64 (keyAt s 6), .int .i64 (keyAt s 7), .int .i64 (keyAt s 8)] 116)).alloc (Obj.cells #[.int .i64 (keyAt t 0), .int .i64 (keyAt t 1), .int .i64 (keyAt t 2), .int .i64 (keyAt t 3), .int .i64 (keyAt t 4), .int .i64 (keyAt t 5), .int .i64 (keyAt t 6), .int .i64 (keyAt t 7), .int .i64 (keyAt t 8)] 116)) = w3 at HS HT HG ⊢
  obtain ⟨g, hg⟩ : ∃ g, g = w2.heap.size := ⟨_, rfl⟩
  rw [← hg] at HS HT ⊢
  have h0 := HS.out.cell (i := 0) (by omega)
  have h1 := HT.out.cell (i := 0) (by omega)
  clear hg
  have hsl := sliceAll g
  have HSn := Lib.hid (show ∀ n, Own (w3.drewN n) g 116 9 (fun j => .int .i64 (keyAt s j)) from fun n => HS.out)
  have HTn := Lib.hid (show ∀ n, Own (w3.drewN n) (g + 1) 116 9 (fun j => .int .i64 (keyAt t j)) from fun n => HT.out)
  have hsl2 := sliceAll (g + 1)
  go_quiet ((go_at_call 139; exact Calls.quiet_of_same ((slicesCompare_any s t g (g + 1) _ _ _ (HSn.out _) (HTn.out _)).mono fun _ _ h => ⟨h.1, h.2.symm⟩)))
  go_wp2
  go_ret
  exact ⟨rfl, HG.out.trans (Grew.drewN _ _)⟩
end Go.Proofs.Ythjooblibkckmaa
