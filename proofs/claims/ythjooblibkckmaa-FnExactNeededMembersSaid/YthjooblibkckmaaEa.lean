/- Keys of sets are the same just where the sets are. -/
import Derived.Test.YthjooblibkckmaaE8
namespace Go.Proofs.Ythjooblibkckmaa
open Go.RowKit Vo

theorem eq_int (d : Nat) (a b : Int) (w : World) : (Op.equalIn (d + 1) 3 (.int .i64 a) (.int .i64 b)).run Try.prog w = .ok (a == b) w := run_equalIn_int w d 3 .i64 .i64 a b Try.underlying3
theorem part_int (xs : Array Value) (i : Nat) (a : Int) (h : xs[i]? = some (.int .i64 a)) (w : World) : (part 3 xs i).run Try.prog w = .ok (.int .i64 a) w := by
  simp [part, Try.isAgg3, h]

theorem eq_list (xs ys : Array Value) (f g : Nat → Int) (w : World) : ∀ (l : List Nat), (∀ i ∈ l, xs[i]? = some (.int .i64 (f i)) ∧ ys[i]? = some (.int .i64 (g i))) →
    (forIn l ((none, ()) : Option Bool × Unit) (fun i (_ : Option Bool × Unit) => (do
      let a ← part 3 xs (i * 1)
      let b ← part 3 ys (i * 1)
      let r ← Op.equalIn 9999 3 a b
      if (!r) = true then pure (ForInStep.done (some false, ())) else pure (ForInStep.yield (none, ())) : Sem (ForInStep (Option Bool × Unit))))).run Try.prog w = .ok (if l.all (fun i => f i == g i) then (none, ()) else (some false, ())) w
  | [], _ => by simp
  | i :: l, h => by
    obtain ⟨h1, h2⟩ := h i (by simp)
    have ih := eq_list xs ys f g w l (fun j hj => h j (by simp [hj]))
    have heq : (Op.equalIn 9999 3 (.int .i64 (f i)) (.int .i64 (g i))).run Try.prog w = .ok (f i == g i) w := eq_int 9998 (f i) (g i) w
    simp only [Nat.mul_one] at ih ⊢
    simp only [List.forIn_cons, Sem.run_bind, part_int xs i _ h1, part_int ys i _ h2, Result.andThen_ok, heq, List.all_cons]
    by_cases he : f i = g i
    · have hb : (f i == g i) = true := by simpa using he
      simp only [hb, Bool.not_true, Bool.false_eq_true, if_false, Sem.run_pure, Result.andThen_ok, Bool.true_and]
      exact ih
    · have hb : (f i == g i) = false := by simpa using he
      simp only [hb, Bool.not_false, if_true, Sem.run_pure, Result.andThen_ok, Bool.false_and, Bool.false_eq_true, if_false]
theorem keys_all {s t : Nat} (hs : s < 512) (ht : t < 512) : ([0, 1, 2, 3, 4, 5, 6, 7, 8] : List Nat).all (fun i => keyAt s i == keyAt t i) = decide (s = t) := by
  rw [Bool.eq_iff_iff, List.all_eq_true, decide_eq_true_iff]
  constructor
  · intro h
    refine keyAt_inj hs ht fun j hj => ?_
    have hj' : j = 0 ∨ j = 1 ∨ j = 2 ∨ j = 3 ∨ j = 4 ∨ j = 5 ∨ j = 6 ∨ j = 7 ∨ j = 8 := by omega
    have := h j (by simp; exact hj')
    simpa using this
  · rintro rfl i _; simp

set_option maxHeartbeats 1000000 in
theorem eq_keys {s t : Nat} (hs : s < 512) (ht : t < 512) (w : World) : (Op.equalIn 10000 116 (keyV s) (keyV t)).run Try.prog w = .ok (decide (s = t)) w := by
  have hz := Try.sizeOf3
  have hu := run_underlying Try.underlying116
  have hl := eq_list #[.int .i64 (keyAt s 0), .int .i64 (keyAt s 1), .int .i64 (keyAt s 2), .int .i64 (keyAt s 3), .int .i64 (keyAt s 4), .int .i64 (keyAt s 5), .int .i64 (keyAt s 6), .int .i64 (keyAt s 7), .int .i64 (keyAt s 8)]
    #[.int .i64 (keyAt t 0), .int .i64 (keyAt t 1), .int .i64 (keyAt t 2), .int .i64 (keyAt t 3), .int .i64 (keyAt t 4), .int .i64 (keyAt t 5), .int .i64 (keyAt t 6), .int .i64 (keyAt t 7), .int .i64 (keyAt t 8)] (keyAt s) (keyAt t) w [0, 1, 2, 3, 4, 5, 6, 7, 8] (fun i hi => by
      simp at hi
      rcases hi with rfl | rfl | rfl | rfl | rfl | rfl | rfl | rfl | rfl <;> exact ⟨rfl, rfl⟩)
  rw [keys_all hs ht] at hl
  unfold keyV
  rw [show (10000 : Nat) = 9999 + 1 from rfl]
  unfold Op.equalIn
  simp only [Sem.run_bind, hu, Result.andThen_ok, hz]
  simp only [Std.Legacy.Range.forIn_eq_forIn_range', Std.Legacy.Range.size, List.range']
  refine (congrArg (fun r => Result.andThen r _) hl).trans ?_
  cases decide (s = t) <;> rfl

/-- The test that the program makes. -/
theorem neq_keys {s t : Nat} (hs : s < 512) (ht : t < 512) (w : World) : (binOp .neq 116 (keyV s) (keyV t)).run Try.prog w = .ok (.bool (!decide (s = t))) w := by
  have h := eq_keys hs ht w
  unfold keyV at h ⊢
  rw [run_neq_struct, h]
  rfl
end Go.Proofs.Ythjooblibkckmaa
