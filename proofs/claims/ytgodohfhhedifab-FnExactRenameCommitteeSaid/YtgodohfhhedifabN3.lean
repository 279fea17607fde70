/- Contracts of the program's swings: who swings, how many swings, numbers of all members. -/
import Derived.Test.YtgodohfhhedifabW5
import Derived.Test.YtgodohfhhedifabN2
import Derived.Test.YtgodohfhhedifabO2
import Derived.Test.YtgodohfhhedifabC1
import Derived.Test.YtgodohfhhedifabP1
import Derived.Deep.AppendLies
import Derived.Deep.RegionWith
import Derived.Outline
namespace Go.Proofs.Ytgodohfhhedifab
open Go.RowKit Vo

set_option maxHeartbeats 1000000 in
theorem isSwing_any (q : Int) (b off n cap : Nat) (ws : List Int) (s k : Nat) (w : World) (hn : n < 10) (hs : s < 2^n) (hk : k < n) (hok : InK 0 1000 ws n) (hsl : Sl w b off n ws) :
    Calls Try.prog 78 #[.agg #[.int .i64 q, .slice (some ⟨b, off, none⟩) n cap], .int .u64 s, .int .i64 k] w fun e w' => e = .returned (.bool (swP (winB q ws n) k s)) ∧ Below w.heap.size w w' := by
  have HOK := Lib.hid hok
  have HSL := Lib.hid hsl
  have h512 : s < 512 := by have := pow_lt (n := n) (by omega); omega
  have hor : s ||| 2^k < 512 := by have := pow_lt (n := n) (by omega); have := or_pow_lt hs hk; omega
  have HP := Lib.hid (show swP (winB q ws n) k s = (!s.testBit k && (!decide (q ≤ wtK ws s n) && decide (q ≤ wtK ws (s ||| 2^k) n))) from rfl)
  clear hok hsl
  have hx := Box.new w (.int .i64 q) (.slice (some ⟨b, off, none⟩) n cap)
  have hb0 := below1 w (.cells #[.int .i64 q, .slice (some ⟨b, off, none⟩) n cap] 28)
  cases ht : s.testBit k
  · cases hd : (!decide (q ≤ wtK ws s n))
    · have HT := Lib.hid ht
      have HD := Lib.hid hd
      clear ht hd
      go_enter Try.func78, Try.ntmps78
      go_wp2_with fail
      first
        | (go_region_with (first
            | (go_at_call 94; refine (has_any s k _ (by omega) h512).mono ?_; rintro e w0 ⟨rfl, rfl⟩; rw [HT.out])
            | (go_at_call 64; refine (loses_any q b off n cap ws s _ hn h512 HOK.out ((HSL.out.alloc _).drew)).mono ?_; rintro e w1 ⟨rfl, hb⟩; rw [HD.out])))
        | fail
      all_goals
        go_wp2
        go_ret
        exact ⟨by rw [HP.out, HT.out, HD.out]; rfl, bfrom hb0.drew hb⟩
    · have HT := Lib.hid ht
      have HD := Lib.hid hd
      clear ht hd
      go_enter Try.func78, Try.ntmps78
      go_wp2_with fail
      go_region_held3 (fun w' => w'.cell? ⟨w.heap.size, 0, none⟩ = some (.int .i64 q) ∧ w'.cell? ⟨w.heap.size, 1, none⟩ = some (.slice (some ⟨b, off, none⟩) n cap))
        (first | exact hc | exact hc3 | exact hx.cells | go_keep)
        (first
          | (go_at_call 94; refine (has_any s k _ (by omega) h512).mono ?_; rintro e w0 ⟨rfl, rfl⟩; rw [HT.out])
          | (go_at_call 64; refine (loses_any q b off n cap ws s _ hn h512 HOK.out ((HSL.out.alloc _).drew)).mono ?_; rintro e w1 ⟨rfl, hb⟩; rw [HD.out]; have hc := (hx.drew.now hb).cells)
          | (go_at_call 79; refine (with_any s k _ (by omega) h512).mono ?_; rintro e w2 ⟨rfl, rfl⟩)
          | (go_at_call 58; refine (wins_any q b off n cap ws (s ||| 2^k) _ hn hor HOK.out (((HSL.out.alloc _).drew).now hb)).mono ?_; rintro e w3 ⟨rfl, hb3⟩; have hc3 := ((hx.drew.now hb).now hb3).cells))
      all_goals
        go_wp2
        go_ret
        exact ⟨by rw [HP.out, HT.out, HD.out]; simp, bfrom hb0.drew (bfrom hb hb3)⟩
  · have HT := Lib.hid ht
    clear ht
    go_enter Try.func78, Try.ntmps78
    go_wp2_with fail
    go_quiet ((go_at_call 94; exact Calls.quiet_of_same ((has_any s k _ (by omega) h512).mono fun _ _ h => ⟨by rw [h.1, HT.out], h.2.symm⟩)))
    go_wp2
    go_ret
    exact ⟨by rw [HP.out, HT.out]; simp, below_drewN hb0 _⟩

/-- The function value (k, first, cap), called with a member, answers a number; it writes nothing that was there. -/
structure Nums (f : Nat → Nat) (k : Nat) (first cap : Array Value) (n : Nat) (w : World) : Prop where
  enters : ∀ args W, (callFunc k args).run Try.prog W = .ok (.enter k args) W
  gives : ∀ (W : World) (j : Nat), j < n → Below w.heap.size w W → Calls Try.prog k (first.push (.int .i64 j) ++ cap) W fun e W' => e = .returned (.int .i64 (f j : Nat)) ∧ Below W.heap.size W W'
theorem Nums.now {f k first cap n} {w w' : World} (h : Nums f k first cap n w) (hb : Below w.heap.size w w') : Nums f k first cap n w' :=
  ⟨h.enters, fun W j hj hb' => h.gives W j hj (bfrom hb hb')⟩
end Go.Proofs.Ytgodohfhhedifab
