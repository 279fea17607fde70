/- Contracts of the program's swings: who swings, how many swings, numbers of all members. -/
import Derived.Test.YtlofjccapglhgabW5
import Derived.Test.YtlofjccapglhgabN2
import Derived.Test.YtlofjccapglhgabO2
import Derived.Test.YtlofjccapglhgabC1
import Derived.Test.YtlofjccapglhgabP1
import Derived.Deep.AppendLies
import Derived.Deep.RegionWith
import Derived.Outline
namespace Go.Proofs.Ytlofjccapglhgab
open Go.RowKit Vo

set_option maxHeartbeats 1000000 in
theorem isSwing_any (q : Int) (b off n cap : Nat) (ws : List Int) (s k : Nat) (w : World) (hn : n < 10) (hs : s < 2^n) (hk : k < n) (hok : InK 0 1000 ws n) (hsl : Sl w b off n ws) :
    Calls Try.prog 142 #[.agg #[.int .i64 q, .slice (some ⟨b, off, none⟩) n cap], .int .u64 s, .int .i64 k] w fun e w' => e = .returned (.bool (swP (winB q ws n) k s)) ∧ Below w.heap.size w w' := by
  have HOK := Lib.hid hok
  have HSL := Lib.hid hsl
  have h512 : s < 512 := by have := pow_lt (n := n) (by omega); omega
  have hor : s ||| 2^k < 512 := by have := pow_lt (n := n) (by omega); have := or_pow_lt hs hk; omega
  have HP := Lib.hid (show swP (winB q ws n) k s = (!s.testBit k && (!decide (q ≤ wtK ws s n) && decide (q ≤ wtK ws (s ||| 2^k) n))) from rfl)
  clear hok hsl
  have hx := Box.new w (.int .i64 q) (.slice (some ⟨b, off, none⟩) n cap)
  have hb0 := below1 w (.cells #[.int .i64 q, .slice (some ⟨b, off, none⟩) n cap] 28)
  cases ht : s.testBit k
  · cases hd : (!decide (q ≤ wtK ws s n))
    · have HT := Lib.hid ht
      have HD := Lib.hid hd
      clear ht hd
      go_enter Try.func142, Try.ntmps142
      go_wp2_with fail
      first
        | (go_region_with (first
            | (go_at_call 45; refine (has_any s k _ (by omega) h512).mono ?_; rintro e w0 ⟨rfl, rfl⟩; rw [HT.out])
            | (go_at_call 76; refine (loses_any q b off n cap ws s _ hn h512 HOK.out ((HSL.out.alloc _).drew)).mono ?_; rintro e w1 ⟨rfl, hb⟩; rw [HD.out])))
        | fail
      all_goals
        go_wp2
        go_ret
        exact ⟨by rw [HP.out, HT.out, HD.out]; rfl, bfrom hb0.drew hb⟩
    · have HT := Lib.hid ht
      have HD := Lib.hid hd
      clear ht hd
      go_enter Try.func142, Try.ntmps142
      go_wp2_with fail
      go_region_held3 (fun w' => w'.cell? ⟨w.heap.size, 0, none⟩ = some (.int .i64 q) ∧ w'.cell? ⟨w.heap.size, 1, none⟩ = some (.slice (some ⟨b, off, none⟩) n cap))
        (first | exact hc | exact hc3 | exact hx.cells | go_keep)
        (first
          | (go_at_call 45; refine (has_any s k _ (by omega) h512).mono ?_; rintro e w0 ⟨rfl, rfl⟩; rw [HT.out])
          | (go_at_call 76; refine (loses_any q b off n cap ws s _ hn h512 HOK.out ((HSL.out.alloc _).drew)).mono ?_; rintro e w1 ⟨rfl, hb⟩; rw [HD.out]; have hc := (hx.drew.now hb).cells)
          | (go_at_call 46; refine (with_any s k _ (by omega) h512).mono ?_; rintro e w2 ⟨rfl, rfl⟩)
          | (go_at_call 88; refine (wins_any q b off n cap ws (s ||| 2^k) _ hn hor HOK.out (((HSL.out.alloc _).drew).now hb)).mono ?_; rintro e w3 ⟨rfl, hb3⟩; have hc3 := ((hx.drew.now hb).now hb3).cells))
      all_goals
        go_wp2
        go_ret
        exact ⟨by rw [HP.out, HT.out, HD.out]; simp, bfrom hb0.drew (bfrom hb hb3)⟩
  · have HT := Lib.hid ht
    clear ht
    go_enter Try.func142, Try.ntmps142
    go_wp2_with fail
    go_quiet ((go_at_call 45; exact Calls.quiet_of_same ((has_any s k _ (by omega) h512).mono fun _ _ h => ⟨by rw [h.1, HT.out], h.2.symm⟩)))
    go_wp2
    go_ret
    exact ⟨by rw [HP.out, HT.out]; simp, below_drewN hb0 _⟩

/-- The function value (k, first, cap), called with a member, answers a number; it writes nothing that was there. -/
structure Nums (f : Nat → Nat) (k : Nat) (first cap : Array Value) (n : Nat) (w : World) : Prop where
  enters : ∀ args W, (callFunc k args).run Try.prog W = .ok (.enter k args) W
  gives : ∀ (W : World) (j : Nat), j < n → Below w.heap.size w W → Calls Try.prog k (first.push (.int .i64 j) ++ cap) W fun e W' => e = .returned (.int .i64 (f j : Nat)) ∧ Below W.heap.size W W'
theorem Nums.now {f k first cap n} {w w' : World} (h : Nums f k first cap n w) (hb : Below w.heap.size w w') : Nums f k first cap n w' :=
  ⟨h.enters, fun W j hj hb' => h.gives W j hj (bfrom hb hb')⟩
set_option maxHeartbeats 2000000 in
theorem forEachMember_any (f : Nat → Nat) (k : Nat) (first cap2 : Array Value) (q : Int) (A : Option Addr) (n cap : Nat) (w : World) (hn : n < 10) (hf : Nums f k first cap2 n w) :
    Calls Try.prog 105 #[.agg #[.int .i64 q, .slice A n cap], .func (.func k) first cap2] w fun e w' => IntsAt (perL f n) w w' e := by
  have HF := Lib.hid hf
  have eg := hf.enters
  clear hf
  obtain ⟨i0, hi0, hz0, hz1, hz2⟩ := infoIntParts
  have hx := Box.new w (.int .i64 q) (.slice A n cap)
  have hb0 := below1 w (.cells #[.int .i64 q, .slice A n cap] 28)
  go_enter Try.func105, Try.ntmps105
  go_wp2_with fail
  refine (members_any _ _ n cap _).mono ?_
  rintro e w1 ⟨rfl, hb1⟩
  have hx1 := hx.now hb1
  have g1 := bfrom hb0 hb1
  have hz1' : w.heap.size + 1 ≤ w1.heap.size := by have := hb1.size; simpa using this
  go_wp2_with (first
    | (at_make; refine wpList_make_own _ rfl _ _ 22 rfl w1.heap.size 3 i0 (.int .i64 0) 1 Try.underlying22 hi0 hz0 hz1 .i64 .i64 n n rfl rfl rfl (by rw [hz2]; omega) (by unfold maxLen; omega) (by simp) ?_; intro w2 hown hgrow; have b2 : Below w1.heap.size w1 w2 := (Below.refl _ _).grown hgrow (Nat.le_refl _) (fun j hj => by cases hj); have hx2 := hx1.now b2; have hz2' := b2.size; have HO2 := Lib.hid hown; clear hown hgrow; obtain ⟨c0, c1⟩ := hx2.cells)
    | (go_at_call 41; refine (members_any _ _ n cap _).mono ?_; rintro e w3 ⟨rfl, hb3⟩))
  have b3 := b2.trans (hb3.mono hz2')
  have HO3 := Lib.hid (owns_now HO2.out hb3)
  go_loopw [5, 6, 12] (fun u _ i wr => ∃ (j : Nat) (A : Option Addr) (cap : Nat), j ≤ n ∧ i = .int .i64 j ∧ u = .slice A j cap ∧ wr.ownsRow w1.heap.size 3 1 (.slice A j cap) j ((perL f j).map (Value.int .i64)) ∧ Below w1.heap.size w1 wr) (fun _ _ i _ => n - (intOf i).toNat)
  case atStart => exact ⟨0, some ⟨w1.heap.size, 0, none⟩, n, Nat.zero_le _, rfl, rfl, HO3.out, b3⟩
  case round =>
    obtain ⟨j, A, cap3, hj, rfl, rfl, hown, hbr⟩ := hrel
    have HO := Lib.hid hown
    have hszr := hbr.size
    clear hown
    by_cases hlt : j < n
    · have HS := Lib.hid (perL_succ f j)
      have HB := Lib.hid (bfrom g1 hbr)
      go_wp2_with (first | (go_at_fn k; refine (HF.out.gives _ j hlt HB.out).mono ?_; rintro e w5 ⟨rfl, hb5⟩; have HO5 := Lib.hid (owns_now HO.out hb5); have b5 := hbr.trans (hb5.mono hszr); have hsz5 := b5.size) | (at_builtin; refine wpList_append_lies _ rfl _ _ _ rfl w1.heap.size 3 i0 _ 1 8 Try.underlying22 hi0 hz0 hz1 hz2 rfl (by decide) (.slice A j cap3) j ((perL f j).map (Value.int .i64)) rfl (HO5.out.alloc _) ⟨w5.heap.size, 0, none⟩ 1 1 [.int .i64 (f j : Nat)] rfl rfl (World.news_of_block (cs := #[.int .i64 (f j : Nat)]) (t := 3) (fr := (0, 0)) (heap_alloc_new w5 _)) (by simp [Value.oneCell']) (by omega) (by unfold maxLen; omega) (by omega) (by simp; omega) (w5.heap.size + 1) (by simp) ?_; intro gg cap4 w6 hown6 hgrow6 hat hlt6))
      have b6 : Below w1.heap.size w1 w6 := (b5.alloc hsz5 (.cells #[.int .i64 (f j : Nat)] 3)).grown hgrow6 (by simp; omega) fun i hi => owns_le HO5.out hi
      go_roundw
      case rel => exact ⟨j + 1, some ⟨gg, 0, none⟩, cap4, by omega, by go_num, by simp, by rw [HS.out]; simpa using hown6, b6⟩
      case measure => simp [intOf]; omega
    · obtain rfl : j = n := by omega
      have HLE := Lib.hid (perL_len f j)
      have hle : w.heap.size ≤ w1.heap.size := by omega
      go_wp2
      go_ret
      exact ⟨A, cap3, by rw [HLE.out]; rfl, by rw [HLE.out]; exact owns_less HO.out hle, bfrom g1 hbr⟩

end Go.Proofs.Ytlofjccapglhgab
