/- Contracts of the model's swings: lists of swings, their counts, pivots. -/
import Derived.Test.YtgilbenbaefgfaaS3
import Derived.Test.YtgilbenbaefgfaaN2
import Derived.Test.YtgilbenbaefgfaaO2
import Derived.Test.YtgilbenbaefgfaaP1
import Derived.Deep.AppendLies
import Derived.Outline
import Derived.Test.YtgilbenbaefgfaaW5
import Derived.Test.YtgilbenbaefgfaaC1
import Derived.Test.YtgilbenbaefgfaaB1
import Derived.Deep.RegionWith
namespace Go.Proofs.Ytgilbenbaefgfaa
open Go.RowKit Vo

/-- The function value (k, first, cap), called with a member, answers a number; it writes nothing that was there. -/
structure Nums (f : Nat → Nat) (k : Nat) (first cap : Array Value) (n : Nat) (w : World) : Prop where
  enters : ∀ args W, (callFunc k args).run Try.prog W = .ok (.enter k args) W
  gives : ∀ (W : World) (j : Nat), j < n → Below w.heap.size w W → Calls Try.prog k (first.push (.int .i64 j) ++ cap) W fun e W' => e = .returned (.int .i64 (f j : Nat)) ∧ Below W.heap.size W W'
theorem Nums.now {f k first cap n} {w w' : World} (h : Nums f k first cap n w) (hb : Below w.heap.size w w') : Nums f k first cap n w' :=
  ⟨h.enters, fun W j hj hb' => h.gives W j hj (bfrom hb hb')⟩
set_option maxHeartbeats 2000000 in
theorem forEachOf_any (f : Nat → Nat) (k : Nat) (first cap2 : Array Value) (n : Nat) (w : World) (hn : n < 10) (hf : Nums f k first cap2 n w) :
    Calls Try.prog 59 #[.int .i64 n, .func (.func k) first cap2] w fun e w' => IntsAt (perL f n) w w' e := by
  have HF := Lib.hid hf
  have eg := hf.enters
  clear hf
  obtain ⟨i0, hi0, hz0, hz1, hz2⟩ := infoIntParts
  go_enter Try.func59, Try.ntmps59
  go_wp2_with (first
    | (at_make; refine wpList_make_own _ rfl _ _ 36 rfl w.heap.size 3 i0 (.int .i64 0) 1 Try.underlying36 hi0 hz0 hz1 .i64 .i64 n n rfl rfl rfl (by rw [hz2]; omega) (by unfold maxLen; omega) (by simp) ?_; intro w2 hown hgrow; have b2 : Below w.heap.size w w2 := (Below.refl _ _).grown hgrow (Nat.le_refl _) (fun j hj => by cases hj); have HO2 := Lib.hid hown; clear hown hgrow)
    | fail)
  go_loopw [5, 6, 10] (fun u _ i wr => ∃ (j : Nat) (A : Option Addr) (cap : Nat), j ≤ n ∧ i = .int .i64 j ∧ u = .slice A j cap ∧ wr.ownsRow w.heap.size 3 1 (.slice A j cap) j ((perL f j).map (Value.int .i64)) ∧ Below w.heap.size w wr) (fun _ _ i _ => n - (intOf i).toNat)
  case atStart => exact ⟨0, some ⟨w.heap.size, 0, none⟩, n, Nat.zero_le _, rfl, rfl, HO2.out, b2⟩
  case round =>
    obtain ⟨j, A, cap3, hj, rfl, rfl, hown, hbr⟩ := hrel
    have HO := Lib.hid hown
    have hszr := hbr.size
    clear hown
    by_cases hlt : j < n
    · have HS := Lib.hid (perL_succ f j)
      have HB := Lib.hid hbr
      go_wp2_with (first | (go_at_fn k; refine (HF.out.gives _ j hlt HB.out).mono ?_; rintro e w5 ⟨rfl, hb5⟩; have HO5 := Lib.hid (owns_now HO.out hb5); have b5 := hbr.trans (hb5.mono hszr); have hsz5 := b5.size) | (at_builtin; refine wpList_append_lies _ rfl _ _ _ rfl w.heap.size 3 i0 _ 1 8 Try.underlying36 hi0 hz0 hz1 hz2 rfl (by decide) (.slice A j cap3) j ((perL f j).map (Value.int .i64)) rfl (HO5.out.alloc _) ⟨w5.heap.size, 0, none⟩ 1 1 [.int .i64 (f j : Nat)] rfl rfl (World.news_of_block (cs := #[.int .i64 (f j : Nat)]) (t := 3) (fr := (0, 0)) (heap_alloc_new w5 _)) (by simp [Value.oneCell']) (by omega) (by unfold maxLen; omega) (by omega) (by simp; omega) (w5.heap.size + 1) (by simp) ?_; intro gg cap4 w6 hown6 hgrow6 hat hlt6))
      have b6 : Below w.heap.size w w6 := (b5.alloc hsz5 (.cells #[.int .i64 (f j : Nat)] 3)).grown hgrow6 (by simp; omega) fun i hi => owns_le HO5.out hi
      go_roundw
      case rel => exact ⟨j + 1, some ⟨gg, 0, none⟩, cap4, by omega, by go_num, by simp, by rw [HS.out]; simpa using hown6, b6⟩
      case measure => simp [intOf]; omega
    · obtain rfl : j = n := by omega
      have HLE := Lib.hid (perL_len f j)
      go_wp2
      go_ret
      exact ⟨A, cap3, by rw [HLE.out]; rfl, by rw [HLE.out]; exact HO.out, hbr⟩

end Go.Proofs.Ytgilbenbaefgfaa

namespace Go.Proofs.Ytgilbenbaefgfaa
open Go.RowKit Vo

/-- Block g holds who wins, of all sets. -/
abbrev WinsIn (p : Nat → Bool) (n g : Nat) (w : World) : Prop := Own w g 4 (2^n) (fun j => .bool (p j))

/-- Numbers as integers. -/
def natsL (L : List Nat) : List Int := L.map fun s => ((s : Nat) : Int)
theorem natsL_len (L : List Nat) : (natsL L).length = L.length := by simp [natsL]
theorem natsL_append (L M : List Nat) : natsL (L ++ M) = natsL L ++ natsL M := by simp [natsL]
theorem swL_le (p : Nat → Bool) (k N : Nat) : (swL p k N).length ≤ N := by rw [swL_len]; exact cnt_le _ _

theorem bit_mod0 (s k : Nat) : ((s : Int) / 2 ^ k % 2 == 0) = !s.testBit k := by
  have h := bit_mod s k
  have h0 := div_nn s k
  generalize (s : Int) / 2 ^ k = x at *
  cases hb : s.testBit k
  · rw [hb] at h; simp at h ⊢; omega
  · rw [hb] at h; simp at h ⊢; omega
theorem shl_pow (k : Nat) (hk : k < 10) : wrap64 ((2 : Int) ^ k) = ((2 ^ k : Nat) : Int) := by
  have h1 : (2:Nat)^k ≤ 2^10 := Nat.pow_le_pow_right (by omega) (by omega)
  rw [show ((2 : Int) ^ k) = ((2 ^ k : Nat) : Int) from by simp]
  generalize 2 ^ k = x at *
  exact IntWalk.wrap64_in _ (by omega)

end Go.Proofs.Ytgilbenbaefgfaa
