/- Contracts of the given model: who wins, of all sets; how many win; proper and strong committees. -/
import Derived.Test.YtibmaofcnibjnaaS2
import Derived.Test.YtibmaofcnibjnaaW5
import Derived.Deep.AppendLies
namespace Go.Proofs.Ytibmaofcnibjnaa
open Go.RowKit Vo

set_option maxHeartbeats 400000 in
theorem voAll_any (n : Nat) (w : World) (hn : n < 10) : Calls Try.prog 87 #[.int .i64 n] w fun e w' => e = .returned (.int .i64 ((2^n - 1 : Nat) : Int)) ∧ w = w' := by
  go_enter Try.func87, Try.ntmps87
  go_wp2
  go_ret
  refine ⟨ret_int ?_, rfl⟩
  have h512 := pow_lt (n := n) (by omega)
  have hpos := Nat.two_pow_pos n
  rw [show ((2:Int) ^ n) = ((2 ^ n : Nat) : Int) from by simp]
  generalize 2^n = N at *
  first | (rw [IntWalk.wrap64_in _ (by omega), IntWalk.wrap64_in _ (by omega)]; omega) | (rw [IntWalk.wrap64_in (N : Int) (by omega)]; rw [IntWalk.wrap64_in _ (by omega)]; omega)

/-- Who wins, of the first k sets. -/
def winsL (q : Int) (ws : List Int) (n k : Nat) : List Value := (List.range k).map fun j => Value.bool (winB q ws n j)
theorem winsL_succ (q : Int) (ws : List Int) (n k : Nat) : winsL q ws n (k+1) = winsL q ws n k ++ [.bool (winB q ws n k)] := by simp [winsL, List.range_succ]

def WinsAt (q : Int) (ws : List Int) (n : Nat) (w w' : World) (e : Ending) : Prop :=
  ∃ g cap, e = .returned (.slice (some ⟨g, 0, none⟩) (2^n : Nat) cap) ∧ w.heap.size ≤ g ∧ Own w' g 4 (2^n) (fun j => .bool (winB q ws n j)) ∧ Below w.heap.size w w'

set_option maxRecDepth 20000 in
set_option maxHeartbeats 2000000 in
theorem voWins_any (q : Int) (b off n cap : Nat) (ws : List Int) (w : World) (hn : n < 10) (hok : InK 0 1000 ws n) (hsl : Sl w b off n ws) :
    Calls Try.prog 58 #[.agg #[.int .i64 q, .slice (some ⟨b, off, none⟩) n cap]] w fun e w' => WinsAt q ws n w w' e := by
  have HOK := Lib.hid hok
  have HSL := Lib.hid hsl
  clear hok hsl
  have h512 := pow_lt (n := n) (by omega)
  have hpos := Nat.two_pow_pos n
  obtain ⟨N, hN⟩ : ∃ N, N = 2^n := ⟨_, rfl⟩
  have HE := Lib.hid (show ((2^n - 1 : Nat) : Int) = (N : Int) - 1 from by omega)
  rw [← hN] at h512 hpos
  have HN2 := Lib.hid hN
  clear hN
  have hx0 := Box.new w (.int .i64 q) (.slice (some ⟨b, off, none⟩) n cap)
  have hb0 := below1 w (.cells #[.int .i64 q, .slice (some ⟨b, off, none⟩) n cap] 24)
  obtain ⟨i0, hi0, hz0, hz1, hz2⟩ := info_parts infoBool
  go_enter Try.func58, Try.ntmps58
  go_wp2_with fail
  go_loopw [3, 4] (fun v i wr => ∃ k : Nat, k ≤ N ∧ i = .int .i64 k ∧ wr.ownsRow (w.heap.size + 1) 4 1 v k (winsL q ws n k) ∧ Box wr w.heap.size (.int .i64 q) (.slice (some ⟨b, off, none⟩) n cap) ∧ w.heap.size + 1 ≤ wr.heap.size ∧ Below w.heap.size w wr) (fun _ i _ => N - (intOf i).toNat)
  case atStart => exact ⟨0, Nat.zero_le _, rfl, World.ownsRow_nil _ _ _ _, hx0, by simp, hb0⟩
  case round =>
    obtain ⟨k, hk, rfl, hown, hx, hsz, hb⟩ := hrel
    have HO := Lib.hid hown
    clear hown
    obtain ⟨hc0, hc1⟩ := hx.cells
    go_wp2_with fail
    refine (voAll_any n _ hn).mono ?_
    rintro e w1 ⟨rfl, rfl⟩
    rw [HE.out]
    by_cases hlt : k < N
    · have hlt2 : (k : Int) ≤ (N : Int) - 1 := by omega
      have hs1 := Lib.hid ((HSL.out.now hb).drew)
      go_wp2_with fail
      go_region_held3 (fun w' => w'.cell? ⟨w.heap.size, 0, none⟩ = some (.int .i64 q) ∧ w'.cell? ⟨w.heap.size, 1, none⟩ = some (.slice (some ⟨b, off, none⟩) n cap))
        (first | go_keep | exact hd | exact hd2)
        (first
          | (go_at_call 43; refine (voWeight_any _ b off n cap ws k _ hn (by omega) HOK.out hs1.out).mono ?_; rintro e w2 ⟨rfl, hb2⟩; have hd := (hx.drew.now hb2).cells)
          | (refine step_append_lies _ (by rfl) _ _ _ (by rfl) (w.heap.size + 1) 4 i0 _ 1 1 Try.underlying70 hi0 hz0 hz1 hz2 rfl (by omega) u3 k (winsL q ws n k) (by rfl) ((owns_now (World.ownsRow.drew HO.out) hb2).alloc _)
              ⟨w2.heap.size, 0, none⟩ 1 1 [.bool (winB q ws n k)] (by rfl) (by rfl) (World.news_of_block (cs := #[.bool (winB q ws n k)]) (t := 4) (fr := (0, 0)) (heap_alloc_new w2 _)) (by simp [Value.oneCell'])
              (by omega) (by unfold maxLen; omega) (by omega) (by have := hb2.size; simp at this ⊢; omega) (w2.heap.size + 1) (by simp) ?_; intro gg cap2 w4 hown4 hgrow hat hlt4; have hd2 := (((hx.drew.now hb2).alloc _).grown hgrow (owns_ne HO.out (by omega))).cells))
      have hx4 := ((hx.drew.now hb2).alloc (.cells #[.bool (winB q ws n k)] 4)).grown hgrow (owns_ne HO.out (by omega))
      have hsz4 : w.heap.size + 1 ≤ w4.heap.size := by have := hb2.size; have := hgrow.size; simp at *; omega
      have hb4 : Below w.heap.size w w4 := by
        refine (((hb.drew).trans (hb2.mono (by simp; omega))).alloc (by have := hb2.size; simp at this; omega) (.cells #[.bool (winB q ws n k)] 4)).grown hgrow (by have := hb2.size; simp at this ⊢; omega) fun j hj => by have := owns_le HO.out hj; omega
      have hown5 := Lib.hid (show w4.ownsRow (w.heap.size + 1) 4 1 (.slice (some ⟨gg, 0, none⟩) (k + 1) cap2) (k + 1) (winsL q ws n (k + 1)) from by rw [winsL_succ]; exact hown4)
      clear hown4 hgrow hat hd hd2 hb2
      go_wp2
      go_roundw
      case rel => exact ⟨k + 1, by omega, by go_num, hown5.out, hx4, hsz4, hb4⟩
      case measure => simp [intOf]; omega
    · obtain rfl : k = N := by omega
      have hlt2 : ¬ (k : Int) ≤ (k : Int) - 1 := by omega
      go_wp2
      go_ret
      obtain ⟨g, cap2, rfl, hg, _, _⟩ := owns_head HO.out hpos
      refine ⟨g, cap2, by rw [← HN2.out]; rfl, by omega, ?_, hb⟩
      rw [← HN2.out]
      refine Own.of_own HO.out fun i hi => ?_
      simp [winsL, hi]

end Go.Proofs.Ytibmaofcnibjnaa
