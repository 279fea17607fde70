/- Contract of the given model's list of a set's members. -/
import Derived.Test.YtibmaofcnibjnaaS1
import Derived.Deep.AppendLies
import Derived.Test.YtibmaofcnibjnaaBase
import Derived.Laws.BitsAllLaws
import Derived.Lib.Hide
namespace Go.Proofs.Ytibmaofcnibjnaa
open Go.RowKit Vo

def ones1 (x : Int) : Int := IntKind.u64.wrap (bits .and .u64 (x / 2) 6148914691236517205 + bits .and .u64 x 6148914691236517205)
def ones2 (y : Int) : Int := IntKind.u64.wrap (bits .and .u64 (y / 4) 3689348814741910323 + bits .and .u64 y 3689348814741910323)
def ones3 (z : Int) : Int := bits .and .u64 (IntKind.u64.wrap (z / 16 + z)) 1085102592571150095
def ones4 (a : Int) : Int := IntKind.u64.wrap (a + a / 256)
def ones5 (b : Int) : Int := IntKind.u64.wrap (b + b / 65536)
def ones6 (c : Int) : Int := IntKind.u64.wrap (c + c / 4294967296)
def ones7 (c : Int) : Int := bits .and .i64 (wrap64 c) 127
theorem ones_all : ∀ s : Nat, s < 512 → ones7 (ones6 (ones5 (ones4 (ones3 (ones2 (ones1 (s : Int))))))) = ((mem s 9).length : Nat) := by
  decide +kernel

set_option maxHeartbeats 1000000 in
theorem onesCount64_any (s : Nat) (w : World) (hs : s < 512) :
    Calls Try.prog 107 #[.int .u64 s] w fun e w' => e = .returned (.int .i64 ((mem s 9).length : Nat)) ∧ w = w' := by
  go_enter Try.func107, Try.ntmps107
  go_wp2
  go_ret
  refine ⟨ret_int ?_, rfl⟩
  exact ones_all s hs

set_option maxHeartbeats 1000000 in
theorem onesCount_any (s : Nat) (w : World) (hs : s < 512) :
    Calls Try.prog 98 #[.int .u64 s] w fun e w' => e = .returned (.int .i64 ((mem s 9).length : Nat)) ∧ w = w' := by
  go_enter Try.func98, Try.ntmps98
  go_wp2_with (go_at_call 107; refine (onesCount64_any s _ hs).mono ?_; rintro e w' ⟨rfl, rfl⟩)
  go_ret
  exact ⟨rfl, rfl⟩

set_option maxHeartbeats 1000000 in
theorem size_any (s : Nat) (w : World) (hs : s < 512) :
    Calls Try.prog 83 #[.int .u64 s] w fun e w' => e = .returned (.int .i64 ((mem s 9).length : Nat)) ∧ w = w' := by
  go_enter Try.func83, Try.ntmps83
  go_wp2_with (go_at_call 98; refine (onesCount_any s _ hs).mono ?_; rintro e w' ⟨rfl, rfl⟩)
  go_ret
  exact ⟨rfl, rfl⟩
end Go.Proofs.Ytibmaofcnibjnaa

namespace Go.Proofs.Ytibmaofcnibjnaa
open Go.RowKit Vo

theorem infoIntParts : ∃ i, Try.prog.info? 3 = some i ∧ i.zero = some (.int .i64 0) ∧ i.size = 1 ∧ i.bytes = 8 := by
  obtain ⟨i, h, h0, h1, h2⟩ := info_parts infoInt
  exact ⟨i, h, h0, h1, h2⟩

/-- A slice of the call's own that holds these integers. -/
def IntsAt (xs : List Int) (w w' : World) (e : Ending) : Prop :=
  ∃ A cap, e = .returned (.slice A xs.length cap) ∧ w'.ownsRow w.heap.size 3 1 (.slice A xs.length cap) xs.length (xs.map (Value.int .i64)) ∧ Below w.heap.size w w'

theorem mem_step (s k : Nat) : mem s (k+1) = mem s k ++ if s.testBit k then [(k : Int)] else [] := rfl
theorem mem_step1 {s k : Nat} (h : s.testBit k = true) : mem s (k+1) = mem s k ++ [(k : Int)] := by rw [mem_step, h]; rfl
theorem mem_step0 {s k : Nat} (h : s.testBit k = false) : mem s (k+1) = mem s k := by rw [mem_step, h]; simp

set_option maxRecDepth 20000 in
set_option maxHeartbeats 2000000 in
theorem voList_any (s : Nat) (w : World) (hs : s < 512) :
    Calls Try.prog 85 #[.int .i64 s] w fun e w' => IntsAt (mem s 9) w w' e := by
  obtain ⟨i0, hi0, hz0, hz1, hz2⟩ := infoIntParts
  go_enter Try.func85, Try.ntmps85
  go_wp2
  go_loopw [3, 4] (fun v i wr => ∃ (k : Nat) (A : Option Addr) (cap : Nat), k ≤ 9 ∧ i = .int .i64 k ∧ v = .slice A (mem s k).length cap ∧ wr.ownsRow w.heap.size 3 1 (.slice A (mem s k).length cap) (mem s k).length ((mem s k).map (Value.int .i64)) ∧ Below w.heap.size w wr) (fun _ i _ => 9 - (intOf i).toNat)
  case atStart => exact ⟨0, none, 0, by omega, rfl, rfl, World.ownsRow_nil _ _ _ _, Below.refl _ _⟩
  case round =>
    obtain ⟨k, A, cap, hk, rfl, rfl, hown, hb⟩ := hrel
    have HO := Lib.hid hown
    clear hown
    have hlen := mem_len s k
    have hsz := hb.size
    by_cases hgt : 0 < s / 2^k
    · have hk9 : k < 9 := by
        rcases Nat.lt_or_ge k 9 with h | h
        · exact h
        · exfalso
          have : s / 2^k = 0 := Nat.div_eq_of_lt (Nat.lt_of_lt_of_le hs (by have : (2:Nat)^9 ≤ 2^k := Nat.pow_le_pow_right (by omega) h; omega))
          omega
      have hgt2 : (0 : Int) < (s : Int) / 2^k := by
        rw [show ((s : Int) / 2 ^ k) = ((s / 2 ^ k : Nat) : Int) from by simp]; omega
      have hnn := div_nn s k
      have hbm := bit_mod s k
      clear hgt
      cases hbit : s.testBit k
      · rw [hbit] at hbm
        have HS := Lib.hid (mem_step0 hbit)
        clear hbit
        go_wp2
        go_roundw
        case rel => exact ⟨k + 1, A, cap, by omega, by go_num, by rw [HS.out], by rw [HS.out]; exact HO.out, hb⟩
        case measure => simp [intOf]; omega
      · rw [hbit] at hbm
        have HS := Lib.hid (mem_step1 hbit)
        clear hbit
        obtain ⟨m, hm⟩ : ∃ m, m = (mem s k).length := ⟨_, rfl⟩
        have HM := Lib.hid hm
        rw [← hm] at hlen HO ⊢
        clear hm
        go_wp2_with (at_builtin; refine wpList_append_lies _ rfl _ _ _ rfl w.heap.size 3 i0 _ 1 8 Try.underlying22 hi0 hz0 hz1 hz2 rfl (by decide) (.slice A m cap) m ((mem s k).map (Value.int .i64)) rfl (HO.out.alloc _) ⟨wr.heap.size, 0, none⟩ 1 1 [.int .i64 k] rfl rfl (World.news_of_block (cs := #[.int .i64 k]) (t := 3) (fr := (0, 0)) (heap_alloc_new wr _)) (by simp [Value.oneCell']) (by omega) (by unfold maxLen; omega) (by omega) (by simp; omega) (wr.heap.size + 1) (by simp) ?_; intro gg cap2 w4 hown4 hgrow hat hlt4)
        have hb4 : Below w.heap.size w w4 := (hb.alloc hsz (.cells #[.int .i64 k] 3)).grown hgrow (by simp; omega) fun j hj => owns_le HO.out hj
        go_roundw
        case rel => exact ⟨k + 1, some ⟨gg, 0, none⟩, cap2, by omega, by go_num, by rw [HS.out, HM.out]; simp, by rw [HS.out]; simpa [HM.out] using hown4, hb4⟩
        case measure => simp [intOf]; omega
    · have hz : (s : Int) / 2^k = 0 := by
        have e0 : s / 2^k = 0 := by generalize s / 2^k = z at *; omega
        rw [show ((s : Int) / 2 ^ k) = ((s / 2 ^ k : Nat) : Int) from by simp, e0]; rfl
      have hlt : s < 2^k := by
        rcases Nat.lt_or_ge s (2^k) with h | h
        · exact h
        · exfalso; have := Nat.div_pos h (Nat.two_pow_pos k); omega
      have HS := Lib.hid (mem_stop hlt hk)
      clear hgt hlt
      go_wp2
      go_ret
      exact ⟨A, cap, by rw [HS.out]; rfl, by rw [HS.out]; exact HO.out, hb⟩
end Go.Proofs.Ytibmaofcnibjnaa
