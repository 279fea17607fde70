/- Contract of the library's count of ones, of small numbers. -/
import Derived.Test.YthjooblibkckmaaBase
import Derived.Laws.BitsAllLaws
import Derived.Lib.Hide
namespace Go.Proofs.Ythjooblibkckmaa
open Go.RowKit Vo

def ones1 (x : Int) : Int := IntKind.u64.wrap (bits .and .u64 (x / 2) 6148914691236517205 + bits .and .u64 x 6148914691236517205)
def ones2 (y : Int) : Int := IntKind.u64.wrap (bits .and .u64 (y / 4) 3689348814741910323 + bits .and .u64 y 3689348814741910323)
def ones3 (z : Int) : Int := bits .and .u64 (IntKind.u64.wrap (z / 16 + z)) 1085102592571150095
def ones4 (a : Int) : Int := IntKind.u64.wrap (a + a / 256)
def ones5 (b : Int) : Int := IntKind.u64.wrap (b + b / 65536)
def ones6 (c : Int) : Int := IntKind.u64.wrap (c + c / 4294967296)
def ones7 (c : Int) : Int := bits .and .i64 (wrap64 c) 127
theorem ones_all : ∀ s : Nat, s < 512 → ones7 (ones6 (ones5 (ones4 (ones3 (ones2 (ones1 (s : Int))))))) = ((mem s 9).length : Nat) := by
  decide +kernel

set_option maxHeartbeats 1000000 in
theorem onesCount64_any (s : Nat) (w : World) (hs : s < 512) :
    Calls Try.prog 136 #[.int .u64 s] w fun e w' => e = .returned (.int .i64 ((mem s 9).length : Nat)) ∧ w = w' := by
  go_enter Try.func136, Try.ntmps136
  go_wp2
  go_ret
  refine ⟨ret_int ?_, rfl⟩
  exact ones_all s hs

set_option maxHeartbeats 1000000 in
theorem onesCount_any (s : Nat) (w : World) (hs : s < 512) :
    Calls Try.prog 127 #[.int .u64 s] w fun e w' => e = .returned (.int .i64 ((mem s 9).length : Nat)) ∧ w = w' := by
  go_enter Try.func127, Try.ntmps127
  go_wp2_with (go_at_call 136; refine (onesCount64_any s _ hs).mono ?_; rintro e w' ⟨rfl, rfl⟩)
  go_ret
  exact ⟨rfl, rfl⟩

set_option maxHeartbeats 1000000 in
theorem size_any (s : Nat) (w : World) (hs : s < 512) :
    Calls Try.prog 113 #[.int .u64 s] w fun e w' => e = .returned (.int .i64 ((mem s 9).length : Nat)) ∧ w = w' := by
  go_enter Try.func113, Try.ntmps113
  go_wp2_with (go_at_call 127; refine (onesCount_any s _ hs).mono ?_; rintro e w' ⟨rfl, rfl⟩)
  go_ret
  exact ⟨rfl, rfl⟩
end Go.Proofs.Ythjooblibkckmaa
