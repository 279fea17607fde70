/- Contract of the given model's list of a set's members. -/
import Derived.Test.YtipplbcjdcdapabDoorS1
import Derived.Deep.AppendLies
import Derived.Test.YtipplbcjdcdapabDoorBase
import Derived.Laws.BitsAllLaws
import Derived.Lib.Hide
namespace Go.Proofs.YtipplbcjdcdapabDoor
open Go.RowKit Vo

def ones1 (x : Int) : Int := IntKind.u64.wrap (bits .and .u64 (x / 2) 6148914691236517205 + bits .and .u64 x 6148914691236517205)
def ones2 (y : Int) : Int := IntKind.u64.wrap (bits .and .u64 (y / 4) 3689348814741910323 + bits .and .u64 y 3689348814741910323)
def ones3 (z : Int) : Int := bits .and .u64 (IntKind.u64.wrap (z / 16 + z)) 1085102592571150095
def ones4 (a : Int) : Int := IntKind.u64.wrap (a + a / 256)
def ones5 (b : Int) : Int := IntKind.u64.wrap (b + b / 65536)
def ones6 (c : Int) : Int := IntKind.u64.wrap (c + c / 4294967296)
def ones7 (c : Int) : Int := bits .and .i64 (wrap64 c) 127
theorem ones_all : ∀ s : Nat, s < 512 → ones7 (ones6 (ones5 (ones4 (ones3 (ones2 (ones1 (s : Int))))))) = ((mem s 9).length : Nat) := by
  decide +kernel

set_option maxHeartbeats 1000000 in
theorem onesCount64_any (s : Nat) (w : World) (hs : s < 512) :
    Calls Tryd.prog 73 #[.int .u64 s] w fun e w' => e = .returned (.int .i64 ((mem s 9).length : Nat)) ∧ w = w' := by
  go_enter Tryd.func73, Tryd.ntmps73
  go_wp2
  go_ret
  refine ⟨ret_int ?_, rfl⟩
  exact ones_all s hs

set_option maxHeartbeats 1000000 in
theorem onesCount_any (s : Nat) (w : World) (hs : s < 512) :
    Calls Tryd.prog 71 #[.int .u64 s] w fun e w' => e = .returned (.int .i64 ((mem s 9).length : Nat)) ∧ w = w' := by
  go_enter Tryd.func71, Tryd.ntmps71
  go_wp2_with (go_at_call 73; refine (onesCount64_any s _ hs).mono ?_; rintro e w' ⟨rfl, rfl⟩)
  go_ret
  exact ⟨rfl, rfl⟩

set_option maxHeartbeats 1000000 in
theorem size_any (s : Nat) (w : World) (hs : s < 512) :
    Calls Tryd.prog 60 #[.int .u64 s] w fun e w' => e = .returned (.int .i64 ((mem s 9).length : Nat)) ∧ w = w' := by
  go_enter Tryd.func60, Tryd.ntmps60
  go_wp2_with (go_at_call 71; refine (onesCount_any s _ hs).mono ?_; rintro e w' ⟨rfl, rfl⟩)
  go_ret
  exact ⟨rfl, rfl⟩
end Go.Proofs.YtipplbcjdcdapabDoor

namespace Go.Proofs.YtipplbcjdcdapabDoor
open Go.RowKit Vo

theorem infoIntParts : ∃ i, Tryd.prog.info? 3 = some i ∧ i.zero = some (.int .i64 0) ∧ i.size = 1 ∧ i.bytes = 8 := by
  obtain ⟨i, h, h0, h1, h2⟩ := info_parts infoInt
  exact ⟨i, h, h0, h1, h2⟩

/-- A slice of the call's own that holds these integers. -/
def IntsAt (xs : List Int) (w w' : World) (e : Ending) : Prop :=
  ∃ A cap, e = .returned (.slice A xs.length cap) ∧ w'.ownsRow w.heap.size 3 1 (.slice A xs.length cap) xs.length (xs.map (Value.int .i64)) ∧ Below w.heap.size w w'

theorem mem_step (s k : Nat) : mem s (k+1) = mem s k ++ if s.testBit k then [(k : Int)] else [] := rfl
theorem mem_step1 {s k : Nat} (h : s.testBit k = true) : mem s (k+1) = mem s k ++ [(k : Int)] := by rw [mem_step, h]; rfl
theorem mem_step0 {s k : Nat} (h : s.testBit k = false) : mem s (k+1) = mem s k := by rw [mem_step, h]; simp

end Go.Proofs.YtipplbcjdcdapabDoor
