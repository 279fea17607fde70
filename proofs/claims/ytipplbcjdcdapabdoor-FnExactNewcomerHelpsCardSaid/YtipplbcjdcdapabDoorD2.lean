/- Contract of the model's DualCommittee. -/
import Derived.Test.YtipplbcjdcdapabDoorD1
import Derived.Test.YtipplbcjdcdapabDoorS2
import Derived.Deep.AppendLies
import Derived.Deep.RegionHeld3
namespace Go.Proofs.YtipplbcjdcdapabDoor
open Go.RowKit Vo

/-- A slice in a block of the call's own that holds n integers. -/
def OwnAt (n : Nat) (ws : List Int) (w w' : World) (e : Ending) : Prop :=
  ∃ g cap, e = .returned (.slice (some ⟨g, 0, none⟩) n cap) ∧ w.heap.size ≤ g ∧ Ints w' g n ws ∧ Below w.heap.size w w'

set_option maxHeartbeats 1000000 in
theorem l1Own_any (b off n cap : Nat) (ws : List Int) (w : World) (h1 : 1 ≤ n) (h9 : n ≤ 9) (hsl : Sl w b off n ws) :
    Calls Tryd.prog 31 #[.slice (some ⟨b, off, none⟩) n cap] w fun e w' => OwnAt n ws w w' e := by
  have HSL := Lib.hid hsl
  have hbl := hsl.lt
  clear hsl
  obtain ⟨i0, hi0, hz0, hz1, hz2⟩ := info_parts infoInt
  obtain ⟨cs, hcs⟩ : ∃ cs, cs = (List.range n).map fun j => Value.int .i64 (ws.getD j 0) := ⟨_, rfl⟩
  have HCL := Lib.hid (show cs.length = n * 1 from by rw [hcs]; simp)
  have HCO := Lib.hid (show ∀ v ∈ cs, v.oneCell' = true from by rw [hcs]; intro v hv; simp at hv; obtain ⟨j, _, rfl⟩ := hv; rfl)
  have HCJ := Lib.hid (show ∀ j v, cs[j]? = some v → (w.alloc (.cells #[] 3)).cell? ((⟨b, off, none⟩ : Addr).add j) = some v from by
    intro j v hv
    rw [hcs] at hv
    rcases Nat.lt_or_ge j n with hj | hj
    · rw [List.getElem?_map, List.getElem?_range hj] at hv
      simp at hv
      have e : (⟨b, off, none⟩ : Addr).add j = ⟨b, off + j, none⟩ := by unfold Addr.add; split <;> simp_all
      rw [e, (HSL.out.alloc _).cell j hj, ← hv]; simp
    · rw [List.getElem?_eq_none (by simp; omega)] at hv; cases hv)
  have HCS := Lib.hid hcs
  clear hcs
  go_enter Tryd.func31, Tryd.ntmps31
  go_wp2_with (at_builtin; refine wpList_append_lies _ rfl _ _ _ rfl w.heap.size 3 i0 _ 1 8 Tryd.underlying22 hi0 hz0 hz1 hz2 rfl (by decide) (.slice (some ⟨w.heap.size, 0, none⟩) 0 0) 0 [] rfl (World.ownsRow_lit w #[] 0 (Nat.le_refl _) (by unfold maxLen; omega) rfl) ⟨b, off, none⟩ n cap cs rfl HCL.out HCJ.out HCO.out (by omega) (by unfold maxLen; omega) (by omega) (by simp) (w.heap.size + 1) (by simp) ?_; intro gg cap2 w4 hown4 hgrow hat hlt4)
  simp only [Nat.zero_add, List.nil_append] at hown4
  have hge : w.heap.size ≤ gg := owns_le hown4 rfl
  go_ret
  refine ⟨gg, cap2, rfl, hge, ?_, (below1 w (.cells #[] 3)).grown hgrow (by simp) fun j hj => by simp [Value.ownBlock] at hj; omega⟩
  refine Own.of_own hown4 fun i hi => ?_
  rw [HCS.out, List.getElem?_map, List.getElem?_range hi]; rfl

end Go.Proofs.YtipplbcjdcdapabDoor
