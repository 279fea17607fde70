/- Stretches of a list, as values; the model's l1Own. -/
import Derived.Test.YtipplbcjdcdapabDoorBase
import Derived.Maps.AppendAt
import Derived.Lib.Hide
import Derived.Deep.AppendLies
import Derived.Outline
namespace Go.Proofs.YtipplbcjdcdapabDoor
open Go.RowKit Vo

/-- The integers of a stretch, as values. -/
def cut (ws : List Int) (a k : Nat) : List Value := (List.range k).map fun j => Value.int .i64 (ws.getD (a + j) 0)
theorem cut_len (ws : List Int) (a k : Nat) : (cut ws a k).length = k := by simp [cut]
theorem cut_one (ws : List Int) (a k : Nat) : ∀ v ∈ cut ws a k, v.oneCell' = true := by intro v hv; simp [cut] at hv; obtain ⟨j, _, rfl⟩ := hv; rfl
theorem cut_cells {w : World} {b off n : Nat} {ws : List Int} (h : Sl w b off n ws) {a k : Nat} (hk : a + k ≤ n) (o : Nat) (ho : o = off + a) : ∀ j v, (cut ws a k)[j]? = some v → w.cell? ((⟨b, o, none⟩ : Addr).add j) = some v := by
  intro j v hv
  subst ho
  rcases Nat.lt_or_ge j k with hj | hj
  · unfold cut at hv
    rw [List.getElem?_map, List.getElem?_range hj] at hv
    simp at hv
    have e : (⟨b, off + a, none⟩ : Addr).add j = ⟨b, off + (a + j), none⟩ := by unfold Addr.add; split <;> simp_all [Nat.add_assoc]
    rw [e, h.cell (a + j) (by omega), ← hv]; simp
  · rw [List.getElem?_eq_none (by rw [cut_len]; omega)] at hv; cases hv
set_option maxHeartbeats 1000000 in
theorem l1Own_row (b off n k cap : Nat) (ws : List Int) (w : World) (h9 : n ≤ 9) (hk : k ≤ n) (hsl : Sl w b off n ws) :
    Calls Tryd.prog 31 #[.slice (some ⟨b, off, none⟩) k cap] w fun e w' => ∃ v, e = .returned v ∧ w'.ownsRow w.heap.size 3 1 v k (cut ws 0 k) ∧ Below w.heap.size w w' := by
  have HSL := Lib.hid hsl
  clear hsl
  obtain ⟨i0, hi0, hz0, hz1, hz2⟩ := info_parts infoInt
  go_enter Tryd.func31, Tryd.ntmps31
  go_wp2_with (at_builtin; refine wpList_append_own_at _ rfl _ _ _ rfl w.heap.size 3 i0 _ 1 8 Tryd.underlying22 hi0 hz0 hz1 hz2 rfl (by decide) (.slice (some ⟨w.heap.size, 0, none⟩) 0 0) 0 [] rfl (World.ownsRow_lit w #[] 0 (Nat.le_refl _) (by unfold maxLen; omega) rfl) ⟨b, off, none⟩ k cap (cut ws 0 k) rfl (by rw [cut_len]; omega) (cut_cells (HSL.out.alloc _) (by omega) off (by omega)) (cut_one ws 0 k) (by unfold maxLen; omega) (by omega) (by simp) ?_; intro v1 w4 hown4 hgrow hnil hat)
  simp only [Nat.zero_add, List.nil_append] at hown4
  go_ret
  exact ⟨v1, rfl, hown4, (below1 w (.cells #[] 3)).grown hgrow (by simp) fun j hj => by simp [Value.ownBlock] at hj; omega⟩

theorem owns_slice {w : World} {base : Nat} {e : TypeId} {size : Nat} {v : Value} {n : Nat} {xs : List Value} (h : w.ownsRow base e size v n xs) : ∃ B cp, v = .slice B n cp := by
  rcases h.2 with ⟨hv, hn⟩ | ⟨g, cap, cur, hv, _⟩
  · exact ⟨none, 0, by rw [hv, hn]⟩
  · exact ⟨_, _, hv⟩
end Go.Proofs.YtipplbcjdcdapabDoor
