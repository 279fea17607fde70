/- Texts of LG, Vc. -/
import Derived.Shelf.SlicesE.Clone
import Derived.Shelf.SlicesE.DeleteFunc
import Derived.Ground.SlgfProg
import Derived.Ground.SlgnProg
import Derived.Test.YtnldodnpakpeeaaProg
import Derived.Test.YtnldodnpakpeeaaPkQ07
import Derived.Test.YtnldodnpakpeeaaPkQ04
namespace Go.Proofs.Ytnldodnpakpeeaa
open Go.Shelf
def Try.cloneS_ren : Go.Shelf.Ren := ⟨fun | 41 => 182 | n => n, fun | 22 => 93 | 23 => 107 | 4 => 4 | n => n, fun | n => n⟩
theorem Try.cloneS : Go.Proofs.SlLaysE0.n41 Try.prog Try.cloneS_ren := {
  mixed := by kernel_rfl
  f41 := ⟨Try.f182.name, by decide, Try.func182.trans (congrArg some (by kernel_rfl))⟩
  t4 := Try.underlying4
  a4 := Try.isAgg4
  z4 := Try.sizeOf4
  v4 := Try.zeroValue4
  t22 := Try.underlying93
  a22 := Try.isAgg93
  z22 := Try.sizeOf93
  v22 := Try.zeroValue93 }
def Try.deleteS_ren : Go.Shelf.Ren := ⟨fun | 10 => 155 | 6 => 156 | n => n, fun | 22 => 93 | 23 => 107 | 25 => 92 | 3 => 3 | 4 => 4 | 0 => 0 | n => n, fun | n => n⟩
theorem Try.deleteS : Go.Proofs.SlLaysH.n10 Try.prog Try.deleteS_ren := {
  mixed := by kernel_rfl
  f6 := ⟨Try.f156.name, by decide, Try.func156.trans (congrArg some (by kernel_rfl))⟩
  f10 := ⟨Try.f155.name, by decide, Try.func155.trans (congrArg some (by kernel_rfl))⟩
  t0 := Try.underlying0
  a0 := Try.isAgg0
  z0 := Try.sizeOf0
  v0 := Try.zeroValue0
  t3 := Try.underlying3
  a3 := Try.isAgg3
  z3 := Try.sizeOf3
  v3 := Try.zeroValue3
  t4 := Try.underlying4
  a4 := Try.isAgg4
  z4 := Try.sizeOf4
  v4 := Try.zeroValue4
  t22 := Try.underlying93
  a22 := Try.isAgg93
  z22 := Try.sizeOf93
  v22 := Try.zeroValue93
  a23 := Try.isAgg107
  z23 := Try.sizeOf107
  t25 := Try.underlying92
  a25 := Try.isAgg92
  z25 := Try.sizeOf92
  v25 := Try.zeroValue92 }
end Go.Proofs.Ytnldodnpakpeeaa

namespace Go.Proofs.Ytnldodnpakpeeaa
open Go.RowKit Vo

theorem setsV_at {L : List Nat} {i : Nat} {u : Value} (h : (setsV L)[i]? = some u) : i < L.length ∧ u = .int .u64 (L.getD i 0 : Nat) := by
  have hi : i < (setsV L).length := (List.getElem?_eq_some_iff.1 h).1
  have hi2 : i < L.length := by simpa [setsV] using hi
  refine ⟨hi2, ?_⟩
  simp only [setsV, List.getElem?_map, List.getElem?_eq_getElem hi2, Option.map_some, Option.some.injEq] at h
  rw [← h, List.getD_eq_getElem?_getD, List.getElem?_eq_getElem hi2]
  rfl

theorem cloneSets_at (L : List Nat) (gb off j cp : Nat) (w : World) (hl : j = L.length) (hj : j ≤ 1048576) (hc : ∀ i, i < j → w.cell? ⟨gb, off + i, none⟩ = some (.int .u64 (L.getD i 0 : Nat))) :
    Calls Try.prog 182 #[.slice (some ⟨gb, off, none⟩) j cp] w fun e w' => ∃ C c, e = .returned (.slice (some ⟨C, 0, none⟩) j c) ∧ w'.ownsRow w.heap.size 107 1 (.slice (some ⟨C, 0, none⟩) j c) j (setsV L) ∧ Below w.heap.size w w' := by
  obtain ⟨i0, hi0, hz0, hz1, hz2⟩ := info_parts infoSet
  refine (AnyE.slices_Clone Try.cloneS i0 _ 1 8 hi0 hz0 hz1 hz2 rfl (by decide) Try.sizeOf107 gb off j cp (setsV L) w (by rw [hl]; simp [setsV]) (by unfold maxLen; omega) (by omega) (fun i u hu => by
    obtain ⟨hi, rfl⟩ := setsV_at hu
    exact hc i (by rw [hl]; exact hi)) (fun u hu => by unfold setsV at hu; obtain ⟨s, _, rfl⟩ := List.mem_map.1 hu; rfl)).mono ?_
  rintro e w' ⟨v, rfl, hown, hnil, hb⟩
  rcases hown.2 with ⟨hv, hn⟩ | ⟨g, cb, cur, hv, hr⟩
  · exact absurd hv hnil
  · subst hv
    exact ⟨g, cb, rfl, hown, hb⟩
theorem cloneSets_nil (n c : Nat) (w : World) :
    Calls Try.prog 182 #[.slice none n c] w fun e w' => e = .returned (.slice none 0 0) ∧ w' = w := AnyE.slices_Clone_nil Try.cloneS n c w
end Go.Proofs.Ytnldodnpakpeeaa
