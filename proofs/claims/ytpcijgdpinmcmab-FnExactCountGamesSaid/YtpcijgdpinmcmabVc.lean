/- slices.Clone of sets of members. -/
import Derived.Test.YtpcijgdpinmcmabR3
import Derived.Test.YtpcijgdpinmcmabP1
import Derived.Test.YtpcijgdpinmcmabLG
namespace Go.Proofs.Ytpcijgdpinmcmab
open Go.RowKit Vo

theorem setsV_at {L : List Nat} {i : Nat} {u : Value} (h : (setsV L)[i]? = some u) : i < L.length ∧ u = .int .u64 (L.getD i 0 : Nat) := by
  have hi : i < (setsV L).length := (List.getElem?_eq_some_iff.1 h).1
  have hi2 : i < L.length := by simpa [setsV] using hi
  refine ⟨hi2, ?_⟩
  simp only [setsV, List.getElem?_map, List.getElem?_eq_getElem hi2, Option.map_some, Option.some.injEq] at h
  rw [← h, List.getD_eq_getElem?_getD, List.getElem?_eq_getElem hi2]
  rfl

theorem cloneSets_at (L : List Nat) (gb off j cp : Nat) (w : World) (hl : j = L.length) (hj : j ≤ 1048576) (hc : ∀ i, i < j → w.cell? ⟨gb, off + i, none⟩ = some (.int .u64 (L.getD i 0 : Nat))) :
    Calls Try.prog 130 #[.slice (some ⟨gb, off, none⟩) j cp] w fun e w' => ∃ C c, e = .returned (.slice (some ⟨C, 0, none⟩) j c) ∧ w'.ownsRow w.heap.size 111 1 (.slice (some ⟨C, 0, none⟩) j c) j (setsV L) ∧ Below w.heap.size w w' := by
  obtain ⟨i0, hi0, hz0, hz1, hz2⟩ := info_parts infoSet
  refine (AnyE.slices_Clone Try.cloneS i0 _ 1 8 hi0 hz0 hz1 hz2 rfl (by decide) Try.sizeOf111 gb off j cp (setsV L) w (by rw [hl]; simp [setsV]) (by unfold maxLen; omega) (by omega) (fun i u hu => by
    obtain ⟨hi, rfl⟩ := setsV_at hu
    exact hc i (by rw [hl]; exact hi)) (fun u hu => by unfold setsV at hu; obtain ⟨s, _, rfl⟩ := List.mem_map.1 hu; rfl)).mono ?_
  rintro e w' ⟨v, rfl, hown, hnil, hb⟩
  rcases hown.2 with ⟨hv, hn⟩ | ⟨g, cb, cur, hv, hr⟩
  · exact absurd hv hnil
  · subst hv
    exact ⟨g, cb, rfl, hown, hb⟩
theorem cloneSets_nil (n c : Nat) (w : World) :
    Calls Try.prog 130 #[.slice none n c] w fun e w' => e = .returned (.slice none 0 0) ∧ w' = w := AnyE.slices_Clone_nil Try.cloneS n c w
end Go.Proofs.Ytpcijgdpinmcmab
