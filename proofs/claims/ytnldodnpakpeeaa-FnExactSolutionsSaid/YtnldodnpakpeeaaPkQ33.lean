/- Texts of Vd, J4. -/
import Derived.Test.YtnldodnpakpeeaaPkQ32
import Derived.Test.YtnldodnpakpeeaaPkQ22
import Derived.Test.YtnldodnpakpeeaaPkQ24
import Derived.Outline
import Derived.Test.YtnldodnpakpeeaaPkQ27
namespace Go.Proofs.Ytnldodnpakpeeaa
open Go.RowKit Vo

def apartB (s t : Nat) : Bool := !(partB s t || partB t s)
set_option maxRecDepth 20000 in
set_option maxHeartbeats 400000 in
theorem games1_any (s t h : Nat) (w : World) (hs : s < 512) (ht : t < 512) (hbox : w.cell? ⟨h, 0, none⟩ = some (.int .u64 s)) :
    Calls Try.prog 183 #[.int .u64 t, .pointer (some ⟨h, 0, none⟩)] w fun e w' => e = .returned (.bool (!apartB s t)) ∧ w = w' := by
  cases h1 : partB s t
  · have H1 := Lib.hid h1
    have H2 := Lib.hid (show (!apartB s t) = partB t s from by unfold apartB; rw [h1]; simp)
    clear h1
    go_enter Try.func183, Try.ntmps183
    go_wp2_with (first
      | (go_at_call 111; with_reducible refine (hasAll_any s t _ hs ht).mono ?_; rintro e w1 ⟨rfl, rfl⟩; rw [H1.out])
      | (go_at_call 111; with_reducible refine (hasAll_any t s _ ht hs).mono ?_; rintro e w1 ⟨rfl, rfl⟩))
    go_ret
    exact ⟨by rw [H2.out]; rfl, rfl⟩
  · have H1 := Lib.hid h1
    have H2 := Lib.hid (show (!apartB s t) = true from by unfold apartB; rw [h1]; simp)
    clear h1
    go_enter Try.func183, Try.ntmps183
    go_wp2_with (first
      | (go_at_call 111; with_reducible refine (hasAll_any s t _ hs ht).mono ?_; rintro e w1 ⟨rfl, rfl⟩; rw [H1.out]))
    go_ret
    exact ⟨by rw [H2.out]; rfl, rfl⟩
theorem games1_enters : ∀ args W, (callFunc 183 args).run Try.prog W = .ok (.enter 183 args) W := enters_of Try.func183 (by kernel_rfl) rfl

theorem heap_putS {w : World} {g n : Nat} {cur : Array Value} {e : TypeId} {fr : Nat × Nat} (d : Array Set9) (hb : w.heap[g]? = some (.cells cur e fr)) :
    (Sort.putRow encS (Sort.ahead w n) g 0 d).heap[g]? = some (.cells (Sort.putCells encS 0 d cur) e fr) := by
  simp [Sort.putRow, Sort.mapBlock, Sort.ahead, Array.getElem?_modify, hb, Sort.onCells]
theorem grownBy_putS {w : World} {g n : Nat} (d : Array Set9) : w.grownBy (Sort.putRow encS (Sort.ahead w n) g 0 d) (some g) := by
  refine ⟨rfl, rfl, rfl, by simp [Sort.putRow, Sort.mapBlock, Sort.ahead], fun k _ hne => ?_⟩
  have : g ≠ k := fun e => hne (by rw [e])
  simp [Sort.putRow, Sort.mapBlock, Sort.ahead, Array.getElem?_modify, this]
theorem take_putS (cur : Array Value) (ts : List Set9) (m : Nat) (h : ts.length ≤ cur.size) (hm : m ≤ ts.length) : (Sort.putCells encS 0 ts.toArray cur).toList.take m = (ts.take m).map encS := by
  apply List.ext_getElem?
  intro j
  by_cases hj : j < m
  · rw [List.getElem?_take_of_lt hj, Array.getElem?_toList]
    simp [Sort.putCells, show j < ts.length by omega, show j < cur.size by omega, hj]
  · rw [List.getElem?_take_eq_none (by omega), List.getElem?_eq_none (by simp; omega)]
theorem subL_filter (f : Nat → Bool) : ∀ (L : List Nat) (h : ∀ s ∈ L, s < 512), ((subL L h).filter fun x => f x.1).map encS = setsV (L.filter f)
  | [], _ => rfl
  | s :: L, h => by
    have ih := subL_filter f L (fun t ht => h t (by simp [ht]))
    simp only [subL, List.filter_cons]
    cases f s
    · simpa using ih
    · simp only [if_true, List.map_cons, ih]; rfl
theorem holds_sets {w : World} {base g k cap : Nat} {L : List Set9} (hk : k = L.length) (hown : w.ownsRow base 107 1 (.slice (some ⟨g, 0, none⟩) k cap) k (L.map encS)) : Sort.Holds encS w g 0 L.toArray ∧ g < w.heap.size ∧ base ≤ g ∧ k ≤ cap ∧ ∃ cur, w.heap[g]? = some (.cells cur 107 (0, 0)) ∧ cap ≤ maxLen ∧ cur.size = cap * 1 := by
  rcases hown.2 with ⟨h, _⟩ | ⟨g', cap2, cur, hv2, hbg, hgb, r1, r2, r3, r4⟩
  · cases h
  obtain ⟨rfl, rfl⟩ : g = g' ∧ cap = cap2 := by simpa using hv2
  have hlt : g < w.heap.size := (Array.getElem?_eq_some_iff.1 hgb).1
  refine ⟨fun j hj => ?_, hlt, hbg, r1, cur, hgb, r2, r3⟩
  have hj' : j < L.length := by simpa using hj
  refine ⟨?_, by simp [World.frozen?, hgb]⟩
  have h1 : (cur.toList.take (k * 1))[j]? = (L.map encS)[j]? := by rw [r4]
  rw [List.getElem?_take_of_lt (by omega)] at h1
  simp only [World.cell?, hgb, Nat.zero_add]
  rw [← Array.getElem?_toList, h1, List.getElem?_map, List.getElem?_eq_getElem hj']
  simp [getElem!_pos, hj']

theorem delSets_any (s h : Nat) (L : List Nat) (base g k cap : Nat) (w : World) (hs : s < 512) (hL : ∀ t ∈ L, t < 512) (hk : k = L.length) (hk5 : k ≤ 1024) (hhg : h ≠ g) (hhl : h < w.heap.size) (hbox : w.cell? ⟨h, 0, none⟩ = some (.int .u64 s)) (hown : w.ownsRow base 107 1 (.slice (some ⟨g, 0, none⟩) k cap) k (setsV L)) :
    Calls Try.prog 155 #[.slice (some ⟨g, 0, none⟩) k cap, .func (.func 183) #[] #[.pointer (some ⟨h, 0, none⟩)]] w fun e w' =>
      e = .returned (.slice (some ⟨g, 0, none⟩) (L.filter (apartB s)).length cap) ∧ w'.ownsRow base 107 1 (.slice (some ⟨g, 0, none⟩) (L.filter (apartB s)).length cap) (L.filter (apartB s)).length (setsV (L.filter (apartB s))) ∧ w.grownBy w' (some g) := by
  have hlen := subL_len L hL
  have hown2 : w.ownsRow base 107 1 (.slice (some ⟨g, 0, none⟩) k cap) k ((subL L hL).map encS) := by rw [subL_enc]; exact hown
  obtain ⟨hH, hlt, hbg, hkc, cur, hgb, hm, hsz⟩ := holds_sets (by rw [hlen, hk]) hown2
  have hfil := subL_filter (apartB s) L hL
  have hflen : ((subL L hL).filter fun x => apartB s x.1).length = (L.filter (apartB s)).length := by
    have := congrArg List.length hfil
    simpa [setsV] using this
  have hp : PredAt Try.prog 183 #[.pointer (some ⟨h, 0, none⟩)] encS (fun x => !apartB s x.1) w := fun W x hb =>
    (games1_any s x.1 h W hs x.2 (by rw [hb.cell (p := ⟨h, 0, none⟩) hhl]; exact hbox)).mono fun e w' hh => ⟨hh.1, 0, hh.2.symm⟩
  have hpo : PredOver Try.prog 183 #[.pointer (some ⟨h, 0, none⟩)] encS (fun x => !apartB s x.1) g 0 (subL L hL).toArray.size w := fun n os dk x _ =>
    (games1_any s x.1 h _ hs x.2 (by
      rw [World.cell?_of_block ((grownBy_sortedS (w := w) (g := g) (n := n) (os := os) dk).block h hhl (by simpa using hhg))]
      exact hbox)).mono fun e w' hh => ⟨hh.1, 0, hh.2.symm⟩
  have hd := Go.Proofs.AnyE.slices_DeleteFunc Try.deleteS encS (fun x => rfl) (fun x => !apartB s x.1) 183 #[.pointer (some ⟨h, 0, none⟩)] games1_enters ⟨0, by omega⟩ Try.zeroValue107 g 0 cap (subL L hL).toArray w hp hpo hH (by simp [hlen]; omega) (by simp [hlen]; omega)
  simp only [List.size_toArray, hlen, ← hk, Bool.not_not] at hd
  refine hd.mono ?_
  rintro e w' ⟨rfl, q, rfl⟩
  rw [hflen]
  have hl : (L.filter (apartB s)).length ≤ k := by rw [hk]; exact List.length_filter_le _ _
  refine ⟨rfl, ⟨by simp [setsV], .inr ⟨g, cap, _, rfl, hbg, heap_putS _ hgb, by omega, hm, by simp [Sort.putCells, hsz], ?_⟩⟩, grownBy_putS _⟩
  rw [take_putS cur _ ((L.filter (apartB s)).length * 1) (by rw [List.length_append, List.length_replicate, hflen]; omega) (by rw [List.length_append, hflen]; omega), Nat.mul_one, ← hflen, List.take_left, hfil]
end Go.Proofs.Ytnldodnpakpeeaa

namespace Go.Proofs.Ytnldodnpakpeeaa
open Go.RowKit Vo

theorem winL_winS : wnL = winS := rfl

end Go.Proofs.Ytnldodnpakpeeaa
