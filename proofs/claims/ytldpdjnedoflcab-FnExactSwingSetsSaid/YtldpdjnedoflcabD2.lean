/- Contract of the model's DualCommittee. -/
import Derived.Test.YtldpdjnedoflcabD1
import Derived.Test.YtldpdjnedoflcabS2
import Derived.Deep.AppendLies
import Derived.Deep.RegionHeld3
namespace Go.Proofs.Ytldpdjnedoflcab
open Go.RowKit Vo

/-- A slice in a block of the call's own that holds n integers. -/
def OwnAt (n : Nat) (ws : List Int) (w w' : World) (e : Ending) : Prop :=
  ∃ g cap, e = .returned (.slice (some ⟨g, 0, none⟩) n cap) ∧ w.heap.size ≤ g ∧ Ints w' g n ws ∧ Below w.heap.size w w'

set_option maxHeartbeats 1000000 in
theorem l1Own_any (b off n cap : Nat) (ws : List Int) (w : World) (h1 : 1 ≤ n) (h9 : n ≤ 9) (hsl : Sl w b off n ws) :
    Calls Try.prog 72 #[.slice (some ⟨b, off, none⟩) n cap] w fun e w' => OwnAt n ws w w' e := by
  have HSL := Lib.hid hsl
  have hbl := hsl.lt
  clear hsl
  obtain ⟨i0, hi0, hz0, hz1, hz2⟩ := info_parts infoInt
  obtain ⟨cs, hcs⟩ : ∃ cs, cs = (List.range n).map fun j => Value.int .i64 (ws.getD j 0) := ⟨_, rfl⟩
  have HCL := Lib.hid (show cs.length = n * 1 from by rw [hcs]; simp)
  have HCO := Lib.hid (show ∀ v ∈ cs, v.oneCell' = true from by rw [hcs]; intro v hv; simp at hv; obtain ⟨j, _, rfl⟩ := hv; rfl)
  have HCJ := Lib.hid (show ∀ j v, cs[j]? = some v → (w.alloc (.cells #[] 3)).cell? ((⟨b, off, none⟩ : Addr).add j) = some v from by
    intro j v hv
    rw [hcs] at hv
    rcases Nat.lt_or_ge j n with hj | hj
    · rw [List.getElem?_map, List.getElem?_range hj] at hv
      simp at hv
      have e : (⟨b, off, none⟩ : Addr).add j = ⟨b, off + j, none⟩ := by unfold Addr.add; split <;> simp_all
      rw [e, (HSL.out.alloc _).cell j hj, ← hv]; simp
    · rw [List.getElem?_eq_none (by simp; omega)] at hv; cases hv)
  have HCS := Lib.hid hcs
  clear hcs
  go_enter Try.func72, Try.ntmps72
  go_wp2_with (at_builtin; refine wpList_append_lies _ rfl _ _ _ rfl w.heap.size 3 i0 _ 1 8 Try.underlying22 hi0 hz0 hz1 hz2 rfl (by decide) (.slice (some ⟨w.heap.size, 0, none⟩) 0 0) 0 [] rfl (World.ownsRow_lit w #[] 0 (Nat.le_refl _) (by unfold maxLen; omega) rfl) ⟨b, off, none⟩ n cap cs rfl HCL.out HCJ.out HCO.out (by omega) (by unfold maxLen; omega) (by omega) (by simp) (w.heap.size + 1) (by simp) ?_; intro gg cap2 w4 hown4 hgrow hat hlt4)
  simp only [Nat.zero_add, List.nil_append] at hown4
  have hge : w.heap.size ≤ gg := owns_le hown4 rfl
  go_ret
  refine ⟨gg, cap2, rfl, hge, ?_, (below1 w (.cells #[] 3)).grown hgrow (by simp) fun j hj => by simp [Value.ownBlock] at hj; omega⟩
  refine Own.of_own hown4 fun i hi => ?_
  rw [HCS.out, List.getElem?_map, List.getElem?_range hi]; rfl

set_option maxRecDepth 20000 in
set_option maxHeartbeats 4000000 in
theorem voDual_any (q : Int) (b off n cap : Nat) (ws : List Int) (w : World) (hg : Vo.Good q ws n) (hsl : Sl w b off n ws) :
    Calls Try.prog 63 #[.agg #[.int .i64 q, .slice (some ⟨b, off, none⟩) n cap]] w fun e w' =>
      ∃ g cp, e = .returned (.agg #[.int .i64 (sumK ws n + 1 - q), .slice (some ⟨g, 0, none⟩) n cp]) ∧ w.heap.size ≤ g ∧ Ints w' g n ws ∧ Below w.heap.size w w' := by
  have HSL := Lib.hid hsl
  have HOK := Lib.hid hg.ok
  have hn9 := hg.hi
  have hn1 := hg.lo
  have htot := hg.tot
  have hq1 := hg.q1
  have hq2 := hg.q2
  have hn10 : n < 10 := by omega
  clear hg hsl
  have HW := Lib.hid (show IntKind.i64.wrap (IntKind.i64.wrap (sumK ws n + 1) - q) = sumK ws n + 1 - q from by rw [IntWalk.i64_in (sumK ws n + 1) (by omega), IntWalk.i64_in _ (by omega)])
  have hb0 : Below w.heap.size w ((w.alloc (.cells #[.int .i64 q, .slice (some ⟨b, off, none⟩) n cap] 29)).alloc (.cells #[.int .i64 0, .slice none 0 0] 29)) := (below1 w _).alloc (by simp) _
  obtain ⟨w1, hw1⟩ : ∃ w1, w1 = ((w.alloc (.cells #[.int .i64 q, .slice (some ⟨b, off, none⟩) n cap] 29)).alloc (.cells #[.int .i64 0, .slice none 0 0] 29)) := ⟨_, rfl⟩
  have hx1 := (Box.new w (.int .i64 q) (.slice (some ⟨b, off, none⟩) n cap)).alloc (.cells #[.int .i64 0, .slice none 0 0] 29)
  have hr1 := Box.new (w.alloc (.cells #[.int .i64 q, .slice (some ⟨b, off, none⟩) n cap] 29)) (.int .i64 0) (.slice none 0 0)
  simp only [World.size_alloc] at hr1
  rw [← hw1] at hb0 hx1 hr1
  have HW1 := Lib.hid hw1
  clear hw1
  have hs1 := Lib.hid (HSL.out.now hb0)
  have K := Lib.hid (show ∀ W, Below w1.heap.size w1 W → (W.cell? ⟨w.heap.size, 0, none⟩ = some (.int .i64 q) ∧ W.cell? ⟨w.heap.size, 1, none⟩ = some (.slice (some ⟨b, off, none⟩) n cap) ∧ W.cell? ⟨w.heap.size + 1, 0, none⟩ = some (.int .i64 0) ∧ W.cell? ⟨w.heap.size + 1, 1, none⟩ = some (.slice none 0 0) ∧ W.frozen? ⟨w.heap.size + 1, 0, none⟩ = false ∧ W.frozen? ⟨w.heap.size + 1, 1, none⟩ = false) from fun W hb => ⟨(hx1.now hb).cells.1, (hx1.now hb).cells.2, (hr1.now hb).cells.1, (hr1.now hb).cells.2, by have h := hr1.now hb; unfold BoxT at h; simp [World.frozen?, h], by have h := hr1.now hb; unfold BoxT at h; simp [World.frozen?, h]⟩)
  go_enter Try.func63, Try.ntmps63
  go_wp2_with fail
  rw [← HW1.out]
  obtain ⟨c0, c1, c2, c3, c4, c5⟩ := K.out _ (Below.refl _ _)
  go_region_held3 (fun w' => w'.cell? ⟨w.heap.size, 0, none⟩ = some (.int .i64 q) ∧ w'.cell? ⟨w.heap.size, 1, none⟩ = some (.slice (some ⟨b, off, none⟩) n cap) ∧ (w'.cell? ⟨w.heap.size + 1, 0, none⟩).isSome = true ∧ (w'.cell? ⟨w.heap.size + 1, 1, none⟩).isSome = true ∧ w'.frozen? ⟨w.heap.size + 1, 0, none⟩ = false ∧ w'.frozen? ⟨w.heap.size + 1, 1, none⟩ = false)
    (first | exact ⟨c0, c1, by rw [c2]; rfl, by rw [c3]; rfl, c4, c5⟩ | exact ⟨d0, d1, by rw [d2]; rfl, by rw [d3]; rfl, d4, d5⟩ | ((try dsimp only); (repeat' apply And.intro); all_goals (first | exact isSome_set (isSome_set (Option.isSome_iff_exists.2 ⟨_, d2⟩)) | exact isSome_set (isSome_set (Option.isSome_iff_exists.2 ⟨_, d3⟩)) | go_keep)) | go_keep)
    (first
      | (go_at_call 89; refine (voSum_any b off n cap ws _ hn10 HOK.out ?_).mono ?_; (first | exact hs1.out.drew | exact hs1.out.now gC); rintro e w4 ⟨rfl, rfl⟩)
      | (go_at_call 72; refine (l1Own_any b off n cap ws _ hn1 hn9 hs1.out.drew).mono ?_; rintro e wC ⟨gg, cp, rfl, hgC, hiC, hbC⟩; have hiC' := Lib.hid hiC; clear hiC; have gC := bfrom (Below.refl _ _).drew hbC; obtain ⟨d0, d1, d2, d3, d4, d5⟩ := K.out _ gC))
  all_goals
    rw [HW.out]
    have hzB : w.heap.size + 1 < w1.heap.size := hr1.lt
    have hgC2 : w1.heap.size ≤ gg := hgC
    clear c0 c1 c2 c3 c4 c5 d0 d1 d4 d5
    go_wp2
    refine bodyPost_ret (v := .agg #[.int .i64 (sumK ws n + 1 - q), .slice (some ⟨gg, 0, none⟩) n cp]) (by simp [results, Try.results63, go_sem, d2, d3]) rfl ⟨gg, cp, rfl, by omega, ?_, ?_⟩
    · exact (hiC'.out.far (by simp; omega) _).far (by simp; omega) _
    · exact ((bfrom hb0 gC).setCell (by simp) _).setCell (by simp) _

end Go.Proofs.Ytldpdjnedoflcab
