/- Contract of the program's AddVeto. -/
import Derived.Test.YtkeiojfnjgjliaaWc
import Derived.Deep.RegionHeld3
namespace Go.Proofs.Ytkeiojfnjgjliaa
open Go.RowKit Vo

set_option maxRecDepth 20000 in
set_option maxHeartbeats 4000000 in
theorem addVeto_any (q : Int) (A : Option Addr) (n cap : Nat) (ws : List Int) (w : World) (hm : n ≤ 9223372036854775807) (hk : Known w A n ws) :
    Calls Try.prog 38 #[.agg #[.int .i64 q, .slice A n cap]] w fun e w' => ComAt (addQ q (q + sumK ws n) ws n (sumK ws n)) (addN q (q + sumK ws n) ws n (sumK ws n)) (addL ws n (sumK ws n)) (addOk q (q + sumK ws n) ws n (sumK ws n)) w w' e := by
  have HK := Lib.hid hk
  clear hk
  have hb0 : Below w.heap.size w ((w.alloc (.cells #[.int .i64 q, .slice A n cap] 32)).alloc (.cells #[.int .i64 0, .slice none 0 0] 32)) := (below1 w _).alloc (by simp) _
  have hx := (Box.new w (.int .i64 q) (.slice A n cap)).alloc (.cells #[.int .i64 0, .slice none 0 0] 32)
  have hr := Box.new (w.alloc (.cells #[.int .i64 q, .slice A n cap] 32)) (.int .i64 0) (.slice none 0 0)
  simp only [World.size_alloc] at hr
  have KF := Lib.hid (show ∀ W, BoxT 32 W (w.heap.size + 1) (.int .i64 0) (.slice none 0 0) → (W.frozen? ⟨w.heap.size + 1, 0, none⟩ = false ∧ W.frozen? ⟨w.heap.size + 1, 1, none⟩ = false) from fun W h => by unfold BoxT at h; exact ⟨by simp [World.frozen?, h], by simp [World.frozen?, h]⟩)
  by_cases hg : Vo.Good q ws n
  · obtain ⟨b, off, rfl, hsl⟩ := HK.out.get hg.lo
    have HSL := Lib.hid hsl
    have HG := Lib.hid hg
    have HGB := Lib.hid (goodB_true hg)
    have hn9 := hg.hi
    have hn1 := hg.lo
    have hn10 : n < 10 := by omega
    clear hg hsl
    have htot := HG.out.tot
    have hq1 := HG.out.q1
    have hq2 := HG.out.q2
    have HOK := Lib.hid HG.out.ok
    have HW := Lib.hid (show IntKind.i64.wrap (q + sumK ws n) = q + sumK ws n from IntWalk.i64_in _ (by omega))
    rw [addQ_good HGB.out, addN_good HGB.out, addOk_good HGB.out]
    obtain ⟨S, hS⟩ : ∃ S, S = sumK ws n := ⟨_, rfl⟩
    have HS := Lib.hid hS
    rw [← hS] at HW ⊢
    clear htot hq1 hq2 hS
    go_enter Try.func38, Try.ntmps38
    go_wp2_with fail
    refine (isCommittee_any q _ n cap ws _ hm (HK.out.now hb0)).mono ?_
    rintro e w1 ⟨rfl, hb1⟩
    rw [HGB.out]
    have g1 := bfrom hb0 hb1
    have hr1 := hr.now hb1
    have hx1 := hx.now hb1
    have hs1 := Lib.hid (HSL.out.now g1)
    have hz1 := hr1.lt
    clear hr hb0 hb1 hx
    have K := Lib.hid (show ∀ W, Below w1.heap.size w1 W → (W.cell? ⟨w.heap.size, 0, none⟩ = some (.int .i64 q) ∧ W.cell? ⟨w.heap.size, 1, none⟩ = some (.slice (some ⟨b, off, none⟩) n cap) ∧ W.cell? ⟨w.heap.size + 1, 0, none⟩ = some (.int .i64 0) ∧ W.cell? ⟨w.heap.size + 1, 1, none⟩ = some (.slice none 0 0) ∧ W.frozen? ⟨w.heap.size + 1, 0, none⟩ = false ∧ W.frozen? ⟨w.heap.size + 1, 1, none⟩ = false) from fun W hb => ⟨(hx1.now hb).cells.1, (hx1.now hb).cells.2, (hr1.now hb).cells.1, (hr1.now hb).cells.2, (KF.out _ (hr1.now hb)).1, (KF.out _ (hr1.now hb)).2⟩)
    obtain ⟨c0, c1, c2, c3, c4, c5⟩ := K.out _ (Below.refl _ _)
    go_wp2_with fail
    go_region_held3 (fun w' => w'.cell? ⟨w.heap.size, 0, none⟩ = some (.int .i64 q) ∧ w'.cell? ⟨w.heap.size, 1, none⟩ = some (.slice (some ⟨b, off, none⟩) n cap) ∧ (w'.cell? ⟨w.heap.size + 1, 0, none⟩).isSome = true ∧ (w'.cell? ⟨w.heap.size + 1, 1, none⟩).isSome = true ∧ w'.frozen? ⟨w.heap.size + 1, 0, none⟩ = false ∧ w'.frozen? ⟨w.heap.size + 1, 1, none⟩ = false)
      (first | exact ⟨a0, a1, by rw [a2]; rfl, by rw [a3]; rfl, a4, a5⟩ | exact ⟨b0, b1, by rw [b2]; rfl, by rw [b3]; rfl, b4, b5⟩ | exact ⟨d0, d1, by rw [d2]; rfl, by rw [d3]; rfl, d4, d5⟩ | exact ⟨c0, c1, by rw [c2]; rfl, by rw [c3]; rfl, c4, c5⟩ | ((try dsimp only); (repeat' apply And.intro); all_goals (first | exact isSome_set (isSome_set (Option.isSome_iff_exists.2 ⟨_, d2⟩)) | exact isSome_set (isSome_set (Option.isSome_iff_exists.2 ⟨_, d3⟩)) | go_keep)) | go_keep)
      (first
        | (go_at_call 80; refine (withMember_any q (q + S) S b off n cap ws _ hn1 hn9 (hs1.out.now gB)).mono ?_; rintro e wC ⟨A2, cap2, rfl, hh2, hbC⟩; have HH2 := Lib.hid hh2; clear hh2; have gC := bfrom gB hbC; obtain ⟨d0, d1, d2, d3, d4, d5⟩ := K.out _ gC)
        | (go_at_call 81; refine (total_any q b off n cap ws _ hn10 HOK.out (hs1.out.now gA)).mono ?_; rw [← HS.out]; rintro e wB ⟨rfl, hbB⟩; have gB := bfrom gA hbB; obtain ⟨b0, b1, b2, b3, b4, b5⟩ := K.out _ gB; rw [HW.out])
        | (go_at_call 81; refine (total_any q b off n cap ws _ hn10 HOK.out (hs1.out.now (Below.refl _ _).drew)).mono ?_; rw [← HS.out]; rintro e wA ⟨rfl, hbA⟩; have gA := bfrom (Below.refl _ _).drew hbA; obtain ⟨a0, a1, a2, a3, a4, a5⟩ := K.out _ gA))
    all_goals
      have hsB := gB.size
      have gD := bfrom g1 gC
      clear c0 c1 c2 c3 c4 c5 a0 a1 a2 a3 a4 a5 b0 b1 b2 b3 b4 b5 d0 d1
      go_wp2
      refine bodyPost_ret (v := .tuple #[.agg #[.int .i64 (moreQ (q + S) ws n S), .slice A2 (moreN (q + S) ws n S) cap2], .bool (moreOk (q + S) ws n S)]) (by simp [results, Try.results38, go_sem, d2, d3]) rfl ?_
      exact ⟨_, _, rfl, held_far HH2.out (by have := g1.size; omega) (by simp; omega) (by simp; omega), (gD.setCell (by simp) _).setCell (by simp) _⟩
  · have HGB := Lib.hid (goodB_false hg)
    have HQ := Lib.hid (addQ_no (q' := q + sumK ws n) (x := sumK ws n) (goodB_false hg))
    clear hg
    go_enter Try.func38, Try.ntmps38
    go_wp2_with fail
    refine (isCommittee_any q A n cap ws _ hm (HK.out.now hb0)).mono ?_
    rintro e w1 ⟨rfl, hb1⟩
    rw [HGB.out]
    have g1 := bfrom hb0 hb1
    have hr1 := hr.now hb1
    obtain ⟨c0, c1⟩ := hr1.cells
    obtain ⟨f0, f1⟩ := KF.out _ hr1
    clear hr hb0 hb1 hx
    go_wp2
    refine bodyPost_ret (v := .tuple #[.agg #[.int .i64 0, .slice none 0 0], .bool false]) (by simp [results, Try.results38, go_sem, c0, c1]) rfl ?_
    rw [HQ.out, addN_no HGB.out, addOk_no HGB.out]
    exact ⟨_, _, rfl, Or.inl ⟨rfl, rfl⟩, (g1.setCell (by simp) _).setCell (by simp) _⟩
end Go.Proofs.Ytkeiojfnjgjliaa
