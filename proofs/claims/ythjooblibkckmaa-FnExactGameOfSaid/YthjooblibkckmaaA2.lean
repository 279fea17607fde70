/- Contracts of the program's told games, and of GameOf. -/
import Derived.Test.YthjooblibkckmaaA1
import Derived.Test.YthjooblibkckmaaR6
import Derived.Test.YthjooblibkckmaaT6
import Derived.Test.YthjooblibkckmaaD1
import Derived.Test.YthjooblibkckmaaK4
import Derived.Outline
namespace Go.Proofs.Ythjooblibkckmaa
open Go.RowKit Vo

theorem RSS.wide {L : List (List Int)} {lo lo' hi hi' : Nat} {v : Value} {w : World} (h : RSS L lo hi v w) (hl : lo' ≤ lo) (hh : hi ≤ hi') : RSS L lo' hi' v w := by
  obtain ⟨A, cap, hv, h⟩ := h
  refine ⟨A, cap, hv, ?_⟩
  rcases h with h | ⟨g, f, hA, h1, h2, ho, G, h⟩
  · exact Or.inl h
  · refine Or.inr ⟨g, f, hA, by omega, by omega, ho, G, fun i hi => ⟨(h i hi).1, ?_⟩⟩
    rcases (h i hi).2 with h0 | ⟨a, b, c⟩
    · exact Or.inl h0
    · exact Or.inr ⟨by omega, by omega, c⟩
theorem Lies.rss_wide {L : List (List Int)} {lo lo' hi hi' : Nat} {v : Value} {w : World} (h : Lies (RSS L lo hi v) lo hi w) (hl : lo' ≤ lo) (hh : hi ≤ hi') (hs : hi' ≤ w.heap.size) : Lies (RSS L lo' hi' v) lo' hi' w :=
  ⟨hs, fun w' e => (h.2 w' fun k a b => e k (by omega) (by omega)).wide hl hh⟩
theorem Lies.far {R : World → Prop} {lo hi : Nat} {w : World} (h : Lies R lo hi w) {p : Addr} (hp : p.block < lo) (u : Value) : Lies R lo hi (w.setCell p u) :=
  h.keep (by simp) fun k a _ => Below.heap_setCell w p u k (by omega)
/-- A row of sets of the call's own, as it was left. -/
theorem SSb.lies {base : Nat} {L : List (List Int)} {B : Option Addr} {k cp : Nat} {w : World} (h : SSb base L (.slice B k cp) w) (hk : k = L.length) : Lies (RSS L base w.heap.size (.slice B k cp)) base w.heap.size w :=
  RSS.lies (h.rss ⟨B, cp, by rw [hk]⟩) (Nat.le_refl _)


set_option maxRecDepth 20000 in
set_option maxHeartbeats 4000000 in
theorem told_any (S : List Nat) (m : Int) (base k cap : Nat) (A : Option Addr) (w : World) (hk : k = S.length) (hs : k ≤ 512) (hin : ∀ j, j < k → S.getD j 0 < 512) (hown : w.ownsRow base 78 1 (.slice A k cap) k (setsV S)) :
    Calls Try.prog 63 #[.agg #[.int .i64 m, .slice A k cap]] w fun e w' => ∃ B cp, e = .returned (.agg #[.int .i64 m, .slice B k cp]) ∧ Lies (RSS (setsL S) w.heap.size w'.heap.size (.slice B k cp)) w.heap.size w'.heap.size w' ∧ Below w.heap.size w w' := by
  have HO := Lib.hid hown
  have HIN := Lib.hid hin
  have HK := Lib.hid hk
  have HLEN := Lib.hid (show k = (setsL S).length from by rw [setsL_len, ← hk])
  clear hown hin hk
  have hb0 : Below w.heap.size w ((w.alloc (.cells #[.int .i64 m, .slice A k cap] 70)).alloc (.cells #[.int .i64 0, .slice none 0 0] 28)) := (below1 w _).alloc (by simp) _
  have hx := (BoxT.new 70 w (.int .i64 m) (.slice A k cap)).alloc (.cells #[.int .i64 0, .slice none 0 0] 28)
  have hr := BoxT.new 28 (w.alloc (.cells #[.int .i64 m, .slice A k cap] 70)) (.int .i64 0) (.slice none 0 0)
  simp only [World.size_alloc] at hr
  obtain ⟨w0, hw0⟩ : ∃ w0, w0 = (w.alloc (.cells #[.int .i64 m, .slice A k cap] 70)).alloc (.cells #[.int .i64 0, .slice none 0 0] 28) := ⟨_, rfl⟩
  have hsz0 : w0.heap.size = w.heap.size + 2 := by rw [hw0]; simp
  have K := Lib.hid (show ∀ W, Below w0.heap.size w0 W → (W.cell? ⟨w.heap.size, 0, none⟩ = some (.int .i64 m) ∧ W.cell? ⟨w.heap.size, 1, none⟩ = some (.slice A k cap) ∧ W.cell? ⟨w.heap.size + 1, 0, none⟩ = some (.int .i64 0) ∧ W.cell? ⟨w.heap.size + 1, 1, none⟩ = some (.slice none 0 0) ∧ W.frozen? ⟨w.heap.size + 1, 0, none⟩ = false ∧ W.frozen? ⟨w.heap.size + 1, 1, none⟩ = false) from fun W hb => by
    rw [hw0] at hb
    exact ⟨(hx.now hb).cells.1, (hx.now hb).cells.2, (hr.now hb).cells.1, (hr.now hb).cells.2, by have h := hr.now hb; unfold BoxT at h; simp [World.frozen?, h], by have h := hr.now hb; unfold BoxT at h; simp [World.frozen?, h]⟩)
  have HO0 := Lib.hid (show w0.ownsRow base 78 1 (.slice A k cap) k (setsV S) from by rw [hw0]; exact owns_now (owns_now HO.out (below1 w _)) (below1 _ _))
  have g0 : Below w.heap.size w w0 := by rw [hw0]; exact hb0
  have hg0 := Lib.hid g0
  clear hx hr hb0 HO
  obtain ⟨c0, c1, c2, c3, c4, c5⟩ := K.out _ (Below.refl _ _)
  go_enter Try.func63, Try.ntmps63
  go_wp2_with fail
  rw [← hw0]
  clear hw0 g0
  go_region_held3 (fun w' => w'.cell? ⟨w.heap.size, 0, none⟩ = some (.int .i64 m) ∧ w'.cell? ⟨w.heap.size, 1, none⟩ = some (.slice A k cap) ∧ (w'.cell? ⟨w.heap.size + 1, 0, none⟩).isSome = true ∧ (w'.cell? ⟨w.heap.size + 1, 1, none⟩).isSome = true ∧ w'.frozen? ⟨w.heap.size + 1, 0, none⟩ = false ∧ w'.frozen? ⟨w.heap.size + 1, 1, none⟩ = false)
    (first | exact ⟨c0, c1, by rw [c2]; rfl, by rw [c3]; rfl, c4, c5⟩ | exact ⟨a0, a1, by rw [a2]; rfl, by rw [a3]; rfl, a4, a5⟩ | ((try dsimp only); (repeat' apply And.intro); all_goals (first | exact isSome_set (isSome_set (Option.isSome_iff_exists.2 ⟨_, a2⟩)) | exact isSome_set (isSome_set (Option.isSome_iff_exists.2 ⟨_, a3⟩)) | go_keep)) | go_keep)
    (first
      | (go_at_call 103; refine (listsOf_any S base cap k A _ HK.out hs HIN.out (HO0.out.drew)).mono ?_; rintro e wA ⟨B, cp, rfl, hss, hbA⟩; have HSS := Lib.hid (hss.lies HLEN.out); clear hss; have gA := bfrom (Below.refl _ w0).drew hbA; obtain ⟨a0, a1, a2, a3, a4, a5⟩ := K.out _ gA))
  have hzA : w0.heap.size ≤ wA.heap.size := gA.size
  clear a0 a1 a4 a5 c0 c1 c2 c3 c4 c5
  go_wp2
  refine bodyPost_ret (v := .agg #[.int .i64 m, .slice B k cp]) (by simp [results, Try.results63, go_sem, a2, a3]) rfl ⟨B, cp, rfl, ?_, ?_⟩
  · refine Lies.rss_wide (Lies.far (Lies.far HSS.out (by simp; omega) _) (by simp; omega) _) (by simp; omega) (by simp) (by simp)
  · exact ((bfrom hg0.out gA).setCell (by simp) _).setCell (by simp) _
end Go.Proofs.Ythjooblibkckmaa
