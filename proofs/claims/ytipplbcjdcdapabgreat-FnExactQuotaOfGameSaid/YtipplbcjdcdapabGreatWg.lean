/- Contracts of the border of a rule that is an interface value. -/
import Derived.Test.YtipplbcjdcdapabGreatWb
import Derived.Test.YtipplbcjdcdapabGreatWh
import Derived.Test.YtipplbcjdcdapabGreatR7
import Derived.Test.YtipplbcjdcdapabGreatW5
import Derived.Test.YtipplbcjdcdapabGreatD1
namespace Go.Proofs.YtipplbcjdcdapabGreat
open Go.RowKit Vo

/-- An interface value of type T around x: a rule for n members by which the sets of p win. -/
structure Rule (p : Nat → Bool) (n : Nat) (T : TypeId) (x : Value) (ke kw : Nat) (w : World) : Prop where
  asks : AsksM p T x kw n w
  ee : ∀ args W, (callFunc ke args).run Tryz.prog W = .ok (.enter ke args) W
  me : ∀ W : World, (method 243 T x "loop.example/g01275/impl.everybody").run Tryz.prog W = .ok (ke, x) W
  ge : ∀ W, Below w.heap.size w W → Calls Tryz.prog ke #[x] W fun e W' => e = .returned (.int .u64 ((2^n - 1 : Nat) : Int)) ∧ Below W.heap.size W W'
theorem Rule.now {p n T x ke kw} {w w' : World} (h : Rule p n T x ke kw w) (hb : Below w.heap.size w w') : Rule p n T x ke kw w' :=
  ⟨h.asks.now hb, h.ee, h.me, fun W hb' => h.ge W (bfrom hb hb')⟩

theorem mem_all (n : Nat) (hn : n < 10) : (mem (2^n - 1) 9).length = n := by
  have : n = 0 ∨ n = 1 ∨ n = 2 ∨ n = 3 ∨ n = 4 ∨ n = 5 ∨ n = 6 ∨ n = 7 ∨ n = 8 ∨ n = 9 := by omega
  rcases this with h | h | h | h | h | h | h | h | h | h <;> subst h <;> decide

theorem own_new (w : World) (v : Value) (t : TypeId) : Own (w.alloc (.cells #[v] t)) w.heap.size t 1 (fun _ => v) := by
  refine ⟨#[v], heap_alloc_new w _, Nat.le_refl _, ?_⟩
  intro i hi
  have : i = 0 := Nat.lt_one_iff.1 hi
  subst this
  rfl

set_option maxHeartbeats 1000000 in
theorem border1_any (p : Nat → Bool) (n : Nat) (T : TypeId) (x : Value) (kw g s : Nat) (w : World) (ha : AsksM p T x kw n w) (hs : s < 2^n) (hc : w.cell? ⟨g, 0, none⟩ = some (.iface T x)) :
    Calls Tryz.prog 39 #[.int .u64 s, .pointer (some ⟨g, 0, none⟩)] w fun e w' => e = .returned (.bool (!p s)) ∧ Below w.heap.size w w' := by
  have HA := Lib.hid ha
  have eg := ha.enters
  have mw := ha.mw
  clear ha
  go_enter Tryz.func39, Tryz.ntmps39
  go_wp2_with (go_at_fn kw; refine (HA.out.gives _ s hs (Below.refl _ _)).mono ?_; rintro e w' ⟨rfl, hb'⟩)
  go_ret
  exact ⟨rfl, hb'⟩

/-- The border of a rule. -/
def BorderAt (p : Nat → Bool) (n : Nat) (w w' : World) (e : Ending) : Prop :=
  ∃ A c1 B c2, e = .returned (.agg #[.slice A (winL p n).length c1, .slice B (loseL p n).length c2]) ∧ SetsIn w' A (winL p n) ∧ (1 ≤ (winL p n).length → (winL p n).length ≤ c1 ∧ c1 ≤ maxLen) ∧ SetsIn w' B (loseL p n) ∧ Below w.heap.size w w'

set_option maxRecDepth 20000 in
set_option maxHeartbeats 2000000 in
theorem borderOf_any (p : Nat → Bool) (n : Nat) (T : TypeId) (x : Value) (ke kw : Nat) (w : World) (hn : n < 10) (hr : Rule p n T x ke kw w) :
    Calls Tryz.prog 21 #[.iface T x] w fun e w' => BorderAt p n w w' e := by
  have HR := Lib.hid hr
  have ee := hr.ee
  have me := hr.me
  have ew := hr.asks.enters
  have mw := hr.asks.mw
  have h512 := pow_lt (n := n) (by omega)
  have hs512 : 2^n - 1 < 512 := by omega
  have HMA := Lib.hid (mem_all n hn)
  clear hr
  have hb0 : Below w.heap.size w ((w.alloc (.cells #[.iface T x] 70)).alloc (.cells #[.slice none 0 0, .slice none 0 0] 51)) := (below1 w _).alloc (by simp) _
  have hx := (own_new w (.iface T x) 70).alloc (.cells #[.slice none 0 0, .slice none 0 0] 51)
  have hd := BoxT.new 51 (w.alloc (.cells #[.iface T x] 70)) (.slice none 0 0) (.slice none 0 0)
  simp only [World.size_alloc] at hd
  have KF := Lib.hid (show ∀ W, BoxT 51 W (w.heap.size + 1) (.slice none 0 0) (.slice none 0 0) → (W.frozen? ⟨w.heap.size + 1, 0, none⟩ = false ∧ W.frozen? ⟨w.heap.size + 1, 1, none⟩ = false) from fun W h => by unfold BoxT at h; exact ⟨by simp [World.frozen?, h], by simp [World.frozen?, h]⟩)
  go_enter Tryz.func21, Tryz.ntmps21
  go_wp2_with fail
  refine (HR.out.ge _ hb0).mono ?_
  rintro e w1 ⟨rfl, hb1⟩
  have g1 := bfrom hb0 hb1
  have hx1 := hx.below hb1 hx.lt
  have hd1 := hd.now hb1
  have hc1 := hx1.cell (i := 0) (by omega)
  clear hb0 hx hd hb1
  go_wp2_with (go_at_call 36; refine (size_any (2^n-1) _ hs512).mono ?_; rintro e w' ⟨rfl, rfl⟩; rw [HMA.out])
  refine (leastSetsM_any p T x kw n w1 hn (HR.out.asks.now g1)).mono ?_
  rintro e w2 ⟨A, c1, rfl, hA, hb2⟩
  have HA2 := Lib.hid hA
  have g2 := bfrom g1 hb2
  have hx2 := hx1.below hb2 hx1.lt
  have hd2 := hd1.now hb2
  clear hc1 hA
  have hc2 := hx2.cell (i := 0) (by omega)
  have HX2 := Lib.hid hx2
  have AS := Lib.hid (show Asks (fun s => !p s) 39 #[] #[.pointer (some ⟨w.heap.size, 0, none⟩)] n w2 from
    ⟨enters_of Tryz.func39 (by kernel_rfl) rfl, fun W s hs hb => border1_any p n T x kw w.heap.size s W (HR.out.asks.now (bfrom g2 hb)) hs ((HX2.out.below hb HX2.out.lt).cell (i := 0) (by omega))⟩)
  go_wp2_with fail
  refine (greatestSets_any (fun s => !p s) _ _ _ n _ hn AS.out).mono ?_
  rintro e w3 ⟨B, c2, rfl, hB, hb3⟩
  have HB3 := Lib.hid hB
  have g3 := bfrom g2 hb3
  have hd3 := hd2.now hb3
  clear hc2 hB
  obtain ⟨d0, d1⟩ := hd3.cells
  obtain ⟨f0, f1⟩ := KF.out _ hd3
  have hz1 := hd1.lt
  have hz2 := hd2.lt
  go_wp2
  refine bodyPost_ret (v := .agg #[.slice A ((inOrder n).filter (leastP p n)).length c1, .slice B ((inOrder n).filter (greatP (fun s => !p s) n)).length c2]) (by simp [results, Tryz.results21, go_sem, d0, d1]) rfl ?_
  have hA3 := owns_far (owns_far (owns_now HA2.out hb3) (p := ⟨w.heap.size + 1, 0, none⟩) (by simpa using hz1) (.slice A ((inOrder n).filter (leastP p n)).length c1)) (p := ⟨w.heap.size + 1, 1, none⟩) (by simpa using hz1) (.slice B ((inOrder n).filter (greatP (fun s => !p s) n)).length c2)
  have hB3 := owns_far (owns_far HB3.out (p := ⟨w.heap.size + 1, 0, none⟩) (by simpa using hz2) (.slice A ((inOrder n).filter (leastP p n)).length c1)) (p := ⟨w.heap.size + 1, 1, none⟩) (by simpa using hz2) (.slice B ((inOrder n).filter (greatP (fun s => !p s) n)).length c2)
  refine ⟨A, c1, B, c2, rfl, setsIn_row hA3, fun h => ?_, setsIn_row hB3, (g3.setCell (by simp) _).setCell (by simp) _⟩
  obtain ⟨g, cp, hv, _, h3, h4⟩ := owns_head hA3 h
  obtain ⟨_, rfl⟩ : A = some ⟨g, 0, none⟩ ∧ c1 = cp := by simpa using hv
  exact ⟨h3, h4⟩
end Go.Proofs.YtipplbcjdcdapabGreat
