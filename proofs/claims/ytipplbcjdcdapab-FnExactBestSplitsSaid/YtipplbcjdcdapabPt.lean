/- Contracts of the program's split of a member. -/
import Derived.Test.YtipplbcjdcdapabPs
import Derived.Test.YtipplbcjdcdapabPo
import Derived.Outline
namespace Go.Proofs.Ytipplbcjdcdapab
open Go.RowKit Vo

theorem Box3.far {t : TypeId} {w : World} {g : Nat} {a b c : Value} (h : Box3 t w g a b c) {p : Addr} (hp : g ≠ p.block) (u : Value) : Box3 t (w.setCell p u) g a b c := (Below.heap_setCell w p u g hp).trans h
theorem held_far3 {base base' : Nat} {w : World} {A : Option Addr} {m : Nat} {L : List Int} (h : Held base' w A m L) (hb : base ≤ base') {p p' p'' : Addr} (hp : p.block < base') (hp' : p'.block < base') (hp'' : p''.block < base') {u u' u'' : Value} : Held base (((w.setCell p u).setCell p' u').setCell p'' u'') A m L := by
  rcases h with h | ⟨g, hA, hg, hi⟩
  · exact Or.inl h
  · exact Or.inr ⟨g, hA, by omega, ((hi.far (by omega) _).far (by omega) _).far (by omega) _⟩
theorem two_bits {n k : Nat} (hk : k < n) (hn : n ≤ 9) : 2^k ||| 2^(k+1) < 1024 := Nat.or_lt_two_pow (n := 10) (Nat.pow_lt_pow_right (by omega) (by omega)) (Nat.pow_lt_pow_right (by omega) (by omega))

set_option maxRecDepth 20000 in
set_option maxHeartbeats 6000000 in
theorem split_run (q : Int) (b off n k : Nat) (ws : List Int) (y : Int) (ok : Bool) (w : World) (hk : k < n) (hg : Vo.Good q ws n) (hy0 : 0 ≤ y) (hy1 : y ≤ ws.getD k 0) (hok : goodB q (splitL ws n k y) (n + 1) = ok) (hsl : Sl w b off n ws) :
    Calls Try.prog 48 #[.agg #[.int .i64 q, .slice (some ⟨b, off, none⟩) n n], .int .i64 k, .int .i64 y] w fun e w' => PartyAt ok q (n + 1) (splitL ws n k y) (2^k ||| 2^(k+1)) w w' e := by
  have HSL := Lib.hid hsl
  have HG := Lib.hid hg
  have hn9 := hg.hi
  have hn1 := hg.lo
  have HMO := Lib.hid (show memOk q ws n k = true from by unfold memOk; rw [goodB_true hg, inB_yes (by omega) (by omega)]; rfl)
  have hbk := hg.ok k hk
  have HCE := Lib.hid (splitL_cells ws n k y)
  have HLEN := Lib.hid (splitL_len (ws := ws) (x := y) hk)
  have HOK := Lib.hid hok
  obtain ⟨v, hv⟩ : ∃ v, v = ws.getD k 0 := ⟨_, rfl⟩
  have HV := Lib.hid hv
  rw [← hv] at hy1 hbk HCE
  clear hok hsl hg hv
  have hb0 : Below w.heap.size w ((w.alloc (.cells #[.int .i64 q, .slice (some ⟨b, off, none⟩) n n] 41)).alloc (.cells #[.int .i64 0, .slice none 0 0, .int .u64 0] 80)) := (below1 w _).alloc (by simp) _
  have hx := (Box.new w (.int .i64 q) (.slice (some ⟨b, off, none⟩) n n)).alloc (.cells #[.int .i64 0, .slice none 0 0, .int .u64 0] 80)
  have hr := Box3.new 80 (w.alloc (.cells #[.int .i64 q, .slice (some ⟨b, off, none⟩) n n] 41)) (.int .i64 0) (.slice none 0 0) (.int .u64 0)
  simp only [World.size_alloc] at hr
  have HW1 := Lib.hid (fun W => with0_any k W (by omega))
  have HW2 := Lib.hid (show ∀ W, Calls Try.prog 79 #[.int .u64 ((2^k : Nat) : Int), .int .i64 ((k + 1 : Nat) : Int)] W fun e w' => e = .returned (.int .u64 ((2^k ||| 2^(k+1) : Nat) : Int)) ∧ W = w' from fun W => with_any (2^k) (k+1) W (by omega) (Nat.pow_lt_pow_right (n := 9) (by omega) (by omega)))
  have hk1 : ((k + 1 : Nat) : Int) = (k : Int) + 1 := by omega
  rw [hk1] at HW2
  go_enter Try.func48, Try.ntmps48
  go_wp2_with fail
  refine (hasMember_any q _ n n ws k _ (by omega) (Known.of (HSL.out.now hb0))).mono ?_
  rintro e w1 ⟨rfl, hb1⟩
  rw [HMO.out]
  have g1 := bfrom hb0 hb1
  have hx1 := hx.now hb1
  have hr1 := hr.now hb1
  have hs1 := Lib.hid (HSL.out.now g1)
  clear hx hr hb0 hb1
  obtain ⟨c0, c1⟩ := hx1.cells
  have hci : w1.cell? ⟨b, off + k, none⟩ = some (.int .i64 v) := by rw [HV.out]; exact hs1.out.cell k hk
  have hkn' : (k : Int) < n := by omega
  have hkn2 : (k : Int) ≤ n := by omega
  have hkn3 : (k : Int) + 1 ≤ n := by omega
  have hk0 : (0 : Int) ≤ (k : Int) + 1 := by omega
  have hwk : IntKind.i64.wrap ((k : Int) + 1) = (k : Int) + 1 := IntWalk.i64_in _ (by omega)
  have hwt : ((k : Int) + 1).toNat = k + 1 := by omega
  obtain ⟨gp, hgp⟩ : ∃ gp, gp = w1.heap.size := ⟨_, rfl⟩
  have g2 := g1.alloc g1.size (.cells #[.int .i64 y, .int .i64 (v - y)] 3)
  have hx2 := hx1.alloc (.cells #[.int .i64 y, .int .i64 (v - y)] 3)
  have hr2 := hr1.alloc (.cells #[.int .i64 y, .int .i64 (v - y)] 3)
  have hs2 := Lib.hid (hs1.out.alloc (.cells #[.int .i64 y, .int .i64 (v - y)] 3))
  have hp2 := BoxT.new 3 w1 (.int .i64 y) (.int .i64 (v - y))
  rw [← hgp] at hp2
  have hxl := hx1.lt
  have hrl := hr1.lt
  obtain ⟨w2, hw2⟩ : ∃ w2, w2 = w1.alloc (.cells #[.int .i64 y, .int .i64 (v - y)] 3) := ⟨_, rfl⟩
  have hsz2 : w.heap.size + 1 < w2.heap.size := by rw [hw2, World.size_alloc]; omega
  rw [← hw2] at g2 hx2 hr2 hs2 hp2
  have HPART := Lib.hid (show ∀ W', Below w2.heap.size w2 W' → ∀ j u, [Value.int .i64 y, Value.int .i64 (v - y)][j]? = some u → W'.cell? ((⟨gp, 0, none⟩ : Addr).add j) = some u from fun W' hb j u hu => by
    obtain ⟨a0, a1⟩ := (hp2.now hb).cells
    rcases j with _ | _ | j
    · simp at hu; subst hu; exact a0
    · simp at hu; subst hu; exact a1
    · simp at hu)
  have HINT := Lib.hid (show ∀ (W : World) (base gg cp : Nat), W.ownsRow base 3 1 (.slice (some ⟨gg, 0, none⟩) (n + 1) cp) (n + 1) ((splitL ws n k y).map (Value.int .i64)) → Ints W gg (n + 1) (splitL ws n k y) from fun W base gg cp h => Own.of_own h fun i hi => by
    have : i < (splitL ws n k y).length := by rw [HLEN.out]; exact hi
    simp [List.getD_eq_getElem?_getD, this])
  have HWW := Lib.hid hw2
  have HGP := Lib.hid hgp
  clear hw2 hgp hs1 hx1 hr1 g1 hp2
  obtain ⟨c2, c3⟩ := hx2.cells
  rcases Nat.lt_or_ge (k + 1) n with hkl | hkl
  · have hkl' : (k : Int) + 1 < n := by omega
    have hnk : ¬ (n = k + 1) := by omega
    have HSUM := Lib.hid (show k + 2 + (n - (k + 1)) = n + 1 from by omega)
    have HCE2 := Lib.hid (show cut ws 0 k ++ [Value.int .i64 y, Value.int .i64 (v - y)] ++ cut ws (k+1) (n - (k+1)) = (splitL ws n k y).map (Value.int .i64) from HCE.out)
    have HTAIL := Lib.hid (show ∀ W', Below w2.heap.size w2 W' → ∀ j u, (cut ws (k+1) (n - (k+1)))[j]? = some u → W'.cell? ((⟨b, off + (k+1), none⟩ : Addr).add j) = some u from fun W' hb => cut_cells (hs2.out.now hb) (by omega) _ rfl)
    have HCC := Lib.hid (show ∀ (g : Nat) (W : World), Below w2.heap.size w2 W → (W.cell? ⟨g, 0, none⟩ = some (.slice (some ⟨b, off, none⟩) k n) ∧ W.cell? ⟨g, 1, none⟩ = some (.slice (some ⟨gp, 0, none⟩) 2 2) ∧ W.cell? ⟨g, 2, none⟩ = some (.slice (some ⟨b, off + (k + 1), none⟩) (n - (k + 1)) (n - (k + 1)))) → Calls Try.prog 78 #[.slice (some ⟨g, 0, none⟩) 3 3] W fun e w' => ∃ gg c, e = .returned (.slice (some ⟨gg, 0, none⟩) (n + 1) c) ∧ w'.ownsRow W.heap.size 3 1 (.slice (some ⟨gg, 0, none⟩) (n + 1) c) (n + 1) ((splitL ws n k y).map (Value.int .i64)) ∧ Below W.heap.size W w' from fun g W hb hc => by
      have h := concat3_any ⟨b, off, none⟩ ⟨gp, 0, none⟩ ⟨b, off + (k + 1), none⟩ k 2 ((n - (k + 1))) n 2 (n - (k + 1)) g (cut ws 0 k) [Value.int .i64 y, Value.int .i64 (v - y)] (cut ws (k+1) ((n - (k + 1)))) W (by omega) (by omega) (cut_len _ _ _) rfl (cut_len _ _ _) (cut_one _ _ _) (by intro u hu; simp at hu; rcases hu with rfl | rfl <;> rfl) (cut_one _ _ _)
        (fun W' hb' => cut_cells (hs2.out.now (bfrom (Below.refl _ _) (hb.trans (hb'.mono hb.size)))) (by omega) off (by omega))
        (fun W' hb' => HPART.out W' (hb.trans (hb'.mono hb.size)))
        (fun W' hb' => HTAIL.out W' (hb.trans (hb'.mono hb.size))) hc.1 hc.2.1 hc.2.2
      rw [HSUM.out, HCE2.out] at h
      exact h)
    have HBE0 := Lib.hid (show Below w2.heap.size w2 ((w2.alloc (.cells #[.slice (some ⟨b, off, none⟩) k n, .slice (some ⟨gp, 0, none⟩) 2 2, .slice (some ⟨b, off + (k + 1), none⟩) (n - (k + 1)) (n - (k + 1))] 26)).drew) from ((Below.refl _ w2).alloc (Nat.le_refl _) (.cells #[.slice (some ⟨b, off, none⟩) k n, .slice (some ⟨gp, 0, none⟩) 2 2, .slice (some ⟨b, off + (k + 1), none⟩) (n - (k + 1)) (n - (k + 1))] 26)).drew)
    have HBE1 := Lib.hid (show Below w2.heap.size w2 (((w2.alloc (.cells #[.slice (some ⟨b, off, none⟩) k n, .slice (some ⟨gp, 0, none⟩) 2 2, .slice (some ⟨b, off + (k + 1), none⟩) (n - (k + 1)) (n - (k + 1))] 26)).alloc (.cells #[.int .i64 0, .slice none 0 0] 41)).drew) from (((Below.refl _ w2).alloc (Nat.le_refl _) (.cells #[.slice (some ⟨b, off, none⟩) k n, .slice (some ⟨gp, 0, none⟩) 2 2, .slice (some ⟨b, off + (k + 1), none⟩) (n - (k + 1)) (n - (k + 1))] 26)).alloc (by simp) (.cells #[.int .i64 0, .slice none 0 0] 41)).drew)
    have HBE2 := Lib.hid (show Below w2.heap.size w2 (((w2.alloc (.cells #[.int .i64 0, .slice none 0 0] 41)).alloc (.cells #[.slice (some ⟨b, off, none⟩) k n, .slice (some ⟨gp, 0, none⟩) 2 2, .slice (some ⟨b, off + (k + 1), none⟩) (n - (k + 1)) (n - (k + 1))] 26)).drew) from (((Below.refl _ w2).alloc (Nat.le_refl _) (.cells #[.int .i64 0, .slice none 0 0] 41)).alloc (by simp) (.cells #[.slice (some ⟨b, off, none⟩) k n, .slice (some ⟨gp, 0, none⟩) 2 2, .slice (some ⟨b, off + (k + 1), none⟩) (n - (k + 1)) (n - (k + 1))] 26)).drew)
    have HLT0 := Lib.hid (show Box3 26 ((w2.alloc (.cells #[.slice (some ⟨b, off, none⟩) k n, .slice (some ⟨gp, 0, none⟩) 2 2, .slice (some ⟨b, off + (k + 1), none⟩) (n - (k + 1)) (n - (k + 1))] 26)).drew) w2.heap.size (.slice (some ⟨b, off, none⟩) k n) (.slice (some ⟨gp, 0, none⟩) 2 2) (.slice (some ⟨b, off + (k + 1), none⟩) (n - (k + 1)) (n - (k + 1))) from Box3.new 26 w2 (.slice (some ⟨b, off, none⟩) k n) (.slice (some ⟨gp, 0, none⟩) 2 2) (.slice (some ⟨b, off + (k + 1), none⟩) (n - (k + 1)) (n - (k + 1)))).cells
    have HLT1 := Lib.hid (show Box3 26 (((w2.alloc (.cells #[.slice (some ⟨b, off, none⟩) k n, .slice (some ⟨gp, 0, none⟩) 2 2, .slice (some ⟨b, off + (k + 1), none⟩) (n - (k + 1)) (n - (k + 1))] 26)).alloc (.cells #[.int .i64 0, .slice none 0 0] 41)).drew) w2.heap.size (.slice (some ⟨b, off, none⟩) k n) (.slice (some ⟨gp, 0, none⟩) 2 2) (.slice (some ⟨b, off + (k + 1), none⟩) (n - (k + 1)) (n - (k + 1))) from (Box3.new 26 w2 (.slice (some ⟨b, off, none⟩) k n) (.slice (some ⟨gp, 0, none⟩) 2 2) (.slice (some ⟨b, off + (k + 1), none⟩) (n - (k + 1)) (n - (k + 1)))).alloc (.cells #[.int .i64 0, .slice none 0 0] 41)).cells
    have HLT2 := Lib.hid (show Box3 26 (((w2.alloc (.cells #[.int .i64 0, .slice none 0 0] 41)).alloc (.cells #[.slice (some ⟨b, off, none⟩) k n, .slice (some ⟨gp, 0, none⟩) 2 2, .slice (some ⟨b, off + (k + 1), none⟩) (n - (k + 1)) (n - (k + 1))] 26)).drew) (w2.heap.size + 1) (.slice (some ⟨b, off, none⟩) k n) (.slice (some ⟨gp, 0, none⟩) 2 2) (.slice (some ⟨b, off + (k + 1), none⟩) (n - (k + 1)) (n - (k + 1))) from (by have h := Box3.new 26 (w2.alloc (.cells #[.int .i64 0, .slice none 0 0] 41)) (.slice (some ⟨b, off, none⟩) k n) (.slice (some ⟨gp, 0, none⟩) 2 2) (.slice (some ⟨b, off + (k + 1), none⟩) (n - (k + 1)) (n - (k + 1))); simp only [World.size_alloc] at h; exact h)).cells
    have HSZ1 := Lib.hid (show w2.heap.size + 1 < (((w2.alloc (.cells #[.slice (some ⟨b, off, none⟩) k n, .slice (some ⟨gp, 0, none⟩) 2 2, .slice (some ⟨b, off + (k + 1), none⟩) (n - (k + 1)) (n - (k + 1))] 26)).alloc (.cells #[.int .i64 0, .slice none 0 0] 41)).drew).heap.size from (by show _ < ((w2.alloc _).alloc _).heap.size; simp))
    have HSZ2 := Lib.hid (show w2.heap.size < (((w2.alloc (.cells #[.int .i64 0, .slice none 0 0] 41)).alloc (.cells #[.slice (some ⟨b, off, none⟩) k n, .slice (some ⟨gp, 0, none⟩) 2 2, .slice (some ⟨b, off + (k + 1), none⟩) (n - (k + 1)) (n - (k + 1))] 26)).drew).heap.size from (by show _ < ((w2.alloc _).alloc _).heap.size; simp; omega))
    have HBX1 := Lib.hid (show BoxT 41 (((w2.alloc (.cells #[.slice (some ⟨b, off, none⟩) k n, .slice (some ⟨gp, 0, none⟩) 2 2, .slice (some ⟨b, off + (k + 1), none⟩) (n - (k + 1)) (n - (k + 1))] 26)).alloc (.cells #[.int .i64 0, .slice none 0 0] 41)).drew) (w2.heap.size + 1) (.int .i64 0) (.slice none 0 0) from (by have h := Box.new (w2.alloc (.cells #[.slice (some ⟨b, off, none⟩) k n, .slice (some ⟨gp, 0, none⟩) 2 2, .slice (some ⟨b, off + (k + 1), none⟩) (n - (k + 1)) (n - (k + 1))] 26)) (.int .i64 0) (.slice none 0 0); simp only [World.size_alloc] at h; exact h))
    have HBX2 := Lib.hid (show BoxT 41 (((w2.alloc (.cells #[.int .i64 0, .slice none 0 0] 41)).alloc (.cells #[.slice (some ⟨b, off, none⟩) k n, .slice (some ⟨gp, 0, none⟩) 2 2, .slice (some ⟨b, off + (k + 1), none⟩) (n - (k + 1)) (n - (k + 1))] 26)).drew) w2.heap.size (.int .i64 0) (.slice none 0 0) from (Box.new w2 (.int .i64 0) (.slice none 0 0)).alloc (.cells #[.slice (some ⟨b, off, none⟩) k n, .slice (some ⟨gp, 0, none⟩) 2 2, .slice (some ⟨b, off + (k + 1), none⟩) (n - (k + 1)) (n - (k + 1))] 26))
    go_wp2_with fail
    rw [← HGP.out]
    rw [← HWW.out]
    clear c0 c1 hci
    obtain ⟨c0, c1⟩ : _ ∧ _ := ⟨c2, c3⟩
    go_region_held3 (fun w' => w'.cell? ⟨w.heap.size, 0, none⟩ = some (.int .i64 q) ∧ w'.cell? ⟨w.heap.size, 1, none⟩ = some (.slice (some ⟨b, off, none⟩) n n))
      (first | with_reducible exact ⟨c0, c1⟩ | with_reducible exact ⟨k0, k1⟩ | with_reducible exact (hx2.alloc _).cells | with_reducible exact (hx2.alloc _).drew.cells | with_reducible exact ((hx2.alloc _).alloc _).cells | with_reducible exact ((hx2.alloc _).alloc _).drew.cells | with_reducible exact (hx4.alloc _).cells | with_reducible exact ((hx4.far (p := ⟨w2.heap.size, 0, none⟩) (show w.heap.size ≠ w2.heap.size by omega) _).far (p := ⟨w2.heap.size, 1, none⟩) (show w.heap.size ≠ w2.heap.size by omega) _).cells | with_reducible exact ((hx4.far (p := ⟨w2.heap.size + 1, 0, none⟩) (show w.heap.size ≠ w2.heap.size + 1 by omega) _).far (p := ⟨w2.heap.size + 1, 1, none⟩) (show w.heap.size ≠ w2.heap.size + 1 by omega) _).cells | go_keep)
      (first
        | (go_at_call 78; with_reducible refine (HCC.out w2.heap.size ((w2.alloc (.cells #[.slice (some ⟨b, off, none⟩) k n, .slice (some ⟨gp, 0, none⟩) 2 2, .slice (some ⟨b, off + (k + 1), none⟩) (n - (k + 1)) (n - (k + 1))] 26)).drew) HBE0.out HLT0.out).mono ?_; rintro e w4 ⟨gg, cp, rfl, hown4, hb4⟩; have b24 := (HBE0.out).trans (hb4.mono (HBE0.out).size); have hx4 := hx2.now b24; have hr4 := hr2.now b24; have g4 := bfrom g2 b24; have hgg4 : w2.heap.size ≤ gg := (Nat.le_trans (HBE0.out).size (owns_le hown4 rfl)); have hlt4 : gg < w4.heap.size := owns_lt hown4 rfl; have HI4 := Lib.hid (HINT.out _ _ _ _ hown4); have hne4 : True := trivial; have hn4 : True := trivial; obtain ⟨k0, k1⟩ := hx4.cells)
        | (go_at_call 78; with_reducible refine (HCC.out w2.heap.size (((w2.alloc (.cells #[.slice (some ⟨b, off, none⟩) k n, .slice (some ⟨gp, 0, none⟩) 2 2, .slice (some ⟨b, off + (k + 1), none⟩) (n - (k + 1)) (n - (k + 1))] 26)).alloc (.cells #[.int .i64 0, .slice none 0 0] 41)).drew) HBE1.out HLT1.out).mono ?_; rintro e w4 ⟨gg, cp, rfl, hown4, hb4⟩; have b24 := (HBE1.out).trans (hb4.mono (HBE1.out).size); have hx4 := hx2.now b24; have hr4 := hr2.now b24; have g4 := bfrom g2 b24; have hgg4 : w2.heap.size ≤ gg := (Nat.le_trans (HBE1.out).size (owns_le hown4 rfl)); have hlt4 : gg < w4.heap.size := owns_lt hown4 rfl; have HI4 := Lib.hid (HINT.out _ _ _ _ hown4); have hne4 : gg ≠ w2.heap.size + 1 := (Nat.ne_of_gt (Nat.lt_of_lt_of_le HSZ1.out (owns_le hown4 rfl))); have hn4 := (show BoxT 41 w4 (w2.heap.size + 1) (.int .i64 0) (.slice none 0 0) from HBX1.out.now hb4); obtain ⟨p0, p1⟩ := hn4.cells; obtain ⟨q0, q1⟩ := frozen2 hn4; obtain ⟨k0, k1⟩ := hx4.cells)
        | (go_at_call 78; with_reducible refine (HCC.out (w2.heap.size + 1) (((w2.alloc (.cells #[.int .i64 0, .slice none 0 0] 41)).alloc (.cells #[.slice (some ⟨b, off, none⟩) k n, .slice (some ⟨gp, 0, none⟩) 2 2, .slice (some ⟨b, off + (k + 1), none⟩) (n - (k + 1)) (n - (k + 1))] 26)).drew) HBE2.out HLT2.out).mono ?_; rintro e w4 ⟨gg, cp, rfl, hown4, hb4⟩; have b24 := (HBE2.out).trans (hb4.mono (HBE2.out).size); have hx4 := hx2.now b24; have hr4 := hr2.now b24; have g4 := bfrom g2 b24; have hgg4 : w2.heap.size ≤ gg := (Nat.le_trans (HBE2.out).size (owns_le hown4 rfl)); have hlt4 : gg < w4.heap.size := owns_lt hown4 rfl; have HI4 := Lib.hid (HINT.out _ _ _ _ hown4); have hne4 : gg ≠ w2.heap.size := (Nat.ne_of_gt (Nat.lt_of_lt_of_le HSZ2.out (owns_le hown4 rfl))); have hn4 := (show BoxT 41 w4 (w2.heap.size) (.int .i64 0) (.slice none 0 0) from HBX2.out.now hb4); obtain ⟨p0, p1⟩ := hn4.cells; obtain ⟨q0, q1⟩ := frozen2 hn4; obtain ⟨k0, k1⟩ := hx4.cells)
        | fail)
    all_goals (first
      | (have hb9 := Box.new w4 (.int .i64 q) (.slice (some ⟨gg, 0, none⟩) (n + 1) cp)
         have hr9 := hr4.alloc (.cells #[.int .i64 q, .slice (some ⟨gg, 0, none⟩) (n + 1) cp] 41)
         have hI9 := Own.alloc HI4.out (.cells #[.int .i64 q, .slice (some ⟨gg, 0, none⟩) (n + 1) cp] 41)
         have g9 := g4.alloc g4.size (.cells #[.int .i64 q, .slice (some ⟨gg, 0, none⟩) (n + 1) cp] 41)
         have hrn : w.heap.size + 1 ≠ w4.heap.size := Nat.ne_of_lt hr4.lt
         obtain ⟨W9, hW9⟩ : ∃ W9, W9 = w4.alloc (.cells #[.int .i64 q, .slice (some ⟨gg, 0, none⟩) (n + 1) cp] 41) := ⟨_, rfl⟩
         rw [← hW9] at hb9 hr9 hI9 g9 ⊢
         clear hW9
         obtain ⟨nb, hnb⟩ : ∃ nb, nb = w4.heap.size := ⟨_, rfl⟩
         rw [← hnb] at hb9 hrn ⊢
         clear hnb)
      | (have hb9 := box_put2 (show BoxT 41 w4 (w2.heap.size) (.int .i64 0) (.slice none 0 0) from hn4) (.int .i64 q) (.slice (some ⟨gg, 0, none⟩) (n + 1) cp)
         have hne : gg ≠ w2.heap.size := hne4
         have hrn : w.heap.size + 1 ≠ w2.heap.size := by omega
         have hr9 := (hr4.far (p := ⟨w2.heap.size, 0, none⟩) hrn (.int .i64 q)).far (p := ⟨w2.heap.size, 1, none⟩) hrn (.slice (some ⟨gg, 0, none⟩) (n + 1) cp)
         have hI9 := Own.far (Own.far HI4.out (p := ⟨w2.heap.size, 0, none⟩) hne (.int .i64 q)) (p := ⟨w2.heap.size, 1, none⟩) hne (.slice (some ⟨gg, 0, none⟩) (n + 1) cp)
         have g9 := (g4.setCell (p := ⟨w2.heap.size, 0, none⟩) (show w.heap.size ≤ w2.heap.size by omega) (.int .i64 q)).setCell (p := ⟨w2.heap.size, 1, none⟩) (show w.heap.size ≤ w2.heap.size by omega) (.slice (some ⟨gg, 0, none⟩) (n + 1) cp)
         obtain ⟨W9, hW9⟩ : ∃ W9, W9 = (w4.setCell ⟨w2.heap.size, 0, none⟩ (.int .i64 q)).setCell ⟨w2.heap.size, 1, none⟩ (.slice (some ⟨gg, 0, none⟩) (n + 1) cp) := ⟨_, rfl⟩
         rw [← hW9] at hb9 hr9 hI9 g9 ⊢
         clear hW9
         obtain ⟨nb, hnb⟩ : ∃ nb, nb = w2.heap.size := ⟨_, rfl⟩
         rw [← hnb] at hb9 hrn ⊢
         clear hnb)
      | (have hb9 := box_put2 (show BoxT 41 w4 (w2.heap.size + 1) (.int .i64 0) (.slice none 0 0) from hn4) (.int .i64 q) (.slice (some ⟨gg, 0, none⟩) (n + 1) cp)
         have hne : gg ≠ w2.heap.size + 1 := hne4
         have hrn : w.heap.size + 1 ≠ w2.heap.size + 1 := by omega
         have hr9 := (hr4.far (p := ⟨w2.heap.size + 1, 0, none⟩) hrn (.int .i64 q)).far (p := ⟨w2.heap.size + 1, 1, none⟩) hrn (.slice (some ⟨gg, 0, none⟩) (n + 1) cp)
         have hI9 := Own.far (Own.far HI4.out (p := ⟨w2.heap.size + 1, 0, none⟩) hne (.int .i64 q)) (p := ⟨w2.heap.size + 1, 1, none⟩) hne (.slice (some ⟨gg, 0, none⟩) (n + 1) cp)
         have g9 := (g4.setCell (p := ⟨w2.heap.size + 1, 0, none⟩) (show w.heap.size ≤ w2.heap.size + 1 by omega) (.int .i64 q)).setCell (p := ⟨w2.heap.size + 1, 1, none⟩) (show w.heap.size ≤ w2.heap.size + 1 by omega) (.slice (some ⟨gg, 0, none⟩) (n + 1) cp)
         obtain ⟨W9, hW9⟩ : ∃ W9, W9 = (w4.setCell ⟨w2.heap.size + 1, 0, none⟩ (.int .i64 q)).setCell ⟨w2.heap.size + 1, 1, none⟩ (.slice (some ⟨gg, 0, none⟩) (n + 1) cp) := ⟨_, rfl⟩
         rw [← hW9] at hb9 hr9 hI9 g9 ⊢
         clear hW9
         obtain ⟨nb, hnb⟩ : ∃ nb, nb = w2.heap.size + 1 := ⟨_, rfl⟩
         rw [← hnb] at hb9 hrn ⊢
         clear hnb))
    all_goals
      have HI9 := Lib.hid hI9
      have HFD := Lib.hid (show ∀ wD, Below W9.drew.heap.size W9.drew wD → (Box wD nb (.int .i64 q) (.slice (some ⟨gg, 0, none⟩) (n + 1) cp) ∧ Box3 80 wD (w.heap.size + 1) (.int .i64 0) (.slice none 0 0) (.int .u64 0) ∧ Below w.heap.size w wD ∧ Ints wD gg (n + 1) (splitL ws n k y)) from fun wD hb => ⟨hb9.drew.now hb, hr9.drew.now hb, bfrom g9.drew hb, Own.below (Own.drew hI9) hb (Own.lt (Own.drew hI9))⟩)
      have HI9d := Lib.hid (show Ints W9.drew gg (n+1) (splitL ws n k y) from Own.drew hI9)
      have hgg9 : w.heap.size ≤ gg := by omega
      clear hI9 hx4 hr4 g4 hb4 b24 hown4 HI4 hn4 hne4 hlt4 k0 k1 c0 c1 HCC HBE0 HBE1 HBE2 HLT0 HLT1 HLT2 HBX1 HBX2 HSZ1 HSZ2
      obtain ⟨s, hs⟩ : ∃ s, s = 2^k ||| 2^(k+1) := ⟨_, rfl⟩
      have HSE := Lib.hid hs
      have HW2s := HW2
      rw [← hs] at HW2s
      have HW1s := HW1
      obtain ⟨s0, hs0⟩ : ∃ s0, s0 = 2^k := ⟨_, rfl⟩
      rw [← hs0] at HW1s HW2s
      clear hs hs0
      have hk9 := kept3a hb9 hr9
      have HKE := Lib.hid (show ∀ (wD : World) (a b c : Value), Box wD nb (.int .i64 q) (.slice (some ⟨gg, 0, none⟩) (n + 1) cp) → Box3 80 wD (w.heap.size + 1) (.int .i64 0) (.slice none 0 0) (.int .u64 0) → _ from fun wD a b c h1 h2 => kept3 (a := a) (b := b) (c := c) h1 h2 (Ne.symm hrn))
      cases ok with
      | true =>
        have HCH := Lib.hid (fun W (h : Ints W gg (n+1) (splitL ws n k y)) => checkedP_yes q (some ⟨gg, 0, none⟩) (n+1) cp s (splitL ws n k y) W (by omega) (Known.of (Ints.sl h)) HOK.out)
        go_wp2_with fail
        go_region_held3 (fun w' => w'.cell? ⟨nb, 0, none⟩ = some (.int .i64 q) ∧ w'.cell? ⟨nb, 1, none⟩ = some (.slice (some ⟨gg, 0, none⟩) (n + 1) cp) ∧ (w'.cell? ⟨w.heap.size + 1, 0, none⟩).isSome = true ∧ (w'.cell? ⟨w.heap.size + 1, 1, none⟩).isSome = true ∧ (w'.cell? ⟨w.heap.size + 1, 2, none⟩).isSome = true ∧ w'.frozen? ⟨w.heap.size + 1, 0, none⟩ = false ∧ w'.frozen? ⟨w.heap.size + 1, 1, none⟩ = false ∧ w'.frozen? ⟨w.heap.size + 1, 2, none⟩ = false)
          (first | with_reducible exact hk9 | with_reducible exact hkD | with_reducible exact hkE | go_keep)
          (first
            | (go_at_call 79; with_reducible refine (HW1s.out _).mono ?_; rintro e wB ⟨rfl, rfl⟩)
            | (go_at_call 79; with_reducible refine (HW2s.out _).mono ?_; rintro e wC ⟨rfl, rfl⟩)
            | (go_at_call 80; with_reducible refine (HCH.out _ HI9d.out).mono ?_; rintro e wD ⟨rfl, hbD⟩; obtain ⟨hbD', hrD, gD, hID⟩ := HFD.out _ hbD; have HID := Lib.hid hID; have hkD := kept3a hbD' hrD; have hkE := HKE.out wD (.int .i64 q) (.slice (some ⟨gg, 0, none⟩) (n + 1) cp) (.int .u64 s) hbD' hrD; obtain ⟨d0, d1, d2⟩ := hrD.cells; obtain ⟨f0, f1, f2⟩ := frozen_box3 hrD)
            | fail)
        all_goals
          have hrF := hrD.put (.int .i64 q) (.slice (some ⟨gg, 0, none⟩) (n + 1) cp) (.int .u64 s)
          obtain ⟨e0, e1, e2⟩ := hrF.cells
          go_wp2
          refine bodyPost_ret (v := .tuple #[.agg #[.int .i64 q, .slice (some ⟨gg, 0, none⟩) (n + 1) cp, .int .u64 s], .bool true]) (by simp [results, Try.results48, go_sem, e0, e1, e2]) rfl ?_
          have hgr : gg ≠ w.heap.size + 1 := by omega
          rw [← HSE.out]
          exact ⟨_, _, rfl, Or.inr ⟨gg, rfl, hgg9, ((HID.out.far (by simpa using hgr) _).far (by simpa using hgr) _).far (by simpa using hgr) _⟩, ((gD.setCell (by simp) _).setCell (by simp) _).setCell (by simp) _⟩
      | false =>
        have HCH := Lib.hid (fun W (h : Ints W gg (n+1) (splitL ws n k y)) => checkedP_no q (some ⟨gg, 0, none⟩) (n+1) cp s (splitL ws n k y) W (by omega) (Known.of (Ints.sl h)) HOK.out)
        go_wp2_with fail
        go_region_held3 (fun w' => w'.cell? ⟨nb, 0, none⟩ = some (.int .i64 q) ∧ w'.cell? ⟨nb, 1, none⟩ = some (.slice (some ⟨gg, 0, none⟩) (n + 1) cp) ∧ (w'.cell? ⟨w.heap.size + 1, 0, none⟩).isSome = true ∧ (w'.cell? ⟨w.heap.size + 1, 1, none⟩).isSome = true ∧ (w'.cell? ⟨w.heap.size + 1, 2, none⟩).isSome = true ∧ w'.frozen? ⟨w.heap.size + 1, 0, none⟩ = false ∧ w'.frozen? ⟨w.heap.size + 1, 1, none⟩ = false ∧ w'.frozen? ⟨w.heap.size + 1, 2, none⟩ = false)
          (first | with_reducible exact hk9 | with_reducible exact hkD | with_reducible exact hkE | go_keep)
          (first
            | (go_at_call 79; with_reducible refine (HW1s.out _).mono ?_; rintro e wB ⟨rfl, rfl⟩)
            | (go_at_call 79; with_reducible refine (HW2s.out _).mono ?_; rintro e wC ⟨rfl, rfl⟩)
            | (go_at_call 80; with_reducible refine (HCH.out _ HI9d.out).mono ?_; rintro e wD ⟨rfl, hbD⟩; obtain ⟨hbD', hrD, gD, hID⟩ := HFD.out _ hbD; have hkD := kept3a hbD' hrD; have hkE := HKE.out wD (.int .i64 0) (.slice none 0 0) (.int .u64 0) hbD' hrD; obtain ⟨d0, d1, d2⟩ := hrD.cells; obtain ⟨f0, f1, f2⟩ := frozen_box3 hrD)
            | fail)
        all_goals
          have hrF := hrD.put (.int .i64 0) (.slice none 0 0) (.int .u64 0)
          obtain ⟨e0, e1, e2⟩ := hrF.cells
          go_wp2
          refine bodyPost_ret (v := .tuple #[.agg #[.int .i64 0, .slice none 0 0, .int .u64 0], .bool false]) (by simp [results, Try.results48, go_sem, e0, e1, e2]) rfl ?_
          exact PartyAt.fail (((gD.setCell (by simp) _).setCell (by simp) _).setCell (by simp) _)
  · obtain rfl : n = k + 1 := by omega
    have hkA : (k : Int) ≤ (k : Int) + 1 := by omega
    have hkB : (k : Int) + 1 ≤ (k : Int) + 1 := by omega
    have hkC : (k : Int) < (k : Int) + 1 := by omega
    have HSUM := Lib.hid (show k + 2 + 0 = k + 1 + 1 from by omega)
    have HCE2 := Lib.hid (show cut ws 0 k ++ [Value.int .i64 y, Value.int .i64 (v - y)] ++ cut ws (k+1) 0 = (splitL ws (k+1) k y).map (Value.int .i64) from by have h := HCE.out; rwa [Nat.sub_self] at h)
    have HTAIL := Lib.hid (show ∀ W', Below w2.heap.size w2 W' → ∀ j u, (cut ws (k+1) 0)[j]? = some u → W'.cell? ((⟨b, off, none⟩ : Addr).add j) = some u from fun W' hb j u hu => by simp [cut] at hu)
    have HCC := Lib.hid (show ∀ (g : Nat) (W : World), Below w2.heap.size w2 W → (W.cell? ⟨g, 0, none⟩ = some (.slice (some ⟨b, off, none⟩) k (k + 1)) ∧ W.cell? ⟨g, 1, none⟩ = some (.slice (some ⟨gp, 0, none⟩) 2 2) ∧ W.cell? ⟨g, 2, none⟩ = some (.slice (some ⟨b, off, none⟩) 0 0)) → Calls Try.prog 78 #[.slice (some ⟨g, 0, none⟩) 3 3] W fun e w' => ∃ gg c, e = .returned (.slice (some ⟨gg, 0, none⟩) (k + 1 + 1) c) ∧ w'.ownsRow W.heap.size 3 1 (.slice (some ⟨gg, 0, none⟩) (k + 1 + 1) c) (k + 1 + 1) ((splitL ws (k + 1) k y).map (Value.int .i64)) ∧ Below W.heap.size W w' from fun g W hb hc => by
      have h := concat3_any ⟨b, off, none⟩ ⟨gp, 0, none⟩ ⟨b, off, none⟩ k 2 (0) (k + 1) 2 0 g (cut ws 0 k) [Value.int .i64 y, Value.int .i64 (v - y)] (cut ws (k+1) (0)) W (by omega) (by omega) (cut_len _ _ _) rfl (cut_len _ _ _) (cut_one _ _ _) (by intro u hu; simp at hu; rcases hu with rfl | rfl <;> rfl) (cut_one _ _ _)
        (fun W' hb' => cut_cells (hs2.out.now (bfrom (Below.refl _ _) (hb.trans (hb'.mono hb.size)))) (by omega) off (by omega))
        (fun W' hb' => HPART.out W' (hb.trans (hb'.mono hb.size)))
        (fun W' hb' => HTAIL.out W' (hb.trans (hb'.mono hb.size))) hc.1 hc.2.1 hc.2.2
      rw [HSUM.out, HCE2.out] at h
      exact h)
    have HBE0 := Lib.hid (show Below w2.heap.size w2 ((w2.alloc (.cells #[.slice (some ⟨b, off, none⟩) k (k + 1), .slice (some ⟨gp, 0, none⟩) 2 2, .slice (some ⟨b, off, none⟩) 0 0] 26)).drew) from ((Below.refl _ w2).alloc (Nat.le_refl _) (.cells #[.slice (some ⟨b, off, none⟩) k (k + 1), .slice (some ⟨gp, 0, none⟩) 2 2, .slice (some ⟨b, off, none⟩) 0 0] 26)).drew)
    have HBE1 := Lib.hid (show Below w2.heap.size w2 (((w2.alloc (.cells #[.slice (some ⟨b, off, none⟩) k (k + 1), .slice (some ⟨gp, 0, none⟩) 2 2, .slice (some ⟨b, off, none⟩) 0 0] 26)).alloc (.cells #[.int .i64 0, .slice none 0 0] 41)).drew) from (((Below.refl _ w2).alloc (Nat.le_refl _) (.cells #[.slice (some ⟨b, off, none⟩) k (k + 1), .slice (some ⟨gp, 0, none⟩) 2 2, .slice (some ⟨b, off, none⟩) 0 0] 26)).alloc (by simp) (.cells #[.int .i64 0, .slice none 0 0] 41)).drew)
    have HBE2 := Lib.hid (show Below w2.heap.size w2 (((w2.alloc (.cells #[.int .i64 0, .slice none 0 0] 41)).alloc (.cells #[.slice (some ⟨b, off, none⟩) k (k + 1), .slice (some ⟨gp, 0, none⟩) 2 2, .slice (some ⟨b, off, none⟩) 0 0] 26)).drew) from (((Below.refl _ w2).alloc (Nat.le_refl _) (.cells #[.int .i64 0, .slice none 0 0] 41)).alloc (by simp) (.cells #[.slice (some ⟨b, off, none⟩) k (k + 1), .slice (some ⟨gp, 0, none⟩) 2 2, .slice (some ⟨b, off, none⟩) 0 0] 26)).drew)
    have HLT0 := Lib.hid (show Box3 26 ((w2.alloc (.cells #[.slice (some ⟨b, off, none⟩) k (k + 1), .slice (some ⟨gp, 0, none⟩) 2 2, .slice (some ⟨b, off, none⟩) 0 0] 26)).drew) w2.heap.size (.slice (some ⟨b, off, none⟩) k (k + 1)) (.slice (some ⟨gp, 0, none⟩) 2 2) (.slice (some ⟨b, off, none⟩) 0 0) from Box3.new 26 w2 (.slice (some ⟨b, off, none⟩) k (k + 1)) (.slice (some ⟨gp, 0, none⟩) 2 2) (.slice (some ⟨b, off, none⟩) 0 0)).cells
    have HLT1 := Lib.hid (show Box3 26 (((w2.alloc (.cells #[.slice (some ⟨b, off, none⟩) k (k + 1), .slice (some ⟨gp, 0, none⟩) 2 2, .slice (some ⟨b, off, none⟩) 0 0] 26)).alloc (.cells #[.int .i64 0, .slice none 0 0] 41)).drew) w2.heap.size (.slice (some ⟨b, off, none⟩) k (k + 1)) (.slice (some ⟨gp, 0, none⟩) 2 2) (.slice (some ⟨b, off, none⟩) 0 0) from (Box3.new 26 w2 (.slice (some ⟨b, off, none⟩) k (k + 1)) (.slice (some ⟨gp, 0, none⟩) 2 2) (.slice (some ⟨b, off, none⟩) 0 0)).alloc (.cells #[.int .i64 0, .slice none 0 0] 41)).cells
    have HLT2 := Lib.hid (show Box3 26 (((w2.alloc (.cells #[.int .i64 0, .slice none 0 0] 41)).alloc (.cells #[.slice (some ⟨b, off, none⟩) k (k + 1), .slice (some ⟨gp, 0, none⟩) 2 2, .slice (some ⟨b, off, none⟩) 0 0] 26)).drew) (w2.heap.size + 1) (.slice (some ⟨b, off, none⟩) k (k + 1)) (.slice (some ⟨gp, 0, none⟩) 2 2) (.slice (some ⟨b, off, none⟩) 0 0) from (by have h := Box3.new 26 (w2.alloc (.cells #[.int .i64 0, .slice none 0 0] 41)) (.slice (some ⟨b, off, none⟩) k (k + 1)) (.slice (some ⟨gp, 0, none⟩) 2 2) (.slice (some ⟨b, off, none⟩) 0 0); simp only [World.size_alloc] at h; exact h)).cells
    have HSZ1 := Lib.hid (show w2.heap.size + 1 < (((w2.alloc (.cells #[.slice (some ⟨b, off, none⟩) k (k + 1), .slice (some ⟨gp, 0, none⟩) 2 2, .slice (some ⟨b, off, none⟩) 0 0] 26)).alloc (.cells #[.int .i64 0, .slice none 0 0] 41)).drew).heap.size from (by show _ < ((w2.alloc _).alloc _).heap.size; simp))
    have HSZ2 := Lib.hid (show w2.heap.size < (((w2.alloc (.cells #[.int .i64 0, .slice none 0 0] 41)).alloc (.cells #[.slice (some ⟨b, off, none⟩) k (k + 1), .slice (some ⟨gp, 0, none⟩) 2 2, .slice (some ⟨b, off, none⟩) 0 0] 26)).drew).heap.size from (by show _ < ((w2.alloc _).alloc _).heap.size; simp; omega))
    have HBX1 := Lib.hid (show BoxT 41 (((w2.alloc (.cells #[.slice (some ⟨b, off, none⟩) k (k + 1), .slice (some ⟨gp, 0, none⟩) 2 2, .slice (some ⟨b, off, none⟩) 0 0] 26)).alloc (.cells #[.int .i64 0, .slice none 0 0] 41)).drew) (w2.heap.size + 1) (.int .i64 0) (.slice none 0 0) from (by have h := Box.new (w2.alloc (.cells #[.slice (some ⟨b, off, none⟩) k (k + 1), .slice (some ⟨gp, 0, none⟩) 2 2, .slice (some ⟨b, off, none⟩) 0 0] 26)) (.int .i64 0) (.slice none 0 0); simp only [World.size_alloc] at h; exact h))
    have HBX2 := Lib.hid (show BoxT 41 (((w2.alloc (.cells #[.int .i64 0, .slice none 0 0] 41)).alloc (.cells #[.slice (some ⟨b, off, none⟩) k (k + 1), .slice (some ⟨gp, 0, none⟩) 2 2, .slice (some ⟨b, off, none⟩) 0 0] 26)).drew) w2.heap.size (.int .i64 0) (.slice none 0 0) from (Box.new w2 (.int .i64 0) (.slice none 0 0)).alloc (.cells #[.slice (some ⟨b, off, none⟩) k (k + 1), .slice (some ⟨gp, 0, none⟩) 2 2, .slice (some ⟨b, off, none⟩) 0 0] 26))
    go_wp2_with fail
    rw [← HGP.out]
    rw [← HWW.out]
    clear c0 c1 hci
    obtain ⟨c0, c1⟩ : _ ∧ _ := ⟨c2, c3⟩
    go_region_held3 (fun w' => w'.cell? ⟨w.heap.size, 0, none⟩ = some (.int .i64 q) ∧ w'.cell? ⟨w.heap.size, 1, none⟩ = some (.slice (some ⟨b, off, none⟩) (k + 1) (k + 1)))
      (first | with_reducible exact ⟨c0, c1⟩ | with_reducible exact ⟨k0, k1⟩ | with_reducible exact (hx2.alloc _).cells | with_reducible exact (hx2.alloc _).drew.cells | with_reducible exact ((hx2.alloc _).alloc _).cells | with_reducible exact ((hx2.alloc _).alloc _).drew.cells | with_reducible exact (hx4.alloc _).cells | with_reducible exact ((hx4.far (p := ⟨w2.heap.size, 0, none⟩) (show w.heap.size ≠ w2.heap.size by omega) _).far (p := ⟨w2.heap.size, 1, none⟩) (show w.heap.size ≠ w2.heap.size by omega) _).cells | with_reducible exact ((hx4.far (p := ⟨w2.heap.size + 1, 0, none⟩) (show w.heap.size ≠ w2.heap.size + 1 by omega) _).far (p := ⟨w2.heap.size + 1, 1, none⟩) (show w.heap.size ≠ w2.heap.size + 1 by omega) _).cells | go_keep)
      (first
        | (go_at_call 78; with_reducible refine (HCC.out w2.heap.size ((w2.alloc (.cells #[.slice (some ⟨b, off, none⟩) k (k + 1), .slice (some ⟨gp, 0, none⟩) 2 2, .slice (some ⟨b, off, none⟩) 0 0] 26)).drew) HBE0.out HLT0.out).mono ?_; rintro e w4 ⟨gg, cp, rfl, hown4, hb4⟩; have b24 := (HBE0.out).trans (hb4.mono (HBE0.out).size); have hx4 := hx2.now b24; have hr4 := hr2.now b24; have g4 := bfrom g2 b24; have hgg4 : w2.heap.size ≤ gg := (Nat.le_trans (HBE0.out).size (owns_le hown4 rfl)); have hlt4 : gg < w4.heap.size := owns_lt hown4 rfl; have HI4 := Lib.hid (HINT.out _ _ _ _ hown4); have hne4 : True := trivial; have hn4 : True := trivial; obtain ⟨k0, k1⟩ := hx4.cells)
        | (go_at_call 78; with_reducible refine (HCC.out w2.heap.size (((w2.alloc (.cells #[.slice (some ⟨b, off, none⟩) k (k + 1), .slice (some ⟨gp, 0, none⟩) 2 2, .slice (some ⟨b, off, none⟩) 0 0] 26)).alloc (.cells #[.int .i64 0, .slice none 0 0] 41)).drew) HBE1.out HLT1.out).mono ?_; rintro e w4 ⟨gg, cp, rfl, hown4, hb4⟩; have b24 := (HBE1.out).trans (hb4.mono (HBE1.out).size); have hx4 := hx2.now b24; have hr4 := hr2.now b24; have g4 := bfrom g2 b24; have hgg4 : w2.heap.size ≤ gg := (Nat.le_trans (HBE1.out).size (owns_le hown4 rfl)); have hlt4 : gg < w4.heap.size := owns_lt hown4 rfl; have HI4 := Lib.hid (HINT.out _ _ _ _ hown4); have hne4 : gg ≠ w2.heap.size + 1 := (Nat.ne_of_gt (Nat.lt_of_lt_of_le HSZ1.out (owns_le hown4 rfl))); have hn4 := (show BoxT 41 w4 (w2.heap.size + 1) (.int .i64 0) (.slice none 0 0) from HBX1.out.now hb4); obtain ⟨p0, p1⟩ := hn4.cells; obtain ⟨q0, q1⟩ := frozen2 hn4; obtain ⟨k0, k1⟩ := hx4.cells)
        | (go_at_call 78; with_reducible refine (HCC.out (w2.heap.size + 1) (((w2.alloc (.cells #[.int .i64 0, .slice none 0 0] 41)).alloc (.cells #[.slice (some ⟨b, off, none⟩) k (k + 1), .slice (some ⟨gp, 0, none⟩) 2 2, .slice (some ⟨b, off, none⟩) 0 0] 26)).drew) HBE2.out HLT2.out).mono ?_; rintro e w4 ⟨gg, cp, rfl, hown4, hb4⟩; have b24 := (HBE2.out).trans (hb4.mono (HBE2.out).size); have hx4 := hx2.now b24; have hr4 := hr2.now b24; have g4 := bfrom g2 b24; have hgg4 : w2.heap.size ≤ gg := (Nat.le_trans (HBE2.out).size (owns_le hown4 rfl)); have hlt4 : gg < w4.heap.size := owns_lt hown4 rfl; have HI4 := Lib.hid (HINT.out _ _ _ _ hown4); have hne4 : gg ≠ w2.heap.size := (Nat.ne_of_gt (Nat.lt_of_lt_of_le HSZ2.out (owns_le hown4 rfl))); have hn4 := (show BoxT 41 w4 (w2.heap.size) (.int .i64 0) (.slice none 0 0) from HBX2.out.now hb4); obtain ⟨p0, p1⟩ := hn4.cells; obtain ⟨q0, q1⟩ := frozen2 hn4; obtain ⟨k0, k1⟩ := hx4.cells)
        | fail)
    all_goals (first
      | (have hb9 := Box.new w4 (.int .i64 q) (.slice (some ⟨gg, 0, none⟩) (k + 1 + 1) cp)
         have hr9 := hr4.alloc (.cells #[.int .i64 q, .slice (some ⟨gg, 0, none⟩) (k + 1 + 1) cp] 41)
         have hI9 := Own.alloc HI4.out (.cells #[.int .i64 q, .slice (some ⟨gg, 0, none⟩) (k + 1 + 1) cp] 41)
         have g9 := g4.alloc g4.size (.cells #[.int .i64 q, .slice (some ⟨gg, 0, none⟩) (k + 1 + 1) cp] 41)
         have hrn : w.heap.size + 1 ≠ w4.heap.size := Nat.ne_of_lt hr4.lt
         obtain ⟨W9, hW9⟩ : ∃ W9, W9 = w4.alloc (.cells #[.int .i64 q, .slice (some ⟨gg, 0, none⟩) (k + 1 + 1) cp] 41) := ⟨_, rfl⟩
         rw [← hW9] at hb9 hr9 hI9 g9 ⊢
         clear hW9
         obtain ⟨nb, hnb⟩ : ∃ nb, nb = w4.heap.size := ⟨_, rfl⟩
         rw [← hnb] at hb9 hrn ⊢
         clear hnb)
      | (have hb9 := box_put2 (show BoxT 41 w4 (w2.heap.size) (.int .i64 0) (.slice none 0 0) from hn4) (.int .i64 q) (.slice (some ⟨gg, 0, none⟩) (k + 1 + 1) cp)
         have hne : gg ≠ w2.heap.size := hne4
         have hrn : w.heap.size + 1 ≠ w2.heap.size := by omega
         have hr9 := (hr4.far (p := ⟨w2.heap.size, 0, none⟩) hrn (.int .i64 q)).far (p := ⟨w2.heap.size, 1, none⟩) hrn (.slice (some ⟨gg, 0, none⟩) (k + 1 + 1) cp)
         have hI9 := Own.far (Own.far HI4.out (p := ⟨w2.heap.size, 0, none⟩) hne (.int .i64 q)) (p := ⟨w2.heap.size, 1, none⟩) hne (.slice (some ⟨gg, 0, none⟩) (k + 1 + 1) cp)
         have g9 := (g4.setCell (p := ⟨w2.heap.size, 0, none⟩) (show w.heap.size ≤ w2.heap.size by omega) (.int .i64 q)).setCell (p := ⟨w2.heap.size, 1, none⟩) (show w.heap.size ≤ w2.heap.size by omega) (.slice (some ⟨gg, 0, none⟩) (k + 1 + 1) cp)
         obtain ⟨W9, hW9⟩ : ∃ W9, W9 = (w4.setCell ⟨w2.heap.size, 0, none⟩ (.int .i64 q)).setCell ⟨w2.heap.size, 1, none⟩ (.slice (some ⟨gg, 0, none⟩) (k + 1 + 1) cp) := ⟨_, rfl⟩
         rw [← hW9] at hb9 hr9 hI9 g9 ⊢
         clear hW9
         obtain ⟨nb, hnb⟩ : ∃ nb, nb = w2.heap.size := ⟨_, rfl⟩
         rw [← hnb] at hb9 hrn ⊢
         clear hnb)
      | (have hb9 := box_put2 (show BoxT 41 w4 (w2.heap.size + 1) (.int .i64 0) (.slice none 0 0) from hn4) (.int .i64 q) (.slice (some ⟨gg, 0, none⟩) (k + 1 + 1) cp)
         have hne : gg ≠ w2.heap.size + 1 := hne4
         have hrn : w.heap.size + 1 ≠ w2.heap.size + 1 := by omega
         have hr9 := (hr4.far (p := ⟨w2.heap.size + 1, 0, none⟩) hrn (.int .i64 q)).far (p := ⟨w2.heap.size + 1, 1, none⟩) hrn (.slice (some ⟨gg, 0, none⟩) (k + 1 + 1) cp)
         have hI9 := Own.far (Own.far HI4.out (p := ⟨w2.heap.size + 1, 0, none⟩) hne (.int .i64 q)) (p := ⟨w2.heap.size + 1, 1, none⟩) hne (.slice (some ⟨gg, 0, none⟩) (k + 1 + 1) cp)
         have g9 := (g4.setCell (p := ⟨w2.heap.size + 1, 0, none⟩) (show w.heap.size ≤ w2.heap.size + 1 by omega) (.int .i64 q)).setCell (p := ⟨w2.heap.size + 1, 1, none⟩) (show w.heap.size ≤ w2.heap.size + 1 by omega) (.slice (some ⟨gg, 0, none⟩) (k + 1 + 1) cp)
         obtain ⟨W9, hW9⟩ : ∃ W9, W9 = (w4.setCell ⟨w2.heap.size + 1, 0, none⟩ (.int .i64 q)).setCell ⟨w2.heap.size + 1, 1, none⟩ (.slice (some ⟨gg, 0, none⟩) (k + 1 + 1) cp) := ⟨_, rfl⟩
         rw [← hW9] at hb9 hr9 hI9 g9 ⊢
         clear hW9
         obtain ⟨nb, hnb⟩ : ∃ nb, nb = w2.heap.size + 1 := ⟨_, rfl⟩
         rw [← hnb] at hb9 hrn ⊢
         clear hnb))
    all_goals
      have HI9 := Lib.hid hI9
      have HFD := Lib.hid (show ∀ wD, Below W9.drew.heap.size W9.drew wD → (Box wD nb (.int .i64 q) (.slice (some ⟨gg, 0, none⟩) (k + 1 + 1) cp) ∧ Box3 80 wD (w.heap.size + 1) (.int .i64 0) (.slice none 0 0) (.int .u64 0) ∧ Below w.heap.size w wD ∧ Ints wD gg (k + 1 + 1) (splitL ws (k + 1) k y)) from fun wD hb => ⟨hb9.drew.now hb, hr9.drew.now hb, bfrom g9.drew hb, Own.below (Own.drew hI9) hb (Own.lt (Own.drew hI9))⟩)
      have HI9d := Lib.hid (show Ints W9.drew gg (k + 1 + 1) (splitL ws (k + 1) k y) from Own.drew hI9)
      have hgg9 : w.heap.size ≤ gg := by omega
      clear hI9 hx4 hr4 g4 hb4 b24 hown4 HI4 hn4 hne4 hlt4 k0 k1 c0 c1 HCC HBE0 HBE1 HBE2 HLT0 HLT1 HLT2 HBX1 HBX2 HSZ1 HSZ2
      obtain ⟨s, hs⟩ : ∃ s, s = 2^k ||| 2^(k+1) := ⟨_, rfl⟩
      have HSE := Lib.hid hs
      have HW2s := HW2
      rw [← hs] at HW2s
      have HW1s := HW1
      obtain ⟨s0, hs0⟩ : ∃ s0, s0 = 2^k := ⟨_, rfl⟩
      rw [← hs0] at HW1s HW2s
      clear hs hs0
      have hk9 := kept3a hb9 hr9
      have HKE := Lib.hid (show ∀ (wD : World) (a b c : Value), Box wD nb (.int .i64 q) (.slice (some ⟨gg, 0, none⟩) (k + 1 + 1) cp) → Box3 80 wD (w.heap.size + 1) (.int .i64 0) (.slice none 0 0) (.int .u64 0) → _ from fun wD a b c h1 h2 => kept3 (a := a) (b := b) (c := c) h1 h2 (Ne.symm hrn))
      cases ok with
      | true =>
        have HCH := Lib.hid (fun W (h : Ints W gg (k + 1 + 1) (splitL ws (k + 1) k y)) => checkedP_yes q (some ⟨gg, 0, none⟩) (k + 1 + 1) cp s (splitL ws (k + 1) k y) W (by omega) (Known.of (Ints.sl h)) HOK.out)
        go_wp2_with fail
        go_region_held3 (fun w' => w'.cell? ⟨nb, 0, none⟩ = some (.int .i64 q) ∧ w'.cell? ⟨nb, 1, none⟩ = some (.slice (some ⟨gg, 0, none⟩) (k + 1 + 1) cp) ∧ (w'.cell? ⟨w.heap.size + 1, 0, none⟩).isSome = true ∧ (w'.cell? ⟨w.heap.size + 1, 1, none⟩).isSome = true ∧ (w'.cell? ⟨w.heap.size + 1, 2, none⟩).isSome = true ∧ w'.frozen? ⟨w.heap.size + 1, 0, none⟩ = false ∧ w'.frozen? ⟨w.heap.size + 1, 1, none⟩ = false ∧ w'.frozen? ⟨w.heap.size + 1, 2, none⟩ = false)
          (first | with_reducible exact hk9 | with_reducible exact hkD | with_reducible exact hkE | go_keep)
          (first
            | (go_at_call 79; with_reducible refine (HW1s.out _).mono ?_; rintro e wB ⟨rfl, rfl⟩)
            | (go_at_call 79; with_reducible refine (HW2s.out _).mono ?_; rintro e wC ⟨rfl, rfl⟩)
            | (go_at_call 80; with_reducible refine (HCH.out _ HI9d.out).mono ?_; rintro e wD ⟨rfl, hbD⟩; obtain ⟨hbD', hrD, gD, hID⟩ := HFD.out _ hbD; have HID := Lib.hid hID; have hkD := kept3a hbD' hrD; have hkE := HKE.out wD (.int .i64 q) (.slice (some ⟨gg, 0, none⟩) (k + 1 + 1) cp) (.int .u64 s) hbD' hrD; obtain ⟨d0, d1, d2⟩ := hrD.cells; obtain ⟨f0, f1, f2⟩ := frozen_box3 hrD)
            | fail)
        all_goals
          have hrF := hrD.put (.int .i64 q) (.slice (some ⟨gg, 0, none⟩) (k + 1 + 1) cp) (.int .u64 s)
          obtain ⟨e0, e1, e2⟩ := hrF.cells
          go_wp2
          refine bodyPost_ret (v := .tuple #[.agg #[.int .i64 q, .slice (some ⟨gg, 0, none⟩) (k + 1 + 1) cp, .int .u64 s], .bool true]) (by simp [results, Try.results48, go_sem, e0, e1, e2]) rfl ?_
          have hgr : gg ≠ w.heap.size + 1 := by omega
          rw [← HSE.out]
          exact ⟨_, _, rfl, Or.inr ⟨gg, rfl, hgg9, ((HID.out.far (by simpa using hgr) _).far (by simpa using hgr) _).far (by simpa using hgr) _⟩, ((gD.setCell (by simp) _).setCell (by simp) _).setCell (by simp) _⟩
      | false =>
        have HCH := Lib.hid (fun W (h : Ints W gg (k + 1 + 1) (splitL ws (k + 1) k y)) => checkedP_no q (some ⟨gg, 0, none⟩) (k + 1 + 1) cp s (splitL ws (k + 1) k y) W (by omega) (Known.of (Ints.sl h)) HOK.out)
        go_wp2_with fail
        go_region_held3 (fun w' => w'.cell? ⟨nb, 0, none⟩ = some (.int .i64 q) ∧ w'.cell? ⟨nb, 1, none⟩ = some (.slice (some ⟨gg, 0, none⟩) (k + 1 + 1) cp) ∧ (w'.cell? ⟨w.heap.size + 1, 0, none⟩).isSome = true ∧ (w'.cell? ⟨w.heap.size + 1, 1, none⟩).isSome = true ∧ (w'.cell? ⟨w.heap.size + 1, 2, none⟩).isSome = true ∧ w'.frozen? ⟨w.heap.size + 1, 0, none⟩ = false ∧ w'.frozen? ⟨w.heap.size + 1, 1, none⟩ = false ∧ w'.frozen? ⟨w.heap.size + 1, 2, none⟩ = false)
          (first | with_reducible exact hk9 | with_reducible exact hkD | with_reducible exact hkE | go_keep)
          (first
            | (go_at_call 79; with_reducible refine (HW1s.out _).mono ?_; rintro e wB ⟨rfl, rfl⟩)
            | (go_at_call 79; with_reducible refine (HW2s.out _).mono ?_; rintro e wC ⟨rfl, rfl⟩)
            | (go_at_call 80; with_reducible refine (HCH.out _ HI9d.out).mono ?_; rintro e wD ⟨rfl, hbD⟩; obtain ⟨hbD', hrD, gD, hID⟩ := HFD.out _ hbD; have hkD := kept3a hbD' hrD; have hkE := HKE.out wD (.int .i64 0) (.slice none 0 0) (.int .u64 0) hbD' hrD; obtain ⟨d0, d1, d2⟩ := hrD.cells; obtain ⟨f0, f1, f2⟩ := frozen_box3 hrD)
            | fail)
        all_goals
          have hrF := hrD.put (.int .i64 0) (.slice none 0 0) (.int .u64 0)
          obtain ⟨e0, e1, e2⟩ := hrF.cells
          go_wp2
          refine bodyPost_ret (v := .tuple #[.agg #[.int .i64 0, .slice none 0 0, .int .u64 0], .bool false]) (by simp [results, Try.results48, go_sem, e0, e1, e2]) rfl ?_
          exact PartyAt.fail (((gD.setCell (by simp) _).setCell (by simp) _).setCell (by simp) _)
end Go.Proofs.Ytipplbcjdcdapab
