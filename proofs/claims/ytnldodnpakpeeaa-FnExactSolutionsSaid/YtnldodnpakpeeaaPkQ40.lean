/- Texts of Gx. -/
import Derived.Test.YtnldodnpakpeeaaPkQ39
import Derived.Deep.RegionLaw
import Derived.BigQuiet
namespace Go.Proofs.Ytnldodnpakpeeaa
open Go.RowKit Vo

/-- What a part of the search leaves behind. -/
def LookQ (w0 : World) (base N n g o b c : Nat) (P : GP) (D : List Nat) (w' : World) : Prop :=
  ∃ (f : Nat → Bool) (P' : GP) (v' : Value), Below w0.heap.size w0 w' ∧ base ≤ w'.heap.size ∧ Own w' g 4 N (fun j => .bool (f j)) ∧ (∀ s, s < b → f s = c.testBit s) ∧ Box1 47 w' o v' ∧ GL base n (P ++ P') v' w' ∧ P'.map Prod.fst = D
theorem frozenX {t : TypeId} {w : World} {g : Nat} {v : Value} (h : Box1 t w g v) : w.frozen? ⟨g, 0, none⟩ = false := by
  unfold Box1 at h
  simp [World.frozen?, h]
theorem putX {t : TypeId} {w : World} {g : Nat} {v : Value} (h : Box1 t w g v) (u : Value) : Box1 t (w.setCell ⟨g, 0, none⟩ u) g u := by
  unfold Box1 at *
  simp [World.setCell, Array.getElem?_modify, h]
theorem farX {t : TypeId} {w : World} {g : Nat} {v : Value} (h : Box1 t w g v) {p : Addr} (hp : g ≠ p.block) (u : Value) : Box1 t (w.setCell p u) g v :=
  (Below.heap_setCell w p u g hp).trans h

set_option maxRecDepth 20000 in
set_option maxHeartbeats 8000000 in
theorem pzLook_leaf (N n k : Nat) (A : Option Addr) (cap : Nat) (C : List Clu) (c g o base cpw : Nat) (P : GP) (v : Value) (w0 w : World) (hN : N = 2^n) (hn1 : 1 ≤ n) (hn4 : n ≤ 4) (hk8 : k ≤ 1048576) (hK : KCl w0 A k C) (hask : ∀ j, j < k → AskK n (cAt C j))
    (hg0 : w0.heap.size ≤ g) (hgb : g < base) (ho0 : w0.heap.size ≤ o) (hob : o < base) (hgo : g ≠ o) (hb0 : Below w0.heap.size w0 w) (hbase : base ≤ w.heap.size)
    (hw : Own w g 4 N (fun j => .bool (c.testBit j))) (hbx : Box1 47 w o v) (hG : GL base n P v w) (hP : P.length ≤ 1000000) :
    Calls Try.prog 98 #[.slice (some ⟨g, 0, none⟩) N cpw, .int .i64 N, .int .i64 n, .slice A k cap, .pointer (some ⟨o, 0, none⟩)] w fun e w' => e = .returned (.tuple #[]) ∧ LookQ w0 base N n g o N c P ([c].filter (okC n C)) w' := by
  obtain ⟨i0, hi0, hz0, hz1, hz2⟩ := info_parts infoGm
  have HPOW : N ≤ 16 := by rw [hN]; exact Nat.pow_le_pow_right (n := 2) (by omega) hn4
  have hpow2 : 2 ≤ N := by rw [hN]; exact Nat.pow_le_pow_right (n := 2) (by omega) hn1
  have HK := Lib.hid hK
  have HCL := Lib.hid hK.1
  have HASK := Lib.hid hask
  have HW := Lib.hid hw
  have HG := Lib.hid hG
  have HX := Lib.hid hbx
  have HB0 := Lib.hid hb0
  have hcell := hw.cell (i := N - 1) (by omega)
  have hcell0 := hw.cell (i := 0) (by omega)
  have hgl := hw.lt
  have HFIT := Lib.hid (fun W x y z (h : Own W g 4 N (fun j => .bool (c.testBit j))) (ha : AskK n (x, y, z)) => show Calls Try.prog 147 #[.agg #[.int .i64 x, .int .i64 y, .int .i64 z], .slice (some ⟨g, 0, none⟩) N cpw] W fun e w' => e = .returned (.bool (fitP (fun j => c.testBit j) n (x, y, z))) ∧ Below W.heap.size W w' from by subst hN; exact pzFits_any (fun j => c.testBit j) n g cpw x y z W hn4 h ha)
  obtain ⟨ln, hln⟩ : ∃ ln, ln = (setsL (leastC n c)).length := ⟨_, rfl⟩
  have HLN := Lib.hid hln
  have HGM2 := Lib.hid (show ∀ W, Own W g 4 N (fun j => .bool (c.testBit j)) → Calls Try.prog 116 #[.int .i64 n, .slice (some ⟨g, 0, none⟩) N cpw] W fun e w' => ∃ A c2, e = .returned (.agg #[.int .i64 n, .slice A ln c2]) ∧ Lies (RSS0 (setsL (leastC n c)) W.heap.size w'.heap.size (.slice A ln c2)) W.heap.size w'.heap.size w' ∧ Below W.heap.size W w' from fun W h => by subst hN; rw [HLN.out]; exact gmOf_any (fun j => c.testBit j) n g cpw W (by omega) h)
  have HOK := Lib.hid (show okC n C c = (c.testBit (N - 1) && !c.testBit 0 && !anyU (fun q => !fitP (fun s => c.testBit s) n q) C k) from by rw [← hK.1, hN]; rfl)
  have HSAME := Lib.hid (show ∀ W, okC n C c = false → Below w0.heap.size w0 W → Below w.heap.size w W → LookQ w0 base N n g o N c P ([c].filter (okC n C)) W from fun W h h0 h1 =>
    ⟨fun j => c.testBit j, [], v, h0, Nat.le_trans hbase h1.size, hw.below h1 hgl, fun _ _ => rfl, hbx.now h1, by rw [List.append_nil]; exact hG.now h1, by simp [h]⟩)
  obtain ⟨B, cp, hv⟩ := owns_sliceN hG.1
  have HNEW := Lib.hid (show ∀ (W : World) (x : Value) (B2 : Option Addr) (cp2 : Nat), okC n C c = true → Below w0.heap.size w0 W → base ≤ W.heap.size → Own W g 4 N (fun j => .bool (c.testBit j)) → Box1 47 W o (.slice B2 (P.length + 1) cp2) → GL base n (P ++ [(c, x)]) (.slice B2 (P.length + 1) cp2) W → LookQ w0 base N n g o N c P ([c].filter (okC n C)) W from fun W x B2 cp2 h h0 h1 h2 h3 h4 =>
    ⟨fun j => c.testBit j, [(c, x)], _, h0, h1, h2, fun _ _ => rfl, h3, h4, by simp [h]⟩)
  subst hv
  have hne : ((N : Int) == (N : Int)) = true := by simp
  clear hw hG hbx hb0 hK hask hN hln
  have hcoi : ((N : Int) - 1).toNat = N - 1 := by omega
  have h0 : (0 : Int) ≤ (N : Int) - 1 := by omega
  have h2 : (N : Int) - 1 < N := by omega
  obtain ⟨Q, hQ⟩ : ∃ Q : World → Prop, Q = fun w' => LookQ w0 base N n g o N c P ([c].filter (okC n C)) w' := ⟨_, rfl⟩
  have HLK := Lib.hid (show ∀ e W, LookQ w0 base N n g o N c P ([c].filter (okC n C)) W → e = Ending.returned (.tuple #[]) → (e = .returned (.tuple #[]) ∧ Q W) from fun e W h1 h2 => ⟨h2, by rw [hQ]; exact h1⟩)
  suffices hS : Calls Try.prog 98 #[.slice (some ⟨g, 0, none⟩) N cpw, .int .i64 N, .int .i64 n, .slice A k cap, .pointer (some ⟨o, 0, none⟩)] w fun e w' => e = .returned (.tuple #[]) ∧ Q w' by rw [hQ] at hS; exact hS
  clear hQ
  cases hb1 : c.testBit (N - 1) with
  | false =>
    have HF := Lib.hid (show okC n C c = false from by rw [HOK.out, hb1]; rfl)
    rw [hb1] at hcell
    clear hb1
    go_enter Try.func98, Try.ntmps98
    go_wp2
    refine bodyPost_ret (results_none rfl _ _ _) rfl ?_
    exact HLK.out _ _ (HSAME.out _ HF.out HB0.out (Below.refl _ _)) rfl
  | true =>
    cases hb2 : c.testBit 0 with
    | true =>
      have HF := Lib.hid (show okC n C c = false from by rw [HOK.out, hb2]; simp)
      rw [hb1] at hcell
      rw [hb2] at hcell0
      clear hb1 hb2
      go_enter Try.func98, Try.ntmps98
      go_wp2
      refine bodyPost_ret (results_none rfl _ _ _) rfl ?_
      exact HLK.out _ _ (HSAME.out _ HF.out HB0.out (Below.refl _ _)) rfl
    | false =>
      have HO2 := Lib.hid (show okC n C c = !anyU (fun q => !fitP (fun s => c.testBit s) n q) C k from by rw [HOK.out, hb1, hb2]; rfl)
      rw [hb1] at hcell
      rw [hb2] at hcell0
      clear hb1 hb2
      have hszw := HB0.out.size
      go_enter Try.func98, Try.ntmps98
      go_wp2_with fail
      go_loopw [32] (fun i wr => ∃ j : Nat, j ≤ k ∧ i = .int .i64 j ∧ (∀ t, t < j → fitP (fun s => c.testBit s) n (cAt C t) = true) ∧ Below w.heap.size w wr) (fun i _ => k - (intOf i).toNat)
      case atStart => exact ⟨0, Nat.zero_le _, rfl, fun _ h => by omega, Below.refl _ _⟩
      case round =>
        obtain ⟨j, hj, rfl, hno, hbr⟩ := hrel
        have HS := Lib.hid hno
        clear hno
        by_cases hlt : j < k
        · obtain ⟨b, off, rfl, hcl⟩ := (HK.out.now (HB0.out.trans (hbr.mono hszw))).get (by omega)
          obtain ⟨hc0, hc1, hc2⟩ := hcl.at hlt
          have hbl := hcl.lt
          have HA := Lib.hid (HASK.out j hlt)
          obtain ⟨q, hq⟩ : ∃ q, q = cAt C j := ⟨_, rfl⟩
          rw [← hq] at HA hc0 hc1 hc2
          have HQ := Lib.hid hq
          clear hq hcl
          obtain ⟨x, y, z⟩ := q
          simp only at hc0 hc1 hc2
          have b1 := hbr.alloc hbr.size (.cells #[.int .i64 x, .int .i64 y, .int .i64 z] 130)
          have HC := Lib.hid (HFIT.out (wr.alloc (.cells #[.int .i64 x, .int .i64 y, .int .i64 z] 130)) x y z (HW.out.below b1 hgl) HA.out)
          cases hp : fitP (fun s => c.testBit s) n (x, y, z) with
          | false =>
            have HF := Lib.hid (show okC n C c = false from by
              rw [HO2.out, anyU_yes (j := j) hlt (by rw [← HQ.out, hp]; rfl)]; rfl)
            rw [hp] at HC
            clear hp
            go_wp2_with (first
              | (go_at_call 147; refine HC.out.mono ?_; rintro e w5 ⟨rfl, hb5⟩)
              | fail)
            refine bodyPost_ret (results_none rfl _ _ _) rfl ?_
            have b5 := bfrom b1 hb5
            exact HLK.out _ _ (HSAME.out _ HF.out (HB0.out.trans (b5.mono hszw)) b5) rfl
          | true =>
            have HN := Lib.hid (show ∀ t, t < j + 1 → fitP (fun s => c.testBit s) n (cAt C t) = true from fun t ht => by
              by_cases e : t = j
              · subst e; rw [← HQ.out]; exact hp
              · exact HS.out t (by omega))
            rw [hp] at HC
            clear hp
            go_wp2_with (first
              | (go_at_call 147; refine HC.out.mono ?_; rintro e w5 ⟨rfl, hb5⟩)
              | fail)
            have b5 := bfrom b1 hb5
            go_roundw
            case rel => exact ⟨j + 1, by omega, by go_num, HN.out, b5⟩
            case measure => simp [intOf]; omega
        · obtain rfl : j = k := by omega
          have HT := Lib.hid (show okC n C c = true from by
            rw [HO2.out, anyU_no (k := j) (p := fun q => !fitP (fun s => c.testBit s) n q) (fun t ht => by rw [HS.out t ht]; rfl)]; rfl)
          have HWr := Lib.hid (HW.out.below hbr hgl)
          have HXr := Lib.hid (HX.out.now hbr)
          have HGr := Lib.hid (HG.out.now hbr)
          have HBr := Lib.hid (HB0.out.trans (hbr.mono hszw))
          have hszr := hbr.size
          have hk0 := HXr.out.cell
          clear hcell hcell0
          obtain ⟨pl, hpl⟩ : ∃ pl, pl = P.length := ⟨_, rfl⟩
          have HPL := Lib.hid hpl
          rw [← hpl] at hP hk0 HXr HGr HNEW
          clear hpl
          go_wp2_with fail
          go_region_law (first
            | (refine step_append_atN _ (by rfl) _ _ _ (by rfl) base 55 i0 _ 2 32 Try.underlying47 hi0 hz0 hz1 hz2 rfl (by omega) (.slice B pl cp) pl (gpV n P) (by rfl) (HOA.out.alloc _) ⟨wA.heap.size, 0, none⟩ 1 1 [.int .i64 n, .slice AA ln cA] (by rfl) (by rfl) (World.news_of_block (cs := #[.int .i64 n, .slice AA ln cA]) (t := 55) (fr := (0, 0)) (heap_alloc_new wA _)) (by simp [Value.oneCell']) (by unfold maxLen; omega) (by omega) (by simp; omega) ?_; intro B7 cp7 w7 hown7 hgrow7 hob7; have hx7 : Box1 47 w7 o (.slice B pl cp) := (hgrow7.block o (by simp; omega) (by intro e; exact hro e.symm)).trans (hxA.alloc _); have k7 := hx7.cell; have f7 := frozenX hx7)
            | (go_simp; go_at_call 116; refine (HGM2.out _ ?_).mono ?_; (first | exact HWr.out | exact HWr.out.drew); rintro e wA ⟨AA, cA, rfl, hlA, hbA⟩; have HLA := Lib.hid hlA; clear hlA; have hxA : Box1 47 wA o (.slice B pl cp) := (HXr.out.drew).now hbA; have kA := hxA.cell; have fA := frozenX hxA; have kA2 := (hxA.alloc (.cells #[.int .i64 n, .slice AA ln cA] 55)).cell; have HOA := Lib.hid (owns_now (World.ownsRow.drew (GL.rows HPL.out HGr.out)) hbA); have hszA : wr.heap.size ≤ wA.heap.size := hbA.size; have hro : (Value.slice B pl cp).ownBlock ≠ some o := fun e => by have := (HOA.out.lt o e).1; omega)
            | fail)
          all_goals
            have bL := (bfrom (Below.refl _ wr).drew hbA).alloc hszA (.cells #[.int .i64 n, .slice AA ln cA] 55)
            have hPs : ∀ p ∈ P, GpAt base n (Value.slice B pl cp).ownBlock (wA.alloc (.cells #[.int .i64 n, .slice AA ln cA] 55)) p := fun p hp => (HGr.out.2 p hp).grown (grown_below bL) (Or.inl rfl)
            have hXg : GpAt base n (Value.slice B pl cp).ownBlock (wA.alloc (.cells #[.int .i64 n, .slice AA ln cA] 55)) (c, .slice AA ln cA) :=
              ⟨wr.heap.size, wA.heap.size, AA, cA, by omega, fun i hi => Or.inl (HGr.out.1.lt i hi).2, by rw [HLN.out, setsL_len], HLA.out.now (below1 wA _)⟩
            rw [HPL.out] at hown7 hPs hXg hgrow7 hob7
            have hG8 := (GL.push hPs hXg hown7 hgrow7 hob7).set (a := ⟨o, 0, none⟩) hob (.slice B7 (P.length + 1) cp7)
            have hX8 := putX hx7 (.slice B7 (P.length + 1) cp7)
            have hrg : (Value.slice B P.length cp).ownBlock ≠ some g := fun e => by rw [← HPL.out] at e; have := (HOA.out.lt g e).1; omega
            have hgr : g < wr.heap.size := by omega
            have hW8 := ((HWr.out.below bL hgr).of_block (hgrow7.block g (by simp; omega) (fun e => hrg e.symm))).far (p := ⟨o, 0, none⟩) hgo (.slice B7 (P.length + 1) cp7)
            have hB8 := ((HBr.out.trans (bL.mono HBr.out.size)).grown hgrow7 (HBr.out.trans (bL.mono HBr.out.size)).size (fun i hi => by have := (HGr.out.1.lt i (by rw [HPL.out]; exact hi)).1; omega)).setCell (p := ⟨o, 0, none⟩) ho0 (.slice B7 (P.length + 1) cp7)
            have hz8 : base ≤ (w7.setCell ⟨o, 0, none⟩ (.slice B7 (P.length + 1) cp7)).heap.size := by have := hgrow7.size; simp at this ⊢; omega
            rw [← HPL.out] at hG8 hX8 hW8 hB8 hz8
            clear kA fA kA2 k7 f7
            go_wp2
            refine bodyPost_ret (results_none rfl _ _ _) rfl ?_
            exact HLK.out _ _ (HNEW.out _ _ _ _ HT.out hB8 hz8 hW8 hX8 (by first | exact hG8 | (rw [HPL.out] at hG8 ⊢; exact hG8))) rfl

theorem codesL_le : ∀ d b c, (codesL d b c).length ≤ 2^d
  | 0, b, c => by simp [codesL]
  | d+1, b, c => by
    have h1 := codesL_le d (b+1) (c + 2^b)
    have h2 := codesL_le d (b+1) c
    unfold codesL
    rw [List.length_append, Nat.pow_succ]
    split
    · simp; omega
    · omega
theorem bitsW {b c i : Nat} (hc : c < 2^b) (_hi : i ≤ b) : c < 2^(b+1) := by rw [Nat.pow_succ]; omega
set_option maxRecDepth 20000 in
set_option maxHeartbeats 8000000 in
theorem pzLook_any (N n k : Nat) (A : Option Addr) (cap : Nat) (C : List Clu) (g o base cpw : Nat) (w0 : World) (hN : N = 2^n) (hn1 : 1 ≤ n) (hn4 : n ≤ 4) (hk8 : k ≤ 1048576) (hK : KCl w0 A k C) (hask : ∀ j, j < k → AskK n (cAt C j))
    (hg0 : w0.heap.size ≤ g) (hgb : g < base) (ho0 : w0.heap.size ≤ o) (hob : o < base) (hgo : g ≠ o) : ∀ (d b c : Nat) (f : Nat → Bool) (P : GP) (v : Value) (w : World), b + d = N → c < 2^b → Below w0.heap.size w0 w → base ≤ w.heap.size →
    Own w g 4 N (fun j => .bool (f j)) → (∀ s, s < b → f s = c.testBit s) → Box1 47 w o v → GL base n P v w → P.length + 2^d ≤ 1000000 →
    Calls Try.prog 98 #[.slice (some ⟨g, 0, none⟩) N cpw, .int .i64 b, .int .i64 n, .slice A k cap, .pointer (some ⟨o, 0, none⟩)] w fun e w' => e = .returned (.tuple #[]) ∧ LookQ w0 base N n g o b c P ((codesL d b c).filter (okC n C)) w' := by
  intro d
  induction d with
  | zero =>
    intro b c f P v w hbd hc hb0 hbase hw hf hbx hG hP
    obtain rfl : b = N := by omega
    exact pzLook_leaf b n k A cap C c g o base cpw P v w0 w hN hn1 hn4 hk8 hK hask hg0 hgb ho0 hob hgo hb0 hbase (hw.ext fun j hj => by rw [hf j hj]) hbx hG (by have := Nat.two_pow_pos 0; omega)
  | succ d ih =>
    intro b c f P v w hbd hc hb0 hbase hw hf hbx hG hP
    have hN16 : N ≤ 16 := by rw [hN]; exact Nat.pow_le_pow_right (n := 2) (by omega) hn4
    have hbN : b < N := by omega
    have hd2 : 2^(d+1) = 2^d + 2^d := by rw [Nat.pow_succ]; omega
    rw [hd2] at hP
    have HI := Lib.hid (fun (c' : Nat) (f' : Nat → Bool) (P' : GP) (v' : Value) (W : World) (h1 : c' < 2^(b+1)) (h2 : Below w0.heap.size w0 W) (h3 : base ≤ W.heap.size) (h4 : Own W g 4 N (fun j => .bool (f' j))) (h5 : ∀ s, s < b + 1 → f' s = c'.testBit s) (h6 : Box1 47 W o v') (h7 : GL base n P' v' W) (h8 : P'.length + 2^d ≤ 1000000) =>
      show Calls Try.prog 98 #[.slice (some ⟨g, 0, none⟩) N cpw, .int .i64 ((b : Int) + 1), .int .i64 n, .slice A k cap, .pointer (some ⟨o, 0, none⟩)] W (fun e w' => e = .returned (.tuple #[]) ∧ LookQ w0 base N n g o (b+1) c' P' ((codesL d (b+1) c').filter (okC n C)) w') from ih (b+1) c' f' P' v' W (by omega) h1 h2 h3 h4 h5 h6 h7 h8)
    have HLEN := Lib.hid (show ∀ b c, (codesL d b c).length ≤ 2^d from codesL_le d)
    have HD := Lib.hid (show codesL (d+1) b c = codesL d (b+1) (c + 2^b) ++ if mustB c b (mem b 9) (mem b 9).length then [] else codesL d (b+1) c from by rw [mustB_all]; rfl)
    have hS2 : c + 2^b < 2^(b+1) := by rw [Nat.pow_succ]; omega
    have hS1 : c < 2^(b+1) := by rw [Nat.pow_succ]; omega
    have HS1 := Lib.hid hS1
    have HS2 := Lib.hid hS2
    have HBT := Lib.hid (show ∀ j, (c + 2^b).testBit j = if j = b then true else c.testBit j from fun j => bit_put hc)
    have HCB := Lib.hid (show c.testBit b = false from Nat.testBit_lt_two_pow hc)
    have HF := Lib.hid hf
    have HPP := Lib.hid hP
    have HB0 := Lib.hid hb0
    have hgl := hw.lt
    have HVL := Lib.hid (fun W => voList_any b W (by omega))
    have HM := Lib.hid (show ∀ j, j < (mem b 9).length → ∃ i : Nat, (mem b 9).getD j 0 = i ∧ i < 9 ∧ b.testBit i = true from fun j hj => by
      have h1 : (mem b 9).getD j 0 ∈ mem b 9 := by rw [List.getD_eq_getElem?_getD, List.getElem?_eq_getElem hj]; exact List.getElem_mem hj
      obtain ⟨i, h2, h3, h4⟩ := mem_iff.1 h1
      exact ⟨i, h3, h2, h4⟩)
    have hml : (mem b 9).length ≤ 9 := mem_len b 9
    obtain ⟨M, hM⟩ : ∃ M, M = mem b 9 := ⟨_, rfl⟩
    rw [← hM] at HVL HM HD hml
    simp only [IntsAt] at HVL
    have HW := Lib.hid hw
    have HX := Lib.hid hbx
    have HG := Lib.hid hG
    have hne : (b : Int) ≠ N := by omega
    have hnb : ((b : Int) == N) = false := beq_false_of_ne hne
    have HU0 := Lib.hid (show mustB c b M 0 = false from rfl)
    obtain ⟨ml, hmle⟩ : ∃ ml, ml = M.length := ⟨_, rfl⟩
    have HML := Lib.hid hmle
    rw [← hmle] at HVL HM HD hml
    obtain ⟨Q, hQ⟩ : ∃ Q : World → Prop, Q = fun w' => LookQ w0 base N n g o b c P ((codesL (d+1) b c).filter (okC n C)) w' := ⟨_, rfl⟩
    suffices hS : Calls Try.prog 98 #[.slice (some ⟨g, 0, none⟩) N cpw, .int .i64 b, .int .i64 n, .slice A k cap, .pointer (some ⟨o, 0, none⟩)] w fun e w' => e = .returned (.tuple #[]) ∧ Q w' by rw [hQ] at hS; exact hS
    have HQ := Lib.hid (show ∀ W, LookQ w0 base N n g o b c P ((codesL (d+1) b c).filter (okC n C)) W → Q W from fun W h => by rw [hQ]; exact h)
    clear ih hS1 hS2 hf hb0 hw hbx hG hM hmle hQ hP hd2 hN hK hask hc
    go_enter Try.func98, Try.ntmps98
    go_wp2_with fail
    refine (HVL.out _).mono ?_
    rintro e w1 ⟨A1, cap1, rfl, hown1, hb1⟩
    have HO1 := Lib.hid hown1
    have HW1 := Lib.hid (HW.out.below hb1 hgl)
    have HX1 := Lib.hid (HX.out.now hb1)
    have HG1 := Lib.hid (HG.out.now hb1)
    have HB1 := Lib.hid (HB0.out.trans (hb1.mono HB0.out.size))
    have hz1 := hb1.size
    clear hown1
    go_wp2_with fail
    go_loopw [12, 14, 54] (fun u _ i wr => ∃ j : Nat, j ≤ ml ∧ i = .int .i64 j ∧ u = .bool (mustB c b M j) ∧ wr = w1) (fun _ _ i _ => ml - (intOf i).toNat)
    case atStart => exact ⟨0, Nat.zero_le _, rfl, rfl, rfl⟩
    case round =>
      obtain ⟨j, hj, rfl, rfl, rfl⟩ := hrel
      by_cases hlt : j < ml
      · obtain ⟨i, hi, hi9, hbt⟩ := HM.out j hlt
        obtain ⟨gM, cpM, hvM, _, _, _⟩ := owns_head HO1.out (by omega)
        obtain ⟨rfl, rfl⟩ : A1 = some ⟨gM, 0, none⟩ ∧ cap1 = cpM := by simpa using hvM
        have hOwn : Own wr gM 3 ml (fun t => .int .i64 (M.getD t 0)) := Own.of_own HO1.out (fun t ht => by rw [HML.out] at ht; simp [List.getD_eq_getElem?_getD, ht])
        have hcell : wr.cell? ⟨gM, j, none⟩ = some (.int .i64 i) := by rw [hOwn.cell hlt, hi]
        have HUS := Lib.hid (show mustB c b M (j+1) = (mustB c b M j || c.testBit (b - 2^i)) from by
          show (mustB c b M j || c.testBit (b - 2^(M.getD j 0).toNat)) = _
          rw [hi]; simp)
        have hge : 2^i ≤ b := Nat.ge_two_pow_of_testBit hbt
        have hi4 : i = 0 ∨ i = 1 ∨ i = 2 ∨ i = 3 := by
          rcases Nat.lt_or_ge i 4 with h | h
          · omega
          · have : 2^4 ≤ 2^i := Nat.pow_le_pow_right (by omega) h
            omega
        have hcl : wr.cell? ⟨g, b - 2^i, none⟩ = some (.bool (c.testBit (b - 2^i))) := by
          have := Nat.two_pow_pos i
          rw [HW1.out.cell (i := b - 2^i) (by omega), HF.out _ (by omega)]
        generalize mustB c b M j = u at *
        generalize c.testBit (b - 2^i) = y at *
        clear hOwn hvM hi hbt
        rcases hi4 with rfl | rfl | rfl | rfl <;> cases u
        all_goals
          simp only [Nat.reducePow] at hcl hge
          go_wp2
          go_roundw
          case rel => exact ⟨j + 1, by omega, by go_num, by rw [HUS.out]; simp, trivial⟩
          case measure => simp [intOf]; omega
      · obtain rfl : j = ml := by omega
        have hcf := HW1.out.cell (i := b) hbN
        have hff := HW1.out.frozen b
        have HI1 := Lib.hid (HI.out (c + 2^b) (fun s => if s = b then true else f s) P v (wr.setCell ⟨g, b, none⟩ (.bool true)) HS2.out (HB1.out.setCell (p := ⟨g, b, none⟩) hg0 _) (by simp [World.setCell]; omega)
          ((HW1.out.set b (.bool true)).ext fun j _ => by by_cases e : j = b <;> simp [e]) (fun s hs => by
            rw [HBT.out]
            by_cases e : s = b
            · simp [e]
            · simp only [e, if_false]; exact HF.out s (by omega)) (farX HX1.out (p := ⟨g, b, none⟩) (fun e => hgo e.symm) _) (HG1.out.set (a := ⟨g, b, none⟩) hgb _) (Nat.le_trans (Nat.add_le_add_left (Nat.le_add_left _ _) _) HPP.out))
        have HDE := Lib.hid HD.out
        cases hu : mustB c b M j with
        | true =>
          have HE := Lib.hid (show codesL (d+1) b c = codesL d (b+1) (c + 2^b) from by rw [HD.out, hu]; simp)
          clear hu
          go_wp2_with (first
            | (go_at_call 98; refine HI1.out.mono ?_; rintro e w4 ⟨rfl, hq4⟩; have HQ4 := Lib.hid hq4; clear hq4)
            | fail)
          obtain ⟨f1, P1, v1, hB4, hz4, hO4, hf4, hX4, hG4, hD4⟩ := HQ4.out
          first
            | refine bodyPost_ret (results_none rfl _ _ _) rfl ?_
            | go_end0
          exact ⟨rfl, HQ.out _ ⟨f1, P1, v1, hB4, hz4, hO4, fun s hs => by rw [hf4 s (by omega), HBT.out, if_neg (by omega)], hX4, hG4, by rw [hD4, HE.out]⟩⟩
        | false =>
          have HE := Lib.hid (show codesL (d+1) b c = codesL d (b+1) (c + 2^b) ++ codesL d (b+1) c from by rw [HD.out, hu]; simp)
          clear hu
          go_wp2_with (first
            | (go_at_call 98; refine HI1.out.mono ?_; rintro e w4 ⟨rfl, hq4⟩; have HQ4 := Lib.hid hq4; clear hq4; obtain ⟨f1, P1, v1, hB4, hz4, hO4, hf4, hX4, hG4, hD4⟩ := HQ4.out; have hcf4 := hO4.cell (i := b) hbN; have hff4 := hO4.frozen b; clear hcf hff; have HB4 := Lib.hid hB4; have HO4 := Lib.hid hO4; have HF4 := Lib.hid hf4; have HX4 := Lib.hid hX4; have HG4 := Lib.hid hG4; have HD4 := Lib.hid hD4; have hl4 : P1.length ≤ 2^d := (by have h1 := congrArg List.length HD4.out; rw [List.length_map] at h1; rw [h1]; exact Nat.le_trans (List.length_filter_le _ _) (HLEN.out _ _)); have HI2 := Lib.hid (HI.out c (fun s => if s = b then false else f1 s) (P ++ P1) v1 (w4.setCell ⟨g, b, none⟩ (.bool false)) HS1.out (HB4.out.setCell (p := ⟨g, b, none⟩) hg0 _) (by simp [World.setCell]; omega)
                ((HO4.out.set b (.bool false)).ext fun j _ => by by_cases e : j = b <;> simp [e]) (fun s hs => by
                  by_cases e : s = b
                  · simp [e, HCB.out]
                  · simp only [e, if_false]; rw [HF4.out s (by omega), HBT.out, if_neg e]) (farX HX4.out (p := ⟨g, b, none⟩) (fun e => hgo e.symm) _) (HG4.out.set (a := ⟨g, b, none⟩) hgb _) (by rw [List.length_append, Nat.add_assoc]; exact Nat.le_trans (Nat.add_le_add_left (Nat.add_le_add_right hl4 _) _) HPP.out)); clear hB4 hO4 hf4 hX4 hG4 hD4)
            | (go_at_call 98; refine HI2.out.mono ?_; rintro e w5 ⟨rfl, hq5⟩; have HQ5 := Lib.hid hq5; clear hq5)
            | fail)
          obtain ⟨f2, P2, v2, hB5, hz5, hO5, hf5, hX5, hG5, hD5⟩ := HQ5.out
          first
            | refine bodyPost_ret (results_none rfl _ _ _) rfl ?_
            | go_end0
          exact ⟨rfl, HQ.out _ ⟨f2, P1 ++ P2, v2, hB5, hz5, hO5, fun s hs => hf5 s (by omega), hX5, by rw [← List.append_assoc]; exact hG5, by rw [List.map_append, HD4.out, hD5, HE.out, List.filter_append]⟩⟩
end Go.Proofs.Ytnldodnpakpeeaa
