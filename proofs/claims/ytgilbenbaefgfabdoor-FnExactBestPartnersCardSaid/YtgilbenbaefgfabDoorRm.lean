/- Contracts of MergeMembers, the model's; the program's in the form that the law's walk takes. For the seats of tied cards. -/
import Derived.Test.YtgilbenbaefgfabDoorRj
import Derived.Outline
import Derived.Test.YtgilbenbaefgfabDoorRh
import Derived.Test.YtgilbenbaefgfabDoorRg
import Derived.Test.YtgilbenbaefgfabDoorPq
import Derived.Test.YtgilbenbaefgfabDoorS2
import Derived.Deep.AppendLies
import Derived.Deep.RegionLaw
namespace Go.Proofs.YtgilbenbaefgfabDoor
open Go.RowKit Vo

/-- Is z among the first k? -/
def hasU (xs : List Int) (z : Int) : Nat → Bool
  | 0 => false
  | k+1 => hasU xs z k || decide (xs.getD k 0 = z)
theorem hasU_yes {xs : List Int} {z : Int} {k m : Nat} (hk : k < m) (h : xs.getD k 0 = z) : hasU xs z m = true := by
  induction m with
  | zero => omega
  | succ m ih =>
    simp only [hasU]
    by_cases e : k = m
    · subst e; rw [h]; simp
    · rw [ih (by omega)]; rfl
theorem ofU_has {n : Nat} {xs : List Int} {j z : Nat} (h : InK 0 ((n : Int) - 1) xs j) : (ofK xs j).testBit z = hasU xs (z : Int) j := by
  induction j with
  | zero => simp [ofK, hasU]
  | succ j ih =>
    have h1 := h j (by omega)
    simp only [ofK, hasU]
    rw [Nat.testBit_or, ih fun i hi => h i (by omega), Nat.testBit_two_pow]
    congr 1
    by_cases e : xs.getD j 0 = z
    · rw [e]; simp
    · rw [decide_eq_false e, decide_eq_false (by omega)]

set_option maxHeartbeats 1000000 in
theorem l1HasU_any (b off m cap : Nat) (xs : List Int) (z : Int) (w : World) (hm : m ≤ 9223372036854775807) (hsl : Sl w b off m xs) :
    Calls Tryd.prog 35 #[.slice (some ⟨b, off, none⟩) m cap, .int .i64 z] w fun e w' => e = .returned (.bool (hasU xs z m)) ∧ w = w' := by
  have HSL := Lib.hid hsl
  clear hsl
  have hlt0 := HSL.out.lt
  go_enter Tryd.func35, Tryd.ntmps35
  go_wp2
  go_loop [6, 9] (fun _ i => ∃ k : Nat, k ≤ m ∧ i = .int .i64 k ∧ hasU xs z k = false) (fun _ i => m - (intOf i).toNat)
  case atStart => exact ⟨0, Nat.zero_le _, rfl, rfl⟩
  case round =>
    obtain ⟨k, hk, rfl, hin⟩ := hrel
    have HIN := Lib.hid hin
    clear hin
    by_cases hlt : k < m
    · have hcell : w.cell? ⟨b, off + k, none⟩ = some (.int .i64 (xs.getD k 0)) := HSL.out.cell k hlt
      by_cases hw : xs.getD k 0 = z
      · have HY := Lib.hid (hasU_yes hlt hw)
        rw [hw] at hcell
        clear hw
        go_wp2
        go_ret
        exact ⟨by rw [HY.out]; rfl, rfl⟩
      · have HS := Lib.hid (show hasU xs z (k+1) = false from by simp only [hasU]; rw [HIN.out, decide_eq_false hw]; rfl)
        have hbe : (xs.getD k 0 == z) = false := by simpa using hw
        clear hw
        generalize xs.getD k 0 = x at *
        go_wp2
        go_round
        case rel => exact ⟨k + 1, by omega, by go_num, HS.out⟩
        case measure => simp [intOf]; omega
    · obtain rfl : k = m := by omega
      go_wp2
      go_ret
      exact ⟨by rw [HIN.out]; rfl, rfl⟩

theorem hasU_iff {xs : List Int} {z : Int} {m : Nat} : hasU xs z m = true ↔ ∃ k, k < m ∧ xs.getD k 0 = z := by
  constructor
  · induction m with
    | zero => intro h; simp [hasU] at h
    | succ m ih =>
      intro h
      simp only [hasU, Bool.or_eq_true, decide_eq_true_eq] at h
      rcases h with h | h
      · obtain ⟨k, hk, e⟩ := ih h
        exact ⟨k, by omega, e⟩
      · exact ⟨m, by omega, h⟩
  · rintro ⟨k, hk, e⟩; exact hasU_yes hk e
theorem rise_in {n : Nat} {xs : List Int} {m : Nat} (h : RiseK n xs m) : InK 0 ((n : Int) - 1) xs m := fun i hi => by
  have := h i hi
  exact ⟨this.1, by omega⟩
theorem rise_first {n : Int} {xs : List Int} {m : Nat} (h : RiseK n xs m) : ∀ k, k < m → xs.getD 0 0 ≤ xs.getD k 0 := by
  intro k
  induction k with
  | zero => intro _; exact Int.le_refl _
  | succ k ih =>
    intro hk
    have h1 := ih (by omega)
    have h2 := (h (k+1) hk).2.2 (by omega)
    rw [Nat.add_sub_cancel] at h2
    omega
theorem set_first {n : Nat} {xs : List Int} {m : Nat} (hn : n ≤ 9) (h : RiseK n xs m) (hm : 1 ≤ m) : 0 < ofK xs m ∧ xs.getD 0 0 = (firstN (ofK xs m) : Nat) := by
  have h5 : ofK xs m < 512 := by have := ofK_lt h; have := pow_lt hn; omega
  have h0 := h 0 (by omega)
  obtain ⟨a, ha⟩ : ∃ a : Nat, xs.getD 0 0 = (a : Int) := ⟨(xs.getD 0 0).toNat, by omega⟩
  have hb : (ofK xs m).testBit a = true := by rw [ofU_has (rise_in h)]; exact hasU_yes (k := 0) (by omega) ha
  have hpos : 0 < ofK xs m := by
    rcases Nat.eq_zero_or_pos (ofK xs m) with e | e
    · rw [e, Nat.zero_testBit] at hb; cases hb
    · exact e
  refine ⟨hpos, ?_⟩
  obtain ⟨_, f2, f3⟩ := first_in hpos h5
  have h1 : firstN (ofK xs m) ≤ a := by
    apply Nat.le_of_not_lt
    intro g
    rw [f3 a g] at hb; cases hb
  rw [ofU_has (rise_in h), hasU_iff] at f2
  obtain ⟨k, hk, e⟩ := f2
  have h2 := rise_first h k hk
  rw [ha] at h2 ⊢
  omega
theorem mrgL_step (ws : List Int) (s f : Nat) (W : Int) (j : Nat) : mrgL ws s f W (j+1) = mrgL ws s f W j ++ if j = f then [W] else if s.testBit j then [] else [ws.getD j 0] := rfl
theorem ownsU_far {w : World} {base : Nat} {e : TypeId} {size : Nat} {v : Value} {n : Nat} {xs : List Value} (h : w.ownsRow base e size v n xs) {p : Addr} (hp : p.block < base) (u : Value) : (w.setCell p u).ownsRow base e size v n xs := by
  obtain ⟨h1, h2⟩ := h
  refine ⟨h1, ?_⟩
  rcases h2 with h2 | ⟨g', cap, cur, hv, hg', hh, r⟩
  · exact Or.inl h2
  · exact Or.inr ⟨g', cap, cur, hv, hg', by rw [Below.heap_setCell w p u g' (by omega)]; exact hh, r⟩
theorem boxU_set1 {t : TypeId} {w : World} {g : Nat} {u v : Value} (h : BoxT t w g u v) (b : Value) : BoxT t (w.setCell ⟨g, 1, none⟩ b) g u b := by
  unfold BoxT at *
  simp [World.setCell, Array.getElem?_modify, h]
end Go.Proofs.YtgilbenbaefgfabDoor

namespace Go.Proofs.YtgilbenbaefgfabDoor
open Go.RowKit Vo

set_option maxRecDepth 20000 in
set_option maxHeartbeats 8000000 in
theorem unMerge_any (q : Int) (b off n b2 off2 m cap2 : Nat) (ws xs : List Int) (w : World) (hg : Vo.Good q ws n) (hr : RiseK n xs m) (hm1 : 1 ≤ m) (hm2 : m ≤ 9223372036854775807) (hsl : Sl w b off n ws) (hs : Sl w b2 off2 m xs) :
    Calls Tryd.prog 19 #[.agg #[.int .i64 q, .slice (some ⟨b, off, none⟩) n n], .slice (some ⟨b2, off2, none⟩) m cap2] w fun e w' => ComV q (uniL ws n (ofK xs m)).length (uniL ws n (ofK xs m)) w w' e := by
  obtain ⟨i0, hi0, hz0, hz1, hz2⟩ := infoIntParts
  have hn9 := hg.hi
  have hn1 := hg.lo
  have h5 : ofK xs m < 512 := by have := ofK_lt hr; have := pow_lt hn9; omega
  obtain ⟨hpos, hfst⟩ := set_first hn9 hr hm1
  have hfn := first_lt hpos hn9 (ofK_lt hr)
  have hum := uniL_pos (ws := ws) hpos hn9 (ofK_lt hr)
  have HVB := Lib.hid (fun W h => voBits_any n b2 off2 m cap2 xs W (by omega) hm2 hr h)
  have HVW := Lib.hid (fun W h => voWeight_any (.int .i64 q) b off n n ws (ofK xs m) W (by omega) h5 hg.ok h)
  have HLH := Lib.hid (show ∀ (j : Nat) W, Sl W b2 off2 m xs → Calls Tryd.prog 35 #[.slice (some ⟨b2, off2, none⟩) m cap2, .int .i64 j] W fun e w' => e = .returned (.bool ((ofK xs m).testBit j)) ∧ W = w' from fun j W h => by
    rw [ofU_has (rise_in hr)]
    exact l1HasU_any b2 off2 m cap2 xs j W hm2 h)
  have HUL := Lib.hid (show uniL ws n (ofK xs m) = mrgL ws (ofK xs m) (firstN (ofK xs m)) (wtK ws (ofK xs m) n) n from rfl)
  have HSL := Lib.hid hsl
  have HSS := Lib.hid hs
  have hbl := hsl.lt
  have hb2l := hs.lt
  clear hg hr hsl hs
  obtain ⟨s, hse⟩ : ∃ z, z = ofK xs m := ⟨_, rfl⟩
  simp only [← hse] at HVB HVW HLH HUL
  rw [← hse] at hfst hfn h5 hum ⊢
  clear hse hpos
  obtain ⟨X, hX⟩ : ∃ z, z = wtK ws s n := ⟨_, rfl⟩
  simp only [← hX] at HVW HUL
  clear hX
  obtain ⟨f, hf⟩ : ∃ z, z = firstN s := ⟨_, rfl⟩
  simp only [← hf] at HUL
  rw [← hf] at hfst hfn
  clear hf
  have HFST := Lib.hid hfst
  clear hfst
  rw [HUL.out] at hum ⊢
  have b5 : Below w.heap.size w (((w.alloc (.cells #[.int .i64 q, .slice (some ⟨b, off, none⟩) n n] 28)).alloc (.cells #[.int .i64 0, .slice none 0 0] 28)).alloc (.cells #[.int .i64 q, .slice none 0 0] 28)) := ((below1 w _).alloc (by simp) _).alloc (by simp; omega) _
  have hx5 := ((Box.new w (.int .i64 q) (.slice (some ⟨b, off, none⟩) n n)).alloc (.cells #[.int .i64 0, .slice none 0 0] 28)).alloc (.cells #[.int .i64 q, .slice none 0 0] 28)
  have hr5 := (Box.new (w.alloc (.cells #[.int .i64 q, .slice (some ⟨b, off, none⟩) n n] 28)) (.int .i64 0) (.slice none 0 0)).alloc (.cells #[.int .i64 q, .slice none 0 0] 28)
  have hn5 := Box.new ((w.alloc (.cells #[.int .i64 q, .slice (some ⟨b, off, none⟩) n n] 28)).alloc (.cells #[.int .i64 0, .slice none 0 0] 28)) (.int .i64 q) (.slice none 0 0)
  simp only [World.size_alloc] at hr5 hn5
  obtain ⟨c0, c1⟩ := ((Box.new w (.int .i64 q) (.slice (some ⟨b, off, none⟩) n n)).alloc (.cells #[.int .i64 0, .slice none 0 0] 28)).cells
  obtain ⟨c2, c3⟩ := hx5.cells
  go_enter Tryd.func19, Tryd.ntmps19
  go_wp2_with fail
  have hsz5 : (((w.alloc (.cells #[.int .i64 q, .slice (some ⟨b, off, none⟩) n n] 28)).alloc (.cells #[.int .i64 0, .slice none 0 0] 28)).alloc (.cells #[.int .i64 q, .slice none 0 0] 28)).heap.size = w.heap.size + 1 + 1 + 1 := by simp
  obtain ⟨w5, hw5⟩ : ∃ z, z = (((w.alloc (.cells #[.int .i64 q, .slice (some ⟨b, off, none⟩) n n] 28)).alloc (.cells #[.int .i64 0, .slice none 0 0] 28)).alloc (.cells #[.int .i64 q, .slice none 0 0] 28)) := ⟨_, rfl⟩
  rw [← hw5] at b5 hx5 hr5 hn5 hsz5 ⊢
  clear hw5 c0 c1 c2 c3
  obtain ⟨nb, hnbe⟩ : ∃ nb, nb = w.heap.size + 1 + 1 := ⟨_, rfl⟩
  rw [← hnbe] at hn5 ⊢
  have hnb : w.heap.size + 1 < nb := by omega
  have hnb5 : nb < w5.heap.size := by omega
  clear hnbe hsz5
  go_loopw [6, 7, 14, 19, 34] (fun _ _ i _ _ wr => ∃ (j lj : Nat) (B : Option Addr) (cp : Nat), j ≤ n ∧ lj = (mrgL ws s f X j).length ∧ i = .int .i64 j ∧ wr.ownsRow w5.heap.size 3 1 (.slice B lj cp) lj ((mrgL ws s f X j).map (Value.int .i64)) ∧ Box wr nb (.int .i64 q) (.slice B lj cp) ∧ (∀ k, k < w5.heap.size → k ≠ nb → wr.heap[k]? = w5.heap[k]?) ∧ w5.heap.size ≤ wr.heap.size ∧ Below w.heap.size w wr) (fun _ _ i _ _ _ => n - (intOf i).toNat)
  case atStart => exact ⟨0, 0, none, 0, Nat.zero_le _, rfl, rfl, World.ownsRow_nil _ _ _ _, hn5, fun _ _ _ => rfl, Nat.le_refl _, b5⟩
  case round =>
    obtain ⟨j, lj, B, cp, hj, hlj, rfl, hown, hnr, hsm, hszr, hbr⟩ := hrel
    have HO := Lib.hid hown
    have HSM := Lib.hid hsm
    have HLJ := Lib.hid hlj
    have hle9 : lj ≤ 9 := by have := mrgL_le ws s f X j; omega
    have hxr : Box wr w.heap.size (.int .i64 q) (.slice (some ⟨b, off, none⟩) n n) := (hsm _ (by omega) (by omega)).trans hx5
    have hrr : Box wr (w.heap.size + 1) (.int .i64 0) (.slice none 0 0) := (hsm _ (by omega) (by omega)).trans hr5
    have hsr : Sl wr b off n ws := HSL.out.now hbr
    have hss : Sl wr b2 off2 m xs := HSS.out.now hbr
    have HSR := Lib.hid hsr
    have HSSR := Lib.hid hss
    obtain ⟨d0, d1⟩ := hxr.cells
    obtain ⟨d2, d3⟩ := hrr.cells
    obtain ⟨f2, f3⟩ := frozen2 hrr
    obtain ⟨e0, e1⟩ := hnr.cells
    obtain ⟨x0, x1⟩ := frozen2 hnr
    clear hown hsm hlj
    by_cases hlt : j < n
    · have hcell := hsr.cell j hlt
      have hcs := hss.cell 0 (by omega)
      rw [HFST.out] at hcs
      simp only [Nat.add_zero] at hcs
      have HM0 := Lib.hid (mrgL_step ws s f X j)
      have hnl := hnr.lt
      have hm0 : (0 : Int) < (m : Int) := by omega
      have HLHJ := Lib.hid (fun W h => HLH.out j W h)
      clear hsr hss
      by_cases hjf : j = f
      · subst hjf
        have hM1 := HM0.out
        clear HM0
        rw [if_pos rfl] at hM1
        have HM1 := Lib.hid hM1
        clear hM1
        generalize ws.getD j 0 = v at *
        go_wp2_with fail
        go_region_law (first
          | (refine step_append_lies _ (by rfl) _ _ _ (by rfl) w5.heap.size 3 i0 _ 1 8 Tryd.underlying22 hi0 hz0 hz1 hz2 rfl (by omega) (.slice B lj cp) lj ((mrgL ws s j X j).map (Value.int .i64)) (by rfl) (HO9.out.alloc _) ⟨w9.heap.size, 0, none⟩ 1 1 [.int .i64 X] (by rfl) (by rfl) (World.news_of_block (cs := #[.int .i64 X]) (t := 3) (fr := (0, 0)) (heap_alloc_new w9 _)) (by simp [Value.oneCell']) (by omega) (by unfold maxLen; omega) (by omega) (by simp; omega) (w9.heap.size + 1) (by simp) ?_; intro gg cap4 w7 hown7 hgrow7 hat7 hlt7; have hn7 := ((hn9.alloc (.cells #[.int .i64 X] 3)).grown hgrow7 (owns_ne HO.out (by omega))); obtain ⟨k0, k1⟩ := hn7.cells; obtain ⟨k2, k3⟩ := frozen2 hn7)
          | (go_simp; go_at_call 34; refine (HVB.out _ HSSR.out.drew).mono ?_; rintro e w8 ⟨rfl, rfl⟩)
          | (go_simp; go_at_call 33; refine (HVW.out _ HSR.out.drew).mono ?_; rintro e w9 ⟨rfl, hb9⟩; have hn9 := hnr.drew.now hb9; have HO9 := Lib.hid (owns_now (World.ownsRow.drew HO.out) hb9); have hx9 := hxr.drew.now hb9; obtain ⟨y0, y1⟩ := hx9.cells; obtain ⟨y2, y3⟩ := hn9.cells; obtain ⟨y4, y5⟩ := frozen2 hn9; obtain ⟨y6, y7⟩ := (hn9.alloc (.cells #[.int .i64 X] 3)).cells; obtain ⟨y8, y9⟩ := frozen2 (hn9.alloc (.cells #[.int .i64 X] 3)); have hb9w := bfrom hbr.drew hb9; have hb9r := bfrom (Below.refl _ wr).drew hb9; have hsz9 := hb9r.size))
        all_goals
            have hz7 := hgrow7.size
            have hz7' : w9.heap.size + 1 ≤ w7.heap.size := by simpa using hz7
            have b7 : Below w.heap.size w w7 := (hb9w.alloc hb9w.size (.cells #[.int .i64 X] 3)).grown hgrow7 (by have := hb9w.size; simp; omega) fun i hi => by have := owns_le HO.out hi; omega
            have HN7 := Lib.hid (boxU_set1 hn7 (.slice (some ⟨gg, 0, none⟩) (lj + 1) cap4))
            have HO7 := Lib.hid (ownsU_far hown7 (p := ⟨nb, 1, none⟩) hnb5 (.slice (some ⟨gg, 0, none⟩) (lj + 1) cap4))
            have HS7 := Lib.hid (show ∀ k, k < w5.heap.size → k ≠ nb → (w7.setCell ⟨nb, 1, none⟩ (.slice (some ⟨gg, 0, none⟩) (lj + 1) cap4)).heap[k]? = w5.heap[k]? from fun k k1 k2 =>
              (Below.heap_setCell _ _ _ k k2).trans ((hgrow7.block k (by simp; omega) (owns_ne HO.out k1)).trans ((Below.heap_alloc w9 _ k (by show k < w9.heap.size; omega)).trans ((hb9r.block k (by omega)).trans (HSM.out k k1 k2)))))
            have b8 := b7.setCell (p := ⟨nb, 1, none⟩) (by show w.heap.size ≤ nb; omega) (.slice (some ⟨gg, 0, none⟩) (lj + 1) cap4)
            have HZ8 := Lib.hid (show w5.heap.size ≤ (w7.setCell ⟨nb, 1, none⟩ (.slice (some ⟨gg, 0, none⟩) (lj + 1) cap4)).heap.size from by show w5.heap.size ≤ (w7.setCell _ _).heap.size; simp; omega)
            clear k0 k1 k2 k3 hn7 hown7 hgrow7
            go_wp2
            go_roundw
            case rel =>
              refine ⟨j + 1, lj + 1, some ⟨gg, 0, none⟩, cap4, by omega, by rw [HM1.out]; simp; rw [← HLJ.out], by go_num, ?_, HN7.out, HS7.out, HZ8.out, (by first | exact below_drewN b8 _ | exact b8.drew | exact b8)⟩
              have h := HO7.out
              rw [HM1.out, List.map_append]
              exact h
            case measure => simp [intOf]; omega
      · have hM1 := HM0.out
        clear HM0
        rw [if_neg hjf] at hM1
        have hjfI : ((j : Int) == (f : Int)) = false := by simp; omega
        have hjfP : ¬ (j : Int) = (f : Int) := by omega
        cases htb : s.testBit j with
        | true =>
          rw [htb] at hM1 HLHJ
          simp only [if_true, List.append_nil] at hM1
          have HM1 := Lib.hid hM1
          clear hM1 htb
          generalize ws.getD j 0 = v at *
          go_wp2_with (first
            | (go_at_call 35; refine (HLHJ.out _ HSSR.out).mono ?_; rintro e w8 ⟨rfl, rfl⟩)
            | fail)
          go_roundw
          case rel => exact ⟨j + 1, lj, B, cp, by omega, by rw [HM1.out]; exact HLJ.out, by go_num, by rw [HM1.out]; exact HO.out, hnr, HSM.out, hszr, hbr⟩
          case measure => simp [intOf]; omega
        | false =>
          rw [htb] at hM1 HLHJ
          simp only [Bool.false_eq_true, if_false] at hM1
          have HM1 := Lib.hid hM1
          clear hM1 htb
          obtain ⟨v, hv⟩ : ∃ z, z = ws.getD j 0 := ⟨_, rfl⟩
          rw [← hv] at hcell HM1
          clear hv
          go_wp2_with (first
            | (go_at_call 35; refine (HLHJ.out _ HSSR.out).mono ?_; rintro e w8 ⟨rfl, rfl⟩)
            | (at_builtin; refine wpList_append_lies _ rfl _ _ _ rfl w5.heap.size 3 i0 _ 1 8 Tryd.underlying22 hi0 hz0 hz1 hz2 rfl (by decide) (.slice B lj cp) lj ((mrgL ws s f X j).map (Value.int .i64)) rfl (HO.out.alloc _) ⟨wr.heap.size, 0, none⟩ 1 1 [.int .i64 v] rfl rfl (World.news_of_block (cs := #[.int .i64 v]) (t := 3) (fr := (0, 0)) (heap_alloc_new wr _)) (by simp [Value.oneCell']) (by omega) (by unfold maxLen; omega) (by omega) (by simp; omega) (wr.heap.size + 1) (by simp) ?_; intro gg cap4 w7 hown7 hgrow7 hat7 hlt7; have hn7 := ((hnr.alloc (.cells #[.int .i64 v] 3)).grown hgrow7 (owns_ne HO.out (by omega))); obtain ⟨k0, k1⟩ := hn7.cells; obtain ⟨k2, k3⟩ := frozen2 hn7)
            | fail)
          all_goals
            have hz7 := hgrow7.size
            have hz7' : wr.heap.size + 1 ≤ w7.heap.size := by simpa using hz7
            have b7 : Below w.heap.size w w7 := (hbr.alloc hbr.size (.cells #[.int .i64 v] 3)).grown hgrow7 (by have := hbr.size; simp; omega) fun i hi => by have := owns_le HO.out hi; omega
            have HN7 := Lib.hid (boxU_set1 hn7 (.slice (some ⟨gg, 0, none⟩) (lj + 1) cap4))
            have HO7 := Lib.hid (ownsU_far hown7 (p := ⟨nb, 1, none⟩) hnb5 (.slice (some ⟨gg, 0, none⟩) (lj + 1) cap4))
            have HS7 := Lib.hid (show ∀ k, k < w5.heap.size → k ≠ nb → (w7.setCell ⟨nb, 1, none⟩ (.slice (some ⟨gg, 0, none⟩) (lj + 1) cap4)).heap[k]? = w5.heap[k]? from fun k k1 k2 =>
              (Below.heap_setCell _ _ _ k k2).trans ((hgrow7.block k (by simp; omega) (owns_ne HO.out k1)).trans ((Below.heap_alloc wr _ k (by show k < wr.heap.size; omega)).trans ((HSM.out k k1 k2)))))
            have b8 := b7.setCell (p := ⟨nb, 1, none⟩) (by show w.heap.size ≤ nb; omega) (.slice (some ⟨gg, 0, none⟩) (lj + 1) cap4)
            have HZ8 := Lib.hid (show w5.heap.size ≤ (w7.setCell ⟨nb, 1, none⟩ (.slice (some ⟨gg, 0, none⟩) (lj + 1) cap4)).heap.size from by show w5.heap.size ≤ (w7.setCell _ _).heap.size; simp; omega)
            clear k0 k1 k2 k3 hn7 hown7 hgrow7
            skip
            go_roundw
            case rel =>
              refine ⟨j + 1, lj + 1, some ⟨gg, 0, none⟩, cap4, by omega, by rw [HM1.out]; simp; rw [← HLJ.out], by go_num, ?_, HN7.out, HS7.out, HZ8.out, (by first | exact below_drewN b8 _ | exact b8.drew | exact b8)⟩
              have h := HO7.out
              rw [HM1.out, List.map_append]
              exact h
            case measure => simp [intOf]; omega
    · obtain rfl : n = j := by omega
      obtain ⟨g, cp', hv, hgl, _, _⟩ := owns_head HO.out (by have := HLJ.out; omega)
      obtain ⟨rfl, rfl⟩ : B = some ⟨g, 0, none⟩ ∧ cp = cp' := by simpa using hv
      have hI : Ints wr g lj (mrgL ws s f X n) := Own.of_own HO.out fun i hi => by
        have : i < (mrgL ws s f X n).length := by rw [← HLJ.out]; exact hi
        simp [List.getD_eq_getElem?_getD, this]
      have HI2 := Lib.hid hI
      have hrF := boxU_put hrr (.int .i64 q) (.slice (some ⟨g, 0, none⟩) lj cp)
      obtain ⟨z0, z1⟩ := hrF.cells
      clear hv hI
      go_wp2
      refine bodyPost_ret (v := .agg #[.int .i64 q, .slice (some ⟨g, 0, none⟩) lj cp]) (by simp [results, Tryd.results19, go_sem, z0, z1]) rfl ?_
      have hgr : g ≠ w.heap.size + 1 := by omega
      refine ⟨g, cp, by rw [← HLJ.out], by omega, ?_, (hbr.setCell (by simp) _).setCell (by simp) _⟩
      rw [← HLJ.out]
      exact (HI2.out.far (p := ⟨w.heap.size + 1, 0, none⟩) hgr _).far (p := ⟨w.heap.size + 1, 1, none⟩) hgr _
end Go.Proofs.YtgilbenbaefgfabDoor

namespace Go.Proofs.YtgilbenbaefgfabDoor
open Go.RowKit Vo

theorem uniB_all {q : Int} {ws : List Int} {n : Nat} {xs : List Int} {m : Nat} (h : okB q ws n xs m = true) (hm1 : 1 ≤ m) :
    Vo.Good q ws n ∧ RiseK n xs m ∧ okS q ws n xs m = ofK xs m ∧ goodB q (uniL ws n (ofK xs m)) (uniL ws n (ofK xs m)).length = uniB q ws n xs m := by
  obtain ⟨hg, _⟩ := okB_set h
  have hr : RiseK n xs m := by
    unfold okB at h
    simp only [Bool.and_eq_true] at h
    exact of_decide_eq_true h.2
  have hS := okS_yes h
  have hn9 := hg.hi
  have h5 : ofK xs m < 512 := by have := ofK_lt hr; have := pow_lt hn9; omega
  have h0 := (set_first hn9 hr hm1).1
  refine ⟨hg, hr, hS, ?_⟩
  rw [uniB_yes h (by rw [hS]; omega), hS]
  exact mrg_good hg h0 h5 (first_lt h0 hn9 (ofK_lt hr))
theorem uniB_none {q : Int} {ws : List Int} {n : Nat} {xs : List Int} : uniB q ws n xs 0 = false := by
  refine uniB_no2 ?_
  unfold okS
  split <;> rfl

set_option maxRecDepth 20000 in
set_option maxHeartbeats 4000000 in
theorem unSet_any (q : Int) (A : Option Addr) (n : Nat) (ws : List Int) (b2 off2 m cap2 : Nat) (xs : List Int) (w : World) (hm : n ≤ 9223372036854775807) (hk : Known w A n ws) (hm2 : m ≤ 9223372036854775807) (hs : Sl w b2 off2 m xs) :
    Calls Tryd.prog 17 #[.agg #[.int .i64 q, .slice A n n], .slice (some ⟨b2, off2, none⟩) m cap2] w fun e w' => e = .returned (.bool (uniB q ws n xs m)) ∧ Below w.heap.size w w' := by
  have hx := Box.new w (.int .i64 q) (.slice A n n)
  have hb0 := below1 w (.cells #[.int .i64 q, .slice A n n] 28)
  obtain ⟨c0, c1⟩ := hx.cells
  have HVA := Lib.hid (voAsked_any q A n n ws b2 off2 m cap2 xs _ hm (hk.now hb0) hm2 (hs.now hb0))
  have HK := Lib.hid hk
  have HS := Lib.hid hs
  clear hk hs
  cases hB : okB q ws n xs m with
  | false =>
    have HB := Lib.hid hB
    have HU := Lib.hid (uniB_no1 hB)
    clear hB
    rw [HU.out]
    go_enter Tryd.func17, Tryd.ntmps17
    go_wp2_with fail
    refine HVA.out.mono ?_
    rintro e w1 ⟨rfl, hb1⟩
    rw [HB.out]
    go_wp2
    go_ret
    exact ⟨rfl, bfrom hb0 hb1⟩
  | true =>
    have HB := Lib.hid hB
    by_cases hm0 : m = 0
    · subst hm0
      have HU := Lib.hid (uniB_none (q := q) (ws := ws) (n := n) (xs := xs))
      clear hB
      rw [HU.out]
      go_enter Tryd.func17, Tryd.ntmps17
      go_wp2_with fail
      refine HVA.out.mono ?_
      rintro e w1 ⟨rfl, hb1⟩
      rw [HB.out]
      go_wp2
      go_ret
      exact ⟨rfl, bfrom hb0 hb1⟩
    · have hm1 : 1 ≤ m := by omega
      obtain ⟨hg, hr, _, hU⟩ := uniB_all hB hm1
      obtain ⟨b, off, rfl, hsl⟩ := HK.out.get hg.lo
      have HSL := Lib.hid hsl
      have hle := uniL_le ws n (ofK xs m)
      have hn9 := hg.hi
      have HUM := Lib.hid (fun W (hb : Below w.heap.size w W) => unMerge_any q b off n b2 off2 m cap2 ws xs W hg hr hm1 hm2 (HSL.out.now hb) (HS.out.now hb))
      simp only [ComV] at HUM
      obtain ⟨L, hL⟩ : ∃ z, z = uniL ws n (ofK xs m) := ⟨_, rfl⟩
      simp only [← hL] at HUM
      rw [← hL] at hU hle
      clear hL
      have HVG := Lib.hid (fun g cp W (h : Ints W g L.length L) => voGood_any q (some ⟨g, 0, none⟩) L.length cp L W (by omega) (Known.of (Ints.sl h)))
      obtain ⟨mm, hmm⟩ : ∃ z, z = L.length := ⟨_, rfl⟩
      simp only [← hmm] at HUM HVG
      rw [← hmm] at hU hle
      have HU := Lib.hid hU
      have hm0' : (0 : Int) < (m : Int) := by omega
      clear hg hr hU hsl hm0 hmm hB
      go_enter Tryd.func17, Tryd.ntmps17
      go_wp2_with fail
      refine HVA.out.mono ?_
      rintro e w1 ⟨rfl, hb1⟩
      rw [HB.out]
      have g1 := bfrom hb0 hb1
      obtain ⟨d0, d1⟩ := (hx.now hb1).cells
      clear c0 c1
      go_wp2_with (first
        | (go_at_call 19; refine (HUM.out _ g1).mono ?_; rintro e w2 ⟨g, cp, rfl, hgl, hI, hb2⟩; have HI := Lib.hid hI; clear hI)
        | (go_at_call 27; refine (HVG.out g cp _ HI.out).mono ?_; rintro e w3 ⟨rfl, hb3⟩; rw [HU.out])
        | fail)
      go_ret
      exact ⟨by simp, bfrom g1 (bfrom hb2 hb3)⟩

theorem uniN_le (q : Int) (ws : List Int) (n : Nat) (xs : List Int) (m : Nat) : nIf (uniB q ws n xs m) (uniL ws n (okS q ws n xs m)).length ≤ 9 := nIf_le fun h => by
  have hB : okB q ws n xs m = true := by
    cases h' : okB q ws n xs m with
    | true => rfl
    | false => rw [uniB_no1 h'] at h; cases h
  have := uniL_le ws n (okS q ws n xs m)
  have := (okB_set hB).1.hi
  omega
