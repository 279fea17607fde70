/- Contracts of RootCommittee, the program's and the model's. -/
import Derived.Test.YtlofjccapglhgabF4
import Derived.Test.YtlofjccapglhgabM2
import Derived.Test.YtlofjccapglhgabN2
import Derived.Test.YtlofjccapglhgabN11
import Derived.Deep.AppendLies
import Derived.Deep.RegionLaw
import Derived.Outline
namespace Go.Proofs.Ytlofjccapglhgab
open Go.RowKit Vo

/-- The whole roots of numbers of people. -/
def rtF (ws : List Int) (k : Nat) : Nat := rt (ws.getD k 0).toNat
def rootsL (ws : List Int) (n : Nat) : List Int := perL (rtF ws) n
def comOk (ws : List Int) (n : Nat) : Bool := numsB 1 1000000 ws n
def comQ (ws : List Int) (n : Nat) : Int := if comOk ws n then (rq (sumK (rootsL ws n) n).toNat (sqK (rootsL ws n) n) : Nat) else 0
def comN (ws : List Int) (n : Nat) : Nat := if comOk ws n then n else 0
theorem comQ_yes {ws : List Int} {n : Nat} (h : comOk ws n = true) : comQ ws n = (rq (sumK (rootsL ws n) n).toNat (sqK (rootsL ws n) n) : Nat) := if_pos h
theorem comQ_no {ws : List Int} {n : Nat} (h : comOk ws n = false) : comQ ws n = 0 := if_neg (by rw [h]; simp)
theorem comN_yes {ws : List Int} {n : Nat} (h : comOk ws n = true) : comN ws n = n := if_pos h
theorem comN_no {ws : List Int} {n : Nat} (h : comOk ws n = false) : comN ws n = 0 := if_neg (by rw [h]; simp)
theorem comN_le (ws : List Int) (n : Nat) : comN ws n ≤ 9 := by
  cases h : comOk ws n with
  | true => rw [comN_yes h]; exact (numsB_parts h).2.1
  | false => rw [comN_no h]; omega
theorem rtF_bd {ws : List Int} {n k : Nat} (h : InK 1 1000000 ws n) (hk : k < n) : 1 ≤ rtF ws k ∧ rtF ws k ≤ 1000 := by
  have := h k hk
  exact ⟨rt_pos (by omega), rt_le (by omega)⟩
theorem roots_in {ws : List Int} {n : Nat} (h : InK 1 1000000 ws n) : InK 0 1000 (rootsL ws n) n := by
  intro j hj
  have := rtF_bd h hj
  unfold rootsL; rw [perL_get hj]; omega
theorem roots_pos {ws : List Int} {n : Nat} (h1 : 1 ≤ n) (h : InK 1 1000000 ws n) : 0 < sumK (rootsL ws n) n := by
  unfold rootsL
  rw [sumK_perL _ (Nat.le_refl n)]
  obtain ⟨m, rfl⟩ : ∃ m, n = m + 1 := ⟨n - 1, by omega⟩
  have := rtF_bd h (show m < m + 1 by omega)
  simp only [sumN]; omega
theorem roots_ok {ws : List Int} {n : Nat} (h : comOk ws n = true) : rootOk (rootsL ws n) n = true := by
  obtain ⟨h1, h9, hin⟩ := numsB_parts h
  unfold rootOk
  rw [numsB_yes h1 h9 (roots_in hin)]
  have := roots_pos h1 hin
  simp; omega
theorem frozen_box {t : TypeId} {w : World} {g : Nat} {u v : Value} (h : BoxT t w g u v) : w.frozen? ⟨g, 0, none⟩ = false ∧ w.frozen? ⟨g, 1, none⟩ = false := by
  unfold BoxT at h; exact ⟨by simp [World.frozen?, h], by simp [World.frozen?, h]⟩

set_option maxRecDepth 20000 in
set_option maxHeartbeats 4000000 in
theorem rootCommittee_any (A : Option Addr) (n cap : Nat) (ws : List Int) (w : World) (hm : n ≤ 9223372036854775807) (hk : Known w A n ws) :
    Calls Try.prog 26 #[.slice A n cap] w fun e w' => ComAt (comQ ws n) (comN ws n) (rootsL ws n) (comOk ws n) w w' e := by
  have HK := Lib.hid hk
  clear hk
  have hr := Box.new w (.int .i64 0) (.slice none 0 0)
  have hb0 := below1 w (.cells #[.int .i64 0, .slice none 0 0] 28)
  obtain ⟨i0, hi0, hz0, hz1, hz2⟩ := infoIntParts
  cases hok : comOk ws n with
  | false =>
    have HN := Lib.hid (show numsB 1 1000000 ws n = false from hok)
    have HE := Lib.hid hok
    clear hok
    go_enter Try.func26, Try.ntmps26
    obtain ⟨d0, d1⟩ := hr.cells
    obtain ⟨f0, f1⟩ := frozen_box hr
    go_wp2_with (go_at_call 60; refine (areNumbers_any A n cap 1 1000000 ws _ hm (HK.out.now hb0)).mono ?_; rintro e w1 ⟨rfl, rfl⟩; rw [HN.out])
    refine bodyPost_ret (v := .tuple #[.agg #[.int .i64 0, .slice none 0 0], .bool false]) (by simp [results, Try.results26, go_sem, d0, d1]) rfl ?_
    rw [comQ_no HE.out, comN_no HE.out]
    first
      | exact ⟨_, _, rfl, Or.inl ⟨rfl, rfl⟩, hb0⟩
      | exact ⟨_, _, rfl, Or.inl ⟨rfl, rfl⟩, below1 _ _⟩
      | exact ⟨_, _, rfl, Or.inl ⟨rfl, rfl⟩, (hb0.setCell (p := ⟨w.heap.size, 0, none⟩) (Nat.le_refl _) _).setCell (p := ⟨w.heap.size, 1, none⟩) (Nat.le_refl _) _⟩
  | true =>
    obtain ⟨h1, h9, hin⟩ := numsB_parts (show numsB 1 1000000 ws n = true from hok)
    have HN := Lib.hid (show numsB 1 1000000 ws n = true from hok)
    have HE := Lib.hid hok
    have HRO := Lib.hid (roots_ok hok)
    have HRV := Lib.hid (show rootV (rootsL ws n) n = comQ ws n from by rw [rootV_yes (roots_ok hok), comQ_yes hok])
    obtain ⟨b, off, rfl, hsl⟩ := HK.out.get h1
    have HSL := Lib.hid (hsl.now hb0)
    have HIN := Lib.hid hin
    have hbl : b < w.heap.size := hsl.lt
    clear hok hsl hin
    go_enter Try.func26, Try.ntmps26
    go_wp2_with fail
    refine (areNumbers_any _ n cap 1 1000000 ws _ hm (HK.out.now hb0)).mono ?_
    rintro e w1 ⟨rfl, rfl⟩
    rw [HN.out]
    obtain ⟨W0, hW0⟩ : ∃ W0, W0 = w.alloc (.cells #[.int .i64 0, .slice none 0 0] 28) := ⟨_, rfl⟩
    rw [← hW0] at hb0 hr HSL ⊢
    have hsz0 : W0.heap.size = w.heap.size + 1 := by rw [hW0]; simp
    clear hW0
    go_wp2_with (at_make; refine wpList_make_own _ rfl _ _ 22 rfl W0.heap.size 3 i0 (.int .i64 0) 1 Try.underlying22 hi0 hz0 hz1 .i64 .i64 n n rfl rfl rfl (by rw [hz2]; omega) (by unfold maxLen; omega) (by simp) ?_; intro w2 hown hgrow; have b2 : Below W0.heap.size W0 w2 := (Below.refl _ _).grown hgrow (Nat.le_refl _) (fun j hj => by cases hj); have HO2 := Lib.hid hown; clear hown hgrow)
    go_loopw [4, 6, 18] (fun v _ i wr => ∃ (j : Nat) (B : Option Addr) (cp : Nat), j ≤ n ∧ i = .int .i64 j ∧ v = .slice B j cp ∧ wr.ownsRow W0.heap.size 3 1 (.slice B j cp) j ((perL (rtF ws) j).map (Value.int .i64)) ∧ Below W0.heap.size W0 wr) (fun _ _ i _ => n - (intOf i).toNat)
    case atStart => exact ⟨0, some ⟨W0.heap.size, 0, none⟩, n, Nat.zero_le _, rfl, by rw [hsz0], HO2.out, b2⟩
    case round =>
      obtain ⟨j, B, cp, hj, rfl, rfl, hown, hbr⟩ := hrel
      have HO := Lib.hid hown
      have hszr := hbr.size
      clear hown
      by_cases hlt : j < n
      · have hcell := (HSL.out.now hbr).cell j hlt
        have hinj := HIN.out j hlt
        have HS := Lib.hid (perL_succ (rtF ws) j)
        have HR := Lib.hid (show rtF ws j = rt (ws.getD j 0).toNat from rfl)
        obtain ⟨x, hx⟩ : ∃ x : Nat, ws.getD j 0 = x := ⟨(ws.getD j 0).toNat, by omega⟩
        rw [hx] at hcell hinj HR
        rw [Int.toNat_natCast] at HR
        clear hx
        generalize rtF ws j = r at *
        go_wp2_with (first
          | (go_at_call 61; refine (rootDown_any x _ (by omega)).mono ?_; rintro e w5 ⟨rfl, rfl⟩; rw [← HR.out])
          | (at_builtin; refine wpList_append_lies _ rfl _ _ _ rfl W0.heap.size 3 i0 _ 1 8 Try.underlying22 hi0 hz0 hz1 hz2 rfl (by decide) (.slice B j cp) j ((perL (rtF ws) j).map (Value.int .i64)) rfl (HO.out.alloc _) ⟨wr.heap.size, 0, none⟩ 1 1 [.int .i64 r] rfl rfl (World.news_of_block (cs := #[.int .i64 r]) (t := 3) (fr := (0, 0)) (heap_alloc_new wr _)) (by simp [Value.oneCell']) (by omega) (by unfold maxLen; omega) (by omega) (by simp; omega) (wr.heap.size + 1) (by simp) ?_; intro gg cap4 w6 hown6 hgrow6 hat hlt6))
        have b6 : Below W0.heap.size W0 w6 := (hbr.alloc hszr (.cells #[.int .i64 r] 3)).grown hgrow6 (by simp; omega) fun i hi => owns_le HO.out hi
        go_roundw
        case rel => exact ⟨j + 1, some ⟨gg, 0, none⟩, cap4, by omega, by go_num, by simp, by rw [HS.out]; simpa using hown6, b6⟩
        case measure => simp [intOf]; omega
      · obtain rfl : n = j := by omega
        obtain ⟨g, cp', hv, hg, _, _⟩ := owns_head HO.out (by omega)
        obtain ⟨rfl, rfl⟩ : B = some ⟨g, 0, none⟩ ∧ cp = cp' := by simpa using hv
        have hI : Ints wr g n (rootsL ws n) := Own.of_own HO.out fun i hi => by simp [rootsL, perL, hi]
        have HI := Lib.hid hI
        have hrr := hr.now hbr
        obtain ⟨d0, d1⟩ := hrr.cells
        obtain ⟨f0, f1⟩ := frozen_box hrr
        have hgw : w.heap.size + 1 ≤ g := by omega
        have hbw := bfrom hb0 hbr
        clear hv hI
        go_wp2_with (go_at_call 29; refine (rootQuota_any _ n cp (rootsL ws n) _ hm (Known.of (Ints.sl HI.out))).mono ?_; rintro e w7 ⟨rfl, rfl⟩; rw [HRO.out, HRV.out])
        obtain ⟨Q, hQ⟩ : ∃ Q, Q = comQ ws n := ⟨_, rfl⟩
        rw [← hQ]
        refine bodyPost_ret (v := .tuple #[.agg #[.int .i64 Q, .slice (some ⟨g, 0, none⟩) n cp], .bool true]) (by simp [results, Try.results26, go_sem, d0, d1]) rfl ?_
        rw [hQ, comN_yes HE.out]
        refine ⟨_, _, rfl, Or.inr ⟨g, rfl, by omega, ?_⟩, (hbw.setCell (p := ⟨w.heap.size, 0, none⟩) (Nat.le_refl _) _).setCell (p := ⟨w.heap.size, 1, none⟩) (Nat.le_refl _) _⟩
        exact (Own.far HI.out (p := ⟨w.heap.size, 0, none⟩) (show g ≠ w.heap.size by omega) _).far (p := ⟨w.heap.size, 1, none⟩) (show g ≠ w.heap.size by omega) _

theorem Sl.of_block {w w' : World} {b off n : Nat} {xs : List Int} (h : Sl w b off n xs) (hs : b < w'.heap.size) (e : w'.heap[b]? = w.heap[b]?) : Sl w' b off n xs :=
  ⟨hs, fun j hj => by rw [← h.cell j hj]; simp [World.cell?, e]⟩
theorem owns_far2 {w : World} {base : Nat} {e : TypeId} {size : Nat} {v : Value} {n : Nat} {xs : List Value} (h : w.ownsRow base e size v n xs) {p : Addr} (hp : p.block < base) (u : Value) : (w.setCell p u).ownsRow base e size v n xs := by
  obtain ⟨h1, h2⟩ := h
  refine ⟨h1, ?_⟩
  rcases h2 with h2 | ⟨g, cap, cur, hv, hg, hh, r⟩
  · exact Or.inl h2
  · exact Or.inr ⟨g, cap, cur, hv, hg, (Below.heap_setCell w p u g (by omega)).trans hh, r⟩
theorem box_set1 {t : TypeId} {w : World} {g : Nat} {u v : Value} (h : BoxT t w g u v) (b : Value) : BoxT t (w.setCell ⟨g, 1, none⟩ b) g u b := by
  unfold BoxT at *
  simp [World.setCell, Array.getElem?_modify, h]
theorem box_set0 {t : TypeId} {w : World} {g : Nat} {u v : Value} (h : BoxT t w g u v) (b : Value) : BoxT t (w.setCell ⟨g, 0, none⟩ b) g b v := by
  unfold BoxT at *
  simp [World.setCell, Array.getElem?_modify, h]

set_option maxRecDepth 20000 in
set_option maxHeartbeats 8000000 in
theorem sRootCommittee_any (A : Option Addr) (n cap : Nat) (ws : List Int) (w : World) (hm : n ≤ 9223372036854775807) (hk : Known w A n ws) :
    Calls Try.prog 24 #[.slice A n cap] w fun e w' => ComAt (comQ ws n) (comN ws n) (rootsL ws n) (comOk ws n) w w' e := by
  have HK := Lib.hid hk
  clear hk
  have hr := Box.new w (.int .i64 0) (.slice none 0 0)
  have hb0 := below1 w (.cells #[.int .i64 0, .slice none 0 0] 28)
  obtain ⟨i0, hi0, hz0, hz1, hz2⟩ := infoIntParts
  have hsp := numsB_split 1 1000000 ws n
  cases hi : inB n 1 9 with
  | false =>
    have HI := Lib.hid hi
    have HE := Lib.hid (show comOk ws n = false from by unfold comOk; rw [hsp, hi]; rfl)
    clear hsp hi
    go_enter Try.func24, Try.ntmps24
    obtain ⟨d0, d1⟩ := hr.cells
    obtain ⟨f0, f1⟩ := frozen_box hr
    go_wp2_with (go_at_call 56; refine (l1In_any n 1 9 _).mono ?_; rintro e w1 ⟨rfl, rfl⟩; rw [HI.out])
    refine bodyPost_ret (v := .tuple #[.agg #[.int .i64 0, .slice none 0 0], .bool false]) (by simp [results, Try.results24, go_sem, d0, d1]) rfl ?_
    rw [comQ_no HE.out, comN_no HE.out, HE.out]
    first
      | exact ⟨_, _, rfl, Or.inl ⟨rfl, rfl⟩, hb0⟩
      | exact ⟨_, _, rfl, Or.inl ⟨rfl, rfl⟩, below1 _ _⟩
      | exact ⟨_, _, rfl, Or.inl ⟨rfl, rfl⟩, (hb0.setCell (p := ⟨w.heap.size, 0, none⟩) (Nat.le_refl _) _).setCell (p := ⟨w.heap.size, 1, none⟩) (Nat.le_refl _) _⟩
  | true =>
    have h19 : 1 ≤ n ∧ n ≤ 9 := by unfold inB at hi; simp at hi; omega
    obtain ⟨h1, h9⟩ := h19
    obtain ⟨b, off, rfl, hsl⟩ := HK.out.get h1
    have HSL := Lib.hid (hsl.now hb0)
    have HI := Lib.hid hi
    have hbl : b < w.heap.size := hsl.lt
    clear hsl
    cases ha : allB 1 1000000 ws n with
    | false =>
      have HA := Lib.hid ha
      have HE := Lib.hid (show comOk ws n = false from by unfold comOk; rw [hsp, hi, ha]; rfl)
      clear hsp hi ha
      go_enter Try.func24, Try.ntmps24
      obtain ⟨d0, d1⟩ := hr.cells
      obtain ⟨f0, f1⟩ := frozen_box hr
      go_wp2_with (first
        | (go_at_call 56; refine (l1In_any n 1 9 _).mono ?_; rintro e w1 ⟨rfl, rfl⟩; rw [HI.out])
        | (go_at_call 57; refine (l1All_any b off n cap ws 1 1000000 _ hm HSL.out).mono ?_; rintro e w1 ⟨rfl, rfl⟩; rw [HA.out]))
      refine bodyPost_ret (v := .tuple #[.agg #[.int .i64 0, .slice none 0 0], .bool false]) (by simp [results, Try.results24, go_sem, d0, d1]) rfl ?_
      rw [comQ_no HE.out, comN_no HE.out, HE.out]
      first
        | exact ⟨_, _, rfl, Or.inl ⟨rfl, rfl⟩, hb0⟩
        | exact ⟨_, _, rfl, Or.inl ⟨rfl, rfl⟩, below1 _ _⟩
        | exact ⟨_, _, rfl, Or.inl ⟨rfl, rfl⟩, (hb0.setCell (p := ⟨w.heap.size, 0, none⟩) (Nat.le_refl _) _).setCell (p := ⟨w.heap.size, 1, none⟩) (Nat.le_refl _) _⟩
    | true =>
      have hin : InK 1 1000000 ws n := of_decide_eq_true ha
      have HIN := Lib.hid hin
      have HA := Lib.hid ha
      have hok : comOk ws n = true := by unfold comOk; rw [hsp, hi, ha]; rfl
      have HE := Lib.hid hok
      have HQ := Lib.hid (comQ_yes hok)
      have HINR := Lib.hid (roots_in hin)
      clear hsp hi ha hin hok
      go_enter Try.func24, Try.ntmps24
      go_wp2_with (first
        | (go_at_call 56; refine (l1In_any n 1 9 _).mono ?_; rintro e w1 ⟨rfl, rfl⟩; rw [HI.out])
        | (go_at_call 57; refine (l1All_any b off n cap ws 1 1000000 _ hm HSL.out).mono ?_; rintro e w1 ⟨rfl, rfl⟩; rw [HA.out]))
      have b5 := hb0.alloc (by simp) (.cells #[.int .i64 0, .slice none 0 0] 28)
      have hr5 := hr.alloc (.cells #[.int .i64 0, .slice none 0 0] 28)
      have hn5 := Box.new (w.alloc (.cells #[.int .i64 0, .slice none 0 0] 28)) (.int .i64 0) (.slice none 0 0)
      have hs5 := HSL.out.alloc (.cells #[.int .i64 0, .slice none 0 0] 28)
      have hsz5 : ((w.alloc (.cells #[.int .i64 0, .slice none 0 0] 28)).alloc (.cells #[.int .i64 0, .slice none 0 0] 28)).heap.size = w.heap.size + 2 := by simp
      simp only [World.size_alloc] at hn5
      obtain ⟨w5, hw5⟩ : ∃ w5, w5 = (w.alloc (.cells #[.int .i64 0, .slice none 0 0] 28)).alloc (.cells #[.int .i64 0, .slice none 0 0] 28) := ⟨_, rfl⟩
      rw [← hw5] at b5 hr5 hn5 hs5 hsz5 ⊢
      have HS5 := Lib.hid hs5
      clear hw5 hs5 hr hb0
      obtain ⟨nb, hnbe⟩ : ∃ nb, nb = w.heap.size + 1 := ⟨_, rfl⟩
      rw [← hnbe] at hn5 ⊢
      have hnb : w.heap.size < nb := by omega
      have hnb5 : nb < w5.heap.size := by omega
      clear hnbe
      go_loopw [6, 20] (fun _ i wr => ∃ (j : Nat) (B : Option Addr) (cp : Nat), j ≤ n ∧ i = .int .i64 j ∧ wr.ownsRow w5.heap.size 3 1 (.slice B j cp) j ((perL (rtF ws) j).map (Value.int .i64)) ∧ Box wr nb (.int .i64 0) (.slice B j cp) ∧ (∀ k, k < w5.heap.size → k ≠ nb → wr.heap[k]? = w5.heap[k]?) ∧ w5.heap.size ≤ wr.heap.size ∧ Below w.heap.size w wr) (fun _ i _ => n - (intOf i).toNat)
      case atStart => exact ⟨0, none, 0, Nat.zero_le _, rfl, World.ownsRow_nil _ _ _ _, hn5, fun _ _ _ => rfl, Nat.le_refl _, b5⟩
      case round =>
        obtain ⟨j, B, cp, hj, rfl, hown, hnr, hsm, hszr, hbr⟩ := hrel
        have HO := Lib.hid hown
        have HSM := Lib.hid hsm
        have hrr : BoxT 28 _ w.heap.size (.int .i64 0) (.slice none 0 0) := (hsm _ (by omega) (by omega)).trans hr5
        have hsr : Sl wr b off n ws := HS5.out.of_block (by omega) (hsm b (by omega) (by omega))
        obtain ⟨d0, d1⟩ := hrr.cells
        obtain ⟨e0, e1⟩ := hnr.cells
        obtain ⟨f0, f1⟩ := frozen_box hrr
        obtain ⟨x0, x1⟩ := frozen_box hnr
        clear hown hsm
        by_cases hlt : j < n
        · have hcell := hsr.cell j hlt
          have hinj := HIN.out j hlt
          have HS := Lib.hid (perL_succ (rtF ws) j)
          have HR := Lib.hid (show rtF ws j = rt (ws.getD j 0).toNat from rfl)
          obtain ⟨x, hx⟩ : ∃ x : Nat, ws.getD j 0 = x := ⟨(ws.getD j 0).toNat, by omega⟩
          rw [hx] at hcell hinj HR
          rw [Int.toNat_natCast] at HR
          clear hx hsr
          generalize rtF ws j = r at *
          have hnl := hnr.lt
          go_wp2_with fail
          go_region_law (first
              | (refine step_append_lies _ (by rfl) _ _ _ (by rfl) w5.heap.size 3 i0 _ 1 8 Try.underlying22 hi0 hz0 hz1 hz2 rfl (by omega) (.slice B j cp) j ((perL (rtF ws) j).map (Value.int .i64)) (by rfl) ((World.ownsRow.drew HO.out).alloc _) ⟨wr.heap.size, 0, none⟩ 1 1 [.int .i64 r] (by rfl) (by rfl) (World.news_of_block (cs := #[.int .i64 r]) (t := 3) (fr := (0, 0)) (heap_alloc_new wr.drew _)) (by simp [Value.oneCell']) (by omega) (by unfold maxLen; omega) (by omega) (by simp; omega) (wr.heap.size + 1) (by simp) ?_; intro gg cap4 w7 hown7 hgrow7 hat7 hlt7; have hn7 := ((hnr.drew.alloc (.cells #[.int .i64 r] 3)).grown hgrow7 (owns_ne HO.out (by omega))); obtain ⟨k0, k1⟩ := hn7.cells; obtain ⟨k2, k3⟩ := frozen_box hn7)
              | (go_simp; go_at_call 58; refine (shRoot_any x _ (by omega)).mono ?_; rintro e w9 ⟨rfl, rfl⟩; rw [← HR.out]))
          all_goals
            have hz7 := hgrow7.size
            have hz7' : wr.heap.size + 1 ≤ w7.heap.size := by simpa using hz7
            have b7 : Below w.heap.size w w7 := (hbr.drew.alloc hbr.size (.cells #[.int .i64 r] 3)).grown hgrow7 (by have := hbr.size; simp; omega) fun i hi => by have := owns_le HO.out hi; omega
            have HN7 := Lib.hid (box_set1 hn7 (.slice (some ⟨gg, 0, none⟩) (j + 1) cap4))
            have HO7 := Lib.hid (owns_far2 hown7 (p := ⟨nb, 1, none⟩) hnb5 (.slice (some ⟨gg, 0, none⟩) (j + 1) cap4))
            have HS7 := Lib.hid (show ∀ k, k < w5.heap.size → k ≠ nb → (w7.setCell ⟨nb, 1, none⟩ (.slice (some ⟨gg, 0, none⟩) (j + 1) cap4)).heap[k]? = w5.heap[k]? from fun k k1 k2 =>
              (Below.heap_setCell _ _ _ k k2).trans ((hgrow7.block k (by simp; omega) (owns_ne HO.out k1)).trans ((Below.heap_alloc wr.drew _ k (by show k < wr.heap.size; omega)).trans (HSM.out k k1 k2))))
            have b8 := b7.setCell (p := ⟨nb, 1, none⟩) (by show w.heap.size ≤ nb; omega) (.slice (some ⟨gg, 0, none⟩) (j + 1) cap4)
            clear k0 k1 k2 k3 hn7 hown7 hgrow7
            go_wp2
            go_roundw
            case rel =>
              refine ⟨j + 1, some ⟨gg, 0, none⟩, cap4, by omega, by go_num, ?_, HN7.out, HS7.out, ?_, (by first | exact below_drewN b8 _ | exact b8.drew | exact b8)⟩
              · have h := HO7.out
                rw [HS.out, List.map_append]
                exact h
              · show w5.heap.size ≤ (w7.setCell _ _).heap.size
                simp
                omega
            case measure => simp [intOf]; omega
        · obtain rfl : n = j := by omega
          obtain ⟨g, cp', hv, hg, _, _⟩ := owns_head HO.out (by omega)
          obtain ⟨rfl, rfl⟩ : B = some ⟨g, 0, none⟩ ∧ cp = cp' := by simpa using hv
          have hI : Ints wr g n (rootsL ws n) := Own.of_own HO.out fun i hi => by simp [rootsL, perL, hi]
          have HI2 := Lib.hid hI
          have hgw : nb < g := by omega
          clear hv hI
          go_wp2_with (go_at_call 59; refine (shQuota_any g 0 n cp (rootsL ws n) _ h9 HINR.out (Ints.sl HI2.out)).mono ?_; rintro e w7 ⟨rfl, rfl⟩; rw [← HQ.out])
          obtain ⟨Q, hQ⟩ : ∃ Q, Q = comQ ws n := ⟨_, rfl⟩
          rw [← hQ]
          have hne1 : ¬ w.heap.size = nb := by omega
          have hne2 : ¬ nb = w.heap.size := by omega
          refine bodyPost_ret (v := .tuple #[.agg #[.int .i64 Q, .slice (some ⟨g, 0, none⟩) n cp], .bool true]) (by simp [results, Try.results24, go_sem, d0, d1]) rfl ?_
          rw [hQ, HE.out, comN_yes HE.out]
          refine ⟨_, _, rfl, Or.inr ⟨g, rfl, by omega, ?_⟩, ((hbr.setCell (p := ⟨nb, 0, none⟩) (by show w.heap.size ≤ nb; omega) _).setCell (p := ⟨w.heap.size, 0, none⟩) (Nat.le_refl _) _).setCell (p := ⟨w.heap.size, 1, none⟩) (Nat.le_refl _) _⟩
          exact ((Own.far HI2.out (p := ⟨nb, 0, none⟩) (show g ≠ nb by omega) _).far (p := ⟨w.heap.size, 0, none⟩) (show g ≠ w.heap.size by omega) _).far (p := ⟨w.heap.size, 1, none⟩) (show g ≠ w.heap.size by omega) _
end Go.Proofs.Ytlofjccapglhgab
