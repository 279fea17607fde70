/- Lists read as sets in order, the model's deLists. -/
import Derived.Test.YtpcijgdpinmcmaaFa
import Derived.Test.YtpcijgdpinmcmaaI6
import Derived.Test.YtpcijgdpinmcmaaT1
import Derived.Deep.AppendLies
import Derived.Laws.OwnMore
import Derived.OneCell
import Derived.Outline
namespace Go.Proofs.Ytpcijgdpinmcmaa
open Go.RowKit Vo

set_option maxHeartbeats 1000000 in
theorem voSet_kz (n : Nat) (A : Option Addr) (m cap : Nat) (xs : List Int) (w : World) (hn : n < 10) (hm : m ≤ 9223372036854775807) (hk : Known w A m xs) :
    Calls Try.prog 63 #[.int .i64 n, .slice A m cap] w fun e w' => e = .returned (.bool (riseB n xs m)) ∧ w = w' := by
  by_cases hz : m = 0
  · subst hz
    have H2 := Lib.hid (riseB_yes (n := n) (xs := xs) (m := 0) RiseK.zero)
    go_enter Try.func63, Try.ntmps63
    go_wp2
    refine wp_loop_rounds 1 ?_
    rw [rounds_succ]
    go_wp2
    go_ret
    exact ⟨by rw [H2.out]; try rfl, rfl⟩
  · obtain ⟨b, off, rfl, hsl⟩ := hk.get (by omega)
    exact voSet_any n b off m cap xs w hn hm hsl
set_option maxHeartbeats 1000000 in
theorem voBits_kz (n : Nat) (A : Option Addr) (m cap : Nat) (xs : List Int) (w : World) (hn : n < 10) (hm : m ≤ 9223372036854775807) (hr : RiseK n xs m) (hk : Known w A m xs) :
    Calls Try.prog 64 #[.slice A m cap] w fun e w' => e = .returned (.int .i64 (ofK xs m : Nat)) ∧ w = w' := by
  by_cases hz : m = 0
  · subst hz
    have H2 := Lib.hid (show ofK xs 0 = 0 from rfl)
    go_enter Try.func64, Try.ntmps64
    go_wp2
    refine wp_loop_rounds 1 ?_
    rw [rounds_succ]
    go_wp2
    go_ret
    exact ⟨by rw [H2.out]; try rfl, rfl⟩
  · obtain ⟨b, off, rfl, hsl⟩ := hk.get (by omega)
    exact voBits_any n b off m cap xs w hn hm hr hsl

/-- Lists that are sets, in order. -/
def deB (n : Nat) (L : List (List Int)) : Bool := riseRows n L && sortS (setsN L)
def setV (S : List Nat) : List Value := S.map fun s => Value.int .i64 (s : Nat)
theorem setsN_len (L : List (List Int)) : (setsN L).length = L.length := by unfold setsN; simp
theorem setsN_getD (L : List (List Int)) (j : Nat) (h : j < L.length) : (setsN L).getD j 0 = ofK (L.getD j []) (L.getD j []).length := by
  unfold setsN
  simp [List.getD_eq_getElem?_getD, h]
theorem take_more (S : List Nat) (i : Nat) (h : i < S.length) : S.take (i+1) = S.take i ++ [S.getD i 0] := by
  rw [List.take_add_one, List.getElem?_eq_getElem h, List.getD_eq_getElem?_getD, List.getElem?_eq_getElem h]; rfl
theorem riseRows_all {n : Nat} {L : List (List Int)} (h : ∀ j, j < L.length → riseB n (L.getD j []) (L.getD j []).length = true) : riseRows n L = true := by
  unfold riseRows
  rw [List.all_eq_true]
  intro l hl
  obtain ⟨i, hi, rfl⟩ := List.getElem_of_mem hl
  have := h i hi
  rw [List.getD_eq_getElem?_getD, List.getElem?_eq_getElem hi] at this
  exact this
theorem riseB_get {n : Nat} {xs : List Int} {m : Nat} (h : riseB n xs m = true) : RiseK n xs m := by
  by_cases hr : RiseK n xs m
  · exact hr
  · rw [riseB_no hr] at h; cases h
theorem deB_rise {n : Nat} {L : List (List Int)} {i : Nat} (hi : i < L.length) (h : riseB n (L.getD i []) (L.getD i []).length = false) : deB n L = false := by
  unfold deB; rw [riseRows_false hi h]; rfl
theorem deB_before {n : Nat} {L : List (List Int)} (hn : n ≤ 9) {j : Nat} (hj : j + 1 < L.length) (h : before (L.getD (j+1) []) (L.getD j []) = true) : deB n L = false := by
  unfold deB
  cases hr : riseRows n L with
  | false => rfl
  | true =>
    have h1 := rise_mem hn (riseRows_row hr _ (show L.getD (j+1) [] ∈ L from by rw [List.getD_eq_getElem?_getD, List.getElem?_eq_getElem hj]; exact List.getElem_mem hj))
    have h2 := rise_mem hn (riseRows_row hr _ (show L.getD j [] ∈ L from by rw [List.getD_eq_getElem?_getD, List.getElem?_eq_getElem (show j < L.length by omega)]; exact List.getElem_mem _))
    rw [sortS_no (S := setsN L) (j := j) (by rw [setsN_len]; exact hj) (by rw [setsN_getD _ _ hj, setsN_getD _ _ (show j < L.length by omega), h1, h2]; exact h)]
    rfl
theorem deB_yes {n : Nat} {L : List (List Int)} (hn : n ≤ 9) (h1 : ∀ t, t < L.length → riseB n (L.getD t []) (L.getD t []).length = true) (h2 : ∀ j, j + 1 < L.length → before (L.getD (j+1) []) (L.getD j []) = false) : deB n L = true := by
  have hr := riseRows_all h1
  have hm : ∀ j, j < L.length → mem ((setsN L).getD j 0) 9 = L.getD j [] := fun j hj => by
    rw [setsN_getD _ _ hj]
    exact rise_mem hn (riseRows_row hr _ (by rw [List.getD_eq_getElem?_getD, List.getElem?_eq_getElem hj]; exact List.getElem_mem hj))
  unfold deB
  rw [hr, sortS_iff.2 (fun j hj => by rw [setsN_len] at hj; rw [hm _ hj, hm _ (by omega)]; exact h2 j hj)]
  rfl
def DeAt (n : Nat) (L : List (List Int)) (w w' : World) (e : Ending) : Prop :=
  Below w.heap.size w w' ∧ ((deB n L = true ∧ ∃ B cp, e = .returned (.tuple #[.slice B L.length cp, .bool true]) ∧ w'.ownsRow w.heap.size 3 1 (.slice B L.length cp) L.length (setV (setsN L))) ∨ (deB n L = false ∧ e = .returned (.tuple #[.slice none 0 0, .bool false])))

set_option maxRecDepth 20000 in
set_option maxHeartbeats 4000000 in
theorem deLists_any (n ln cap : Nat) (A : Option Addr) (L : List (List Int)) (w : World) (hn : n ≤ 9) (hl : ln ≤ 3) (hk : ListsR w A ln L) :
    Calls Try.prog 43 #[.int .i64 n, .slice A ln cap] w fun e w' => DeAt n L w w' e := by
  obtain ⟨m0, hm0, hmz0, hmz1, hmz2⟩ := infoIntParts
  have hn10 : n < 10 := by omega
  have HLEN := Lib.hid hk.1
  have HRW := Lib.hid (fun W (hb : Below w.heap.size w W) => (hk.now hb).2)
  have HF := Lib.hid (fun i (hi : i < ln) h => deB_rise (n := n) (L := L) (i := i) (by rw [hk.1]; exact hi) h)
  have HG := Lib.hid (fun j (hj : j + 1 < ln) h => deB_before (n := n) (L := L) hn (j := j) (by rw [hk.1]; exact hj) h)
  have HY := Lib.hid (fun (h1 : ∀ t, t < ln → riseB n (L.getD t []) (L.getD t []).length = true) (h2 : ∀ j, j + 1 < ln → before (L.getD (j+1) []) (L.getD j []) = false) => deB_yes (n := n) (L := L) hn (by rw [hk.1]; exact h1) (by rw [hk.1]; exact h2))
  have HTK := Lib.hid (show ∀ i, i < ln → setV ((setsN L).take (i+1)) = setV ((setsN L).take i) ++ [.int .i64 (ofK (L.getD i []) (L.getD i []).length : Nat)] from fun i hi => by
    rw [take_more _ _ (by rw [setsN_len, hk.1]; exact hi), setsN_getD _ _ (by rw [hk.1]; exact hi)]
    unfold setV
    simp)
  have HTA := Lib.hid (show (setsN L).take ln = setsN L from List.take_of_length_le (by rw [setsN_len, hk.1]; exact Nat.le_refl _))
  clear hk
  go_enter Try.func43, Try.ntmps43
  go_wp2
  go_loopw [6, 7, 8, 11] (fun v _ _ x wr => ∃ (i : Nat) (B : Option Addr) (cpb : Nat), i ≤ ln ∧ x = .int .i64 i ∧ v = .slice B i cpb ∧ wr.ownsRow w.heap.size 3 1 (.slice B i cpb) i (setV ((setsN L).take i)) ∧ (∀ t, t < i → riseB n (L.getD t []) (L.getD t []).length = true) ∧ (∀ j, j + 1 < i → before (L.getD (j+1) []) (L.getD j []) = false) ∧ Below w.heap.size w wr) (fun _ _ _ x _ => ln - (intOf x).toNat)
  case atStart => exact ⟨0, none, 0, Nat.zero_le _, rfl, rfl, World.ownsRow_nil _ _ _ _, fun _ h => by omega, fun _ h => by omega, Below.refl _ _⟩
  case round =>
    obtain ⟨i, B, cpb, hi, rfl, rfl, hown, hri, hbf, hb⟩ := hrel
    have HX := Lib.hid hown
    have HRI := Lib.hid hri
    have HBF := Lib.hid hbf
    clear hown hri hbf
    by_cases hlt : i < ln
    · obtain ⟨g, v, rfl, hg, hc, hm, hrow⟩ := HRW.out wr hb i hlt
      obtain ⟨A', cp', rfl, hkn⟩ := hrow.known
      have HROW := Lib.hid hrow
      have HKN := Lib.hid hkn
      have HFI := Lib.hid (HF.out i hlt)
      have HTI := Lib.hid (HTK.out i hlt)
      clear hrow hkn
      have HRN := Lib.hid (show riseB n (L.getD i []) (L.getD i []).length = true → ∀ t, t < i + 1 → riseB n (L.getD t []) (L.getD t []).length = true from fun h t ht => by
        by_cases e : t = i
        · subst e; exact h
        · exact HRI.out t (by omega))
      obtain ⟨XI, hXI⟩ : ∃ z, z = setV ((setsN L).take i) := ⟨_, rfl⟩
      rw [← hXI] at HX HTI
      clear hXI
      have HVS := Lib.hid (voSet_kz n A' (L.getD i []).length cp' (L.getD i []) wr hn10 (by omega) HKN.out)
      have HVBW := Lib.hid (fun (hr : riseB n (L.getD i []) (L.getD i []).length = true) W (hb' : Below wr.heap.size wr W) => voBits_kz n A' (L.getD i []).length cp' (L.getD i []) W hn10 (by omega) (riseB_get hr) (HKN.out.now hb'))
      have hm6 := hm
      cases hrb : riseB n (L.getD i []) (L.getD i []).length with
      | false =>
        have HN := Lib.hid (HFI.out hrb)
        rw [hrb] at HVS
        clear hrb HFI HRN HVBW HTI
        generalize (L.getD i []).length = m at *
        go_wp2_with (first | (go_at_call 63; refine HVS.out.mono ?_; rintro e w2 ⟨rfl, rfl⟩) | fail)
        go_ret2
        exact ⟨hb, Or.inr ⟨HN.out, rfl⟩⟩
      | true =>
        have HRN1 := Lib.hid (HRN.out hrb)
        have HVBW := Lib.hid (HVBW.out hrb)
        rw [hrb] at HVS
        clear hrb HFI HRN
        obtain ⟨o, ho⟩ : ∃ o, o = ofK (L.getD i []) (L.getD i []).length := ⟨_, rfl⟩
        rw [← ho] at HTI
        simp only [← ho] at HVBW
        clear ho
        rcases Nat.eq_zero_or_pos i with rfl | hip
        · have HVB := Lib.hid (HVBW.out wr (Below.refl _ _))
          have HXS := Lib.hid HX.out
          have hbd := hb
          have hzd := hbd.size
          generalize (L.getD 0 []).length = m at *
          go_wp2_with (first | (go_at_call 63; refine HVS.out.mono ?_; rintro e w2 ⟨rfl, rfl⟩) | (go_at_call 64; refine HVB.out.mono ?_; rintro e w4 ⟨rfl, rfl⟩) | (at_builtin; refine wpList_append_lies _ rfl _ _ _ rfl w.heap.size 3 m0 _ 1 8 Try.underlying55 hm0 hmz0 hmz1 hmz2 rfl (by decide) (.slice B 0 cpb) 0 XI rfl (HXS.out.alloc _) ⟨wr.heap.size, 0, none⟩ 1 1 [.int .i64 (o : Nat)] rfl rfl (World.news_of_block (cs := #[.int .i64 (o : Nat)]) (t := 3) (fr := (0, 0)) (heap_alloc_new wr _)) (by simp [Value.oneCell']) (by omega) (by unfold maxLen; omega) (by omega) (by simp; omega) (wr.heap.size + 1) (by simp) ?_; intro g5 cap5 w5 hown5 hgrow5 hat5 hlt5; have b5 : Below w.heap.size w w5 := (hbd.alloc hzd (.cells #[.int .i64 (o : Nat)] 3)).grown hgrow5 (by simp; omega) fun i hi => owns_le HXS.out hi) | fail)
          go_roundw
          case rel => exact ⟨0 + 1, some ⟨g5, 0, none⟩, cap5, by omega, by go_num, rfl, by rw [HTI.out]; exact hown5, HRN1.out, fun _ h => by omega, b5⟩
          case measure => simp [intOf]; omega
        · obtain ⟨p, hp⟩ : ∃ p, i = p + 1 := ⟨i - 1, by omega⟩
          obtain ⟨g', v2, hA2, hg2, hc2, hm2, hrow2⟩ := HRW.out wr hb p (by omega)
          obtain rfl : g = g' := by simpa using hA2
          obtain ⟨A2, cp2, rfl, _⟩ := hrow2.known
          have HVF := Lib.hid (voBefore_any _ _ (L.getD i []) (L.getD p []) wr hm hm2 HROW.out hrow2)
          have HGI := Lib.hid (show before (L.getD i []) (L.getD p []) = true → deB n L = false from by rw [hp]; exact HG.out p (by omega))
          have HBN := Lib.hid (show before (L.getD i []) (L.getD p []) = false → ∀ j, j + 1 < i + 1 → before (L.getD (j+1) []) (L.getD j []) = false from fun h j hj => by
            by_cases e : j = p
            · subst e; rw [← hp]; exact h
            · exact HBF.out j (by omega))
          have hsub : (i : Int) - 1 = (p : Int) := by omega
          have hpos : (0 : Int) < (i : Int) := by omega
          have hwr : IntKind.i64.wrap (p : Int) = (p : Int) := IntWalk.i64_in _ (by omega)
          have hpn : (p : Int) < ln := by omega
          clear hp hrow2 hA2 hg2
          cases hbe : before (L.getD i []) (L.getD p []) with
          | true =>
            have HN := Lib.hid (HGI.out hbe)
            rw [hbe] at HVF
            clear hbe HGI HBN HBF HRI HTI
            generalize (L.getD i []).length = m at *
            generalize (L.getD p []).length = m2 at *
            go_wp2_with (first | (go_at_call 63; refine HVS.out.mono ?_; rintro e w2 ⟨rfl, rfl⟩) | (go_at_call 73; refine HVF.out.mono ?_; rintro e w3 ⟨rfl, hb3⟩; have HVB := Lib.hid (HVBW.out w3 hb3); have HXS := Lib.hid (owns_now HX.out hb3); have hbd := bfrom hb hb3; have hzd := hbd.size) | fail)
            go_ret2
            exact ⟨hbd, Or.inr ⟨HN.out, rfl⟩⟩
          | false =>
            have HBNN := Lib.hid (HBN.out hbe)
            rw [hbe] at HVF
            clear hbe HGI HBN
            obtain ⟨m, hmm⟩ : ∃ z, z = (L.getD i []).length := ⟨_, rfl⟩
            obtain ⟨m2, hmm2⟩ : ∃ z, z = (L.getD p []).length := ⟨_, rfl⟩
            rw [← hmm] at hc HVS HVF
            rw [← hmm2] at hc2 HVF
            simp only [← hmm] at HVBW
            clear hmm hmm2 hm hm2 hm6
            go_wp2_with (first | (go_at_call 63; refine HVS.out.mono ?_; rintro e w2 ⟨rfl, rfl⟩) | (go_at_call 73; refine HVF.out.mono ?_; rintro e w3 ⟨rfl, hb3⟩; have HVB := Lib.hid (HVBW.out w3 hb3); have HXS := Lib.hid (owns_now HX.out hb3); have hbd := bfrom hb hb3; have hzd := hbd.size) | (go_at_call 64; refine HVB.out.mono ?_; rintro e w4 ⟨rfl, rfl⟩) | (at_builtin; refine wpList_append_lies _ rfl _ _ _ rfl w.heap.size 3 m0 _ 1 8 Try.underlying55 hm0 hmz0 hmz1 hmz2 rfl (by decide) (.slice B i cpb) i XI rfl (HXS.out.alloc _) ⟨w3.heap.size, 0, none⟩ 1 1 [.int .i64 (o : Nat)] rfl rfl (World.news_of_block (cs := #[.int .i64 (o : Nat)]) (t := 3) (fr := (0, 0)) (heap_alloc_new w3 _)) (by simp [Value.oneCell']) (by omega) (by unfold maxLen; omega) (by omega) (by simp; omega) (w3.heap.size + 1) (by simp) ?_; intro g5 cap5 w5 hown5 hgrow5 hat5 hlt5; have b5 : Below w.heap.size w w5 := (hbd.alloc hzd (.cells #[.int .i64 (o : Nat)] 3)).grown hgrow5 (by simp; omega) fun i hi => owns_le HXS.out hi) | fail)
            go_roundw
            case rel => exact ⟨i + 1, some ⟨g5, 0, none⟩, cap5, by omega, by go_num, rfl, by rw [HTI.out]; exact hown5, HRN1.out, HBNN.out, b5⟩
            case measure => simp [intOf]; omega
    · obtain rfl : i = ln := by omega
      have HN := Lib.hid (HY.out HRI.out HBF.out)
      go_wp2
      go_ret2
      have h := HX.out
      rw [HTA.out] at h
      refine ⟨hb, Or.inl ⟨HN.out, B, cpb, by rw [HLEN.out]; rfl, by rw [HLEN.out]; exact h⟩⟩
end Go.Proofs.Ytpcijgdpinmcmaa
