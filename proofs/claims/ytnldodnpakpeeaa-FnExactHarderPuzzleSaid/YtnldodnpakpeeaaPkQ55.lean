/- Texts of Yv, Yw, LL2. -/
import Derived.Test.YtnldodnpakpeeaaPkQ53
import Derived.Outline
import Derived.Test.YtnldodnpakpeeaaPkQ44
import Derived.Test.YtnldodnpakpeeaaPkQ01
import Derived.BigQuiet
import Derived.Deep.RegionHeld3
namespace Go.Proofs.Ytnldodnpakpeeaa
open Go.RowKit Vo

/-- What is left when clues are taken out from an index on, each if there is one solution still: d more steps. -/
def hardL (m : Nat) : Nat → List Clu → Nat → List Clu
  | 0, C, _ => C
  | d+1, C, k => if k < C.length then (if (solK m (dropC C k)).length = 1 then hardL m d (dropC C k) k else hardL m d C (k+1)) else C
theorem hardL_end {m : Nat} {C : List Clu} {k : Nat} (h : ¬ k < C.length) : ∀ d, hardL m d C k = C
  | 0 => rfl
  | d+1 => by simp only [hardL]; rw [if_neg h]
theorem hardL_take {m : Nat} {C : List Clu} {k d : Nat} (h : k < C.length) (h1 : (solK m (dropC C k)).length = 1) : hardL m (d+1) C k = hardL m d (dropC C k) k := by
  simp only [hardL]; rw [if_pos h, if_pos h1]
theorem hardL_skip {m : Nat} {C : List Clu} {k d : Nat} (h : k < C.length) (h1 : ¬ (solK m (dropC C k)).length = 1) : hardL m (d+1) C k = hardL m d C (k+1) := by
  simp only [hardL]; rw [if_pos h, if_neg h1]
theorem hardL_len (m : Nat) : ∀ d (C : List Clu) k, (hardL m d C k).length ≤ C.length
  | 0, C, _ => Nat.le_refl _
  | d+1, C, k => by
    simp only [hardL]
    split
    · split
      · exact Nat.le_trans (hardL_len m d _ _) (by rw [dropC_len (by assumption)]; omega)
      · exact hardL_len m d _ _
    · exact Nat.le_refl _
def hardB (m : Int) (C : List Clu) : Bool := puzB m C && decide ((solK m.toNat C).length = 1)
def hardO (m : Int) (C : List Clu) : List Clu := if hardB m C then hardL m.toNat C.length C 0 else []
theorem hardO_small (m : Int) (C : List Clu) : (hardO m C).length ≤ 1048576 := by
  unfold hardO
  cases h : hardB m C with
  | false => simp
  | true =>
    rw [if_pos rfl]
    have hp : puzB m C = true := by unfold hardB at h; simp at h; exact h.1
    have h8 := puzB_le hp
    have := hardL_len m.toNat C.length C 0
    omega

theorem countWithout_at (base m : Nat) (C : List Clu) (h k : Nat) (w : World) (h1 : 1 ≤ m) (h4 : m ≤ 4) (hb : base ≤ w.heap.size) (hp : puzB (m : Int) C = true) (hk : k < C.length) (hr : RdAt base m C h w) :
    Calls Try.prog 60 #[.pointer (some ⟨h, 0, none⟩), .int .i64 k] w fun e w' => e = .returned (.int .i64 ((solK m (dropC C k)).length : Nat)) ∧ RdAt base m C h w' ∧ Below base w w' := by
  obtain ⟨g, cp, hg, hgl, hbg⟩ := hr.g (by omega)
  have hhl : h < w.heap.size := by obtain ⟨_, _, _, v, hx, _⟩ := hg; exact hx.lt
  have hbh := hg.1
  refine (countWithout_any base m C h g cp k w h1 h4 hb hp hk hgl hhl hg).mono ?_
  rintro e w' ⟨rfl, hr', hk'⟩
  exact ⟨rfl, hr'.at, hk'.below hb hbg hbh⟩
theorem takeOut_at (base m : Nat) (C : List Clu) (h k : Nat) (w : World) (hb : base ≤ w.heap.size) (h8 : C.length ≤ 8) (hk : k < C.length) (hr : RdAt base m C h w) :
    Calls Try.prog 53 #[.pointer (some ⟨h, 0, none⟩), .int .i64 k] w fun e w' => (∃ v, e = .returned v) ∧ RdAt base m (dropC C k) h w' ∧ Below base w w' := by
  obtain ⟨g, cp, hg, hgl, hbg⟩ := hr.g (by omega)
  have hbh := hg.1
  refine (takeOut_rd base m C h g cp k w hk h8 hg).mono ?_
  rintro e w' ⟨rfl, _, hr', hk'⟩
  exact ⟨⟨_, rfl⟩, hr'.at, hk'.below hb hbg hbh⟩
/-- How long the slice is that a box has in its second cell. -/
def lenAt (w : World) (h : Nat) : Nat := match w.cell? ⟨h, 1, none⟩ with | some (.slice _ n _) => n | _ => 0
theorem RdAt.len {base m : Nat} {C : List Clu} {h : Nat} {w : World} (k : RdAt base m C h w) : lenAt w h = C.length := by
  obtain ⟨_, A, n, cp, v, hn, hx, _⟩ := k
  unfold lenAt
  rw [hx.cells.2.1]
  exact hn.symm
theorem lenAt_set {w : World} {h : Nat} {p : Addr} (hp : h ≠ p.block) (v : Value) : lenAt (w.setCell p v) h = lenAt w h := by
  unfold lenAt
  rw [World.cell?_of_block (Below.heap_setCell w p v h hp)]

set_option maxRecDepth 20000 in
set_option maxHeartbeats 8000000 in
theorem iHarderPuzzle_any (m : Int) (A : Option Addr) (n cap : Nat) (C : List Clu) (w : World) (hl : n ≤ 1048576) (hk : KCl w A n C) :
    Calls Try.prog 23 #[.agg #[.int .i64 m, .slice A n cap]] w fun e w' => AnsP (if hardB m C then m else 0) (hardO m C) (hardB m C) w w' e := by
  obtain ⟨P, hP⟩ : ∃ P : World → Ending → Prop, P = fun w' e => AnsP (if hardB m C then m else 0) (hardO m C) (hardB m C) w w' e := ⟨_, rfl⟩
  suffices h : Calls Try.prog 23 #[.agg #[.int .i64 m, .slice A n cap]] w fun e w' => P w' e by rw [hP] at h; exact h
  have HNO := Lib.hid (show hardB m C = false → ∀ w' e, AnsP 0 [] false w w' e → P w' e from fun h w' e k => by rw [hP]; unfold hardO; rw [h]; exact k)
  have HYES := Lib.hid (show hardB m C = true → ∀ w' e, AnsP m (hardL m.toNat C.length C 0) true w w' e → P w' e from fun h w' e k => by rw [hP]; unfold hardO; rw [h]; exact k)
  clear hP
  have b0 : Below w.heap.size w ((w.alloc (.cells #[.int .i64 m, .slice A n cap] 28)).alloc (.cells #[.int .i64 0, .slice none 0 0] 28)) := (below1 w _).alloc (by simp) _
  have hx := (BoxT.new 28 w (.int .i64 m) (.slice A n cap)).alloc (.cells #[.int .i64 0, .slice none 0 0] 28)
  have hr := BoxT.new 28 (w.alloc (.cells #[.int .i64 m, .slice A n cap] 28)) (.int .i64 0) (.slice none 0 0)
  simp only [World.size_alloc] at hr
  obtain ⟨c0, c1⟩ := hx.cells
  have HR := Lib.hid (readRiddle_any m A n cap C _ hl (hk.now b0))
  have hcl := hk.1
  have hb0z : w.heap.size + 2 ≤ ((w.alloc (.cells #[.int .i64 m, .slice A n cap] 28)).alloc (.cells #[.int .i64 0, .slice none 0 0] 28)).heap.size := by simp
  have hr1w : w.heap.size + 1 < ((w.alloc (.cells #[.int .i64 m, .slice A n cap] 28)).alloc (.cells #[.int .i64 0, .slice none 0 0] 28)).heap.size := by omega
  clear hk hx
  have NO := Lib.hid (fun (W : World) (hb : Below ((w.alloc (.cells #[.int .i64 m, .slice A n cap] 28)).alloc (.cells #[.int .i64 0, .slice none 0 0] 28)).heap.size ((w.alloc (.cells #[.int .i64 m, .slice A n cap] 28)).alloc (.cells #[.int .i64 0, .slice none 0 0] 28)) W) (hd : hardB m C = false) => HNO.out hd _ _ (ansP_no (((bfrom b0 hb).setCell (p := ⟨w.heap.size + 1, 0, none⟩) (by simp) (.int .i64 0)).setCell (p := ⟨w.heap.size + 1, 1, none⟩) (by simp) (.slice none 0 0))))
  cases hp : puzB m C with
  | false =>
    rw [hp] at HR
    have HF := Lib.hid (show hardB m C = false from by unfold hardB; rw [hp]; rfl)
    clear hp
    go_enter Try.func23, Try.ntmps23
    go_wp2_with fail
    refine HR.out.mono ?_
    rintro e w1 ⟨h, hb1⟩
    obtain rfl : e = .returned (.tuple #[.pointer none, .bool false]) := by
      rcases h with ⟨_, h⟩ | ⟨h, _⟩
      · exact h
      · simp at h
    have ND := Lib.hid (NO.out w1 hb1 HF.out)
    have hr1 := hr.now hb1
    obtain ⟨r0, r1⟩ := hr1.cells
    obtain ⟨t0, t1⟩ := box_soft2 hr1
    clear h c0 c1 hr
    go_wp2
    refine bodyPost_ret (v := .tuple #[.agg #[.int .i64 0, .slice none 0 0], .bool false]) (by simp [results, Try.results23, go_sem, r0, r1]) rfl ND.out
  | true =>
    rw [hp] at HR
    have HPP := Lib.hid hp
    have h8 := puzB_le hp
    clear hp
    go_enter Try.func23, Try.ntmps23
    go_wp2_with fail
    refine HR.out.mono ?_
    rintro e w1 ⟨h, hb1⟩
    obtain ⟨q, h', rfl, hq1, hq4, rfl, hrd⟩ : ∃ (q h' : Nat), m = q ∧ 1 ≤ q ∧ q ≤ 4 ∧ e = .returned (.tuple #[.pointer (some ⟨h', 0, none⟩), .bool true]) ∧ RdAt _ q C h' w1 := by
      rcases h with ⟨h, _⟩ | ⟨_, h⟩
      · simp at h
      · exact h
    have hr1 := hr.now hb1
    have hz1 := hb1.size
    have HSV := Lib.hid (isSolved_any _ q C h' w1 hq1 hq4 hb1.size HPP.out hrd)
    have HRD := Lib.hid hrd
    have B1 := Lib.hid hb1
    have HB := Lib.hid (show hardB (q : Int) C = decide ((solK q C).length = 1) from by unfold hardB; rw [HPP.out, Int.toNat_natCast]; rfl)
    rw [Int.toNat_natCast] at HYES
    clear h c0 c1 hrd hr
    obtain ⟨r0, r1⟩ := hr1.cells
    obtain ⟨t0, t1⟩ := box_soft2 hr1
    cases hs : decide ((solK q C).length = 1) with
    | false =>
      rw [hs] at HSV HB
      clear hs
      go_wp2_with (first
        | (go_at_call 62; refine HSV.out.mono ?_; rintro e w2 ⟨rfl, hb2⟩; have ND := Lib.hid (NO.out w2 (bfrom B1.out hb2) HB.out); have hr2 := hr1.now hb2; obtain ⟨r20, r21⟩ := hr2.cells; obtain ⟨t20, t21⟩ := box_soft2 hr2)
        | fail)
      refine bodyPost_ret (v := .tuple #[.agg #[.int .i64 0, .slice none 0 0], .bool false]) (by simp [results, Try.results23, go_sem, r20, r21]) rfl ND.out
    | true =>
      rw [hs] at HSV HB
      have HY := Lib.hid (HYES.out HB.out)
      clear hs HYES NO HNO
      have HCW := Lib.hid (fun W D k (hz : w1.heap.size ≤ W.heap.size) (hpD : puzB (q : Int) D = true) (hkD : k < D.length) (hrD : RdAt _ q D h' W) => countWithout_at _ q D h' k W hq1 hq4 (Nat.le_trans hz1 hz) hpD hkD hrD)
      have HTO := Lib.hid (fun W D k (hz : w1.heap.size ≤ W.heap.size) (hpD : puzB (q : Int) D = true) (hkD : k < D.length) (hrD : RdAt _ q D h' W) => takeOut_at _ q D h' k W (Nat.le_trans hz1 hz) (puzB_le hpD) hkD hrD)
      have HR1 := Lib.hid hr1
      clear r0 r1 t0 t1 hr1
      go_wp2_with (first
        | (go_at_call 62; refine HSV.out.mono ?_; rintro e w2 ⟨rfl, hb2⟩)
        | fail)
      have hzw2 := hb2.size
      go_loopw [6] (fun i wr => ∃ (D : List Clu) (k d : Nat), k ≤ D.length ∧ i = .int .i64 k ∧ RdAt ((w.alloc (.cells #[.int .i64 (q : Nat), .slice A n cap] 28)).alloc (.cells #[.int .i64 0, .slice none 0 0] 28)).heap.size q D h' wr ∧ Below ((w.alloc (.cells #[.int .i64 (q : Nat), .slice A n cap] 28)).alloc (.cells #[.int .i64 0, .slice none 0 0] 28)).heap.size w1 wr ∧ puzB (q : Int) D = true ∧ D.length ≤ k + d ∧ hardL q d D k = hardL q C.length C 0) (fun i wr => lenAt wr h' - (intOf i).toNat)
      case atStart => exact ⟨C, 0, C.length, Nat.zero_le _, rfl, HRD.out.now hb2, hb2.mono hz1, HPP.out, by omega, rfl⟩
      case round =>
        obtain ⟨D, k, d, hkD, rfl, hrd, hbr, hpD, hld, hhd⟩ := hrel
        have HRR := Lib.hid hrd
        have HBR := Lib.hid hbr
        have HPD := Lib.hid hpD
        have HHD := Lib.hid hhd
        have HLN := Lib.hid hrd.len
        have HD8 := Lib.hid (puzB_le hpD)
        have hszr := hbr.size
        obtain ⟨_, A3, n3, cp3, v3, hn3, hx3, hc3, _⟩ := hrd
        have HN3 := Lib.hid hn3
        have HC3 := Lib.hid hc3
        have hx3' := hx3.cells
        obtain ⟨x0, x1, x2⟩ := hx3'
        have hn38 : n3 ≤ 8 := by have := HD8.out; omega
        have hkn : k ≤ n3 := by omega
        clear hbr hpD hhd hn3 hc3 hx3
        by_cases hlt : k < n3
        · have HCR := Lib.hid (HCW.out wr D k hszr HPD.out (by have := HN3.out; omega) HRR.out)
          obtain ⟨N1, hN1⟩ : ∃ N1, N1 = (solK q (dropC D k)).length := ⟨_, rfl⟩
          rw [← hN1] at HCR
          have HNN := Lib.hid hN1
          clear hN1
          by_cases he : N1 = 1
          · subst he
            go_wp2_with (first
              | (go_at_call 60; refine HCR.out.mono ?_; rintro e w3 ⟨rfl, hr3, hb3⟩; have HR3 := Lib.hid hr3; have HB3 := Lib.hid hb3; have hz3 := hb3.size; clear hr3 hb3)
              | (go_at_call 53; refine (HTO.out _ D k (by omega) HPD.out (by have := HN3.out; omega) HR3.out).mono ?_; rintro e w4 ⟨⟨v4, rfl⟩, hr4, hb4⟩; have HR4 := Lib.hid hr4; have HB4 := Lib.hid hb4; clear hr4 hb4)
              | fail)
            go_roundw
            case rel =>
              have hkl : k < D.length := by have := HN3.out; omega
              have hdl := dropC_len hkl
              obtain ⟨d', rfl⟩ : ∃ d', d = d' + 1 := ⟨d - 1, by omega⟩
              refine ⟨dropC D k, k, d', by omega, rfl, HR4.out, HBR.out.trans (HB3.out.trans HB4.out), puzB_drop HPD.out hkl, by omega, ?_⟩
              rw [← HHD.out, hardL_take hkl HNN.out.symm]
            case measure =>
              have hkl : k < D.length := by have := HN3.out; omega
              have hdl := dropC_len hkl
              rw [HLN.out, HR4.out.len]
              simp [intOf]; omega
          · have hne : ((N1 : Int) == 1) = false := beq_false_of_ne (by omega)
            go_wp2_with (first
              | (go_at_call 60; refine HCR.out.mono ?_; rintro e w3 ⟨rfl, hr3, hb3⟩; have HR3 := Lib.hid hr3; have HB3 := Lib.hid hb3; have hz3 := hb3.size; clear hr3 hb3)
              | fail)
            go_roundw
            case rel =>
              have hkl : k < D.length := by have := HN3.out; omega
              obtain ⟨d', rfl⟩ : ∃ d', d = d' + 1 := ⟨d - 1, by omega⟩
              refine ⟨D, k + 1, d', by omega, by go_num, HR3.out, HBR.out.trans HB3.out, HPD.out, by omega, ?_⟩
              rw [← HHD.out, hardL_skip hkl (by rw [← HNN.out]; exact he)]
            case measure =>
              have hkl : k < D.length := by have := HN3.out; omega
              rw [HLN.out, HR3.out.len]
              simp [intOf]; omega
        · have HE := Lib.hid (show hardL q C.length C 0 = D from by rw [← HHD.out]; exact hardL_end (by have := HN3.out; omega) d)
          have hr9 := HR1.out.of_below HBR.out hr1w
          obtain ⟨r0, r1⟩ := hr9.cells
          obtain ⟨t0, t1⟩ := box_soft2 hr9
          have HB9 := Lib.hid (b0.trans ((B1.out.trans (HBR.out.mono (Nat.le_refl _))).mono (by omega)))
          obtain rfl : k = n3 := by omega
          go_wp2
          rw [HE.out] at HY
          refine bodyPost_ret (v := .tuple #[.agg #[.int .i64 (q : Nat), .slice A3 k cp3], .bool true]) (by simp [results, Try.results23, go_sem, r0, r1]) rfl (HY.out _ _ (ansP_yes HN3.out.symm.symm (owns_less (owns_put (owns_put HC3.out (by simp) _) (by simp) _) (by omega)) ((HB9.out.setCell (p := ⟨w.heap.size + 1, 0, none⟩) (by simp) _).setCell (p := ⟨w.heap.size + 1, 1, none⟩) (by simp) _)))
end Go.Proofs.Ytnldodnpakpeeaa

namespace Go.Proofs.Ytnldodnpakpeeaa
open Go.RowKit Vo

section
variable {P : Program} (w : World)
theorem wpList_append_newN {ops : Array Oper} {rest : List Oper} {o : Oper} {a : Act} {Q : Exit → Act → World → Prop} (hgd : o.guard = none) (s x : Operand) (t : TypeId)
    (ho : o.op = .call { callee := .builtin .append, args := #[s, x], argTypes := #[t, t] })
    (base : Nat) (e : TypeId) (i : TypeInfo) (z : Value) (size bytes : Nat) (ht : P.underlying t = some (.slice e)) (hi : P.info? e = some i) (hz : i.zero = some z)
    (hsize : i.size = size) (hby : i.bytes = bytes) (hzs : z.cells.size = size) (hsz : 0 < size)
    (v : Value) (hs : a.eval s = v) (hown : w.ownsRow base e size v 0 [])
    (ad : Addr) (m c : Nat) (news : List Value) (hx : a.eval x = .slice (some ad) m c) (hl : news.length = m * size) (hnews : ∀ j u, news[j]? = some u → w.cell? (ad.add j) = some u) (h1 : ∀ u ∈ news, u.oneCell' = true)
    (h63 : m ≤ maxLen) (hbytes : m * bytes ≤ 140737488355328) (hbase : base ≤ w.heap.size)
    (h : ∀ B cp w', w'.ownsRow base e size (.slice B m cp) m news → w.grownBy w' v.ownBlock → wpList P ops Q rest (a.put o.dst (.slice B m cp)) w') :
    wpList P ops Q (o :: rest) a w :=
  wpList_plain hgd fun K hK => wp_append_atN w s x t ho base e i z size bytes ht hi hz hsize hby hzs hsz v 0 [] hs hown ad m c news hx hl hnews h1 (by omega) (by rw [Nat.zero_add]; exact hbytes) hbase
    (by simp only [Nat.zero_add, List.nil_append]; exact fun B cp w' h2 h3 _ => hK _ _ (h B cp w' h2 h3))
end
def lenV (v : Value) : Nat := match v with | .slice _ n _ => n | _ => 0

set_option maxRecDepth 20000 in
set_option maxHeartbeats 8000000 in
theorem sHarderPuzzle_any (m : Int) (b0 : Nat) (n cap : Nat) (C : List Clu) (w : World) (hl : n ≤ 1048576) (_hcap : n ≤ cap) (hk : KCl w (some ⟨b0, 0, none⟩) n C) :
    Calls Try.prog 22 #[.agg #[.int .i64 m, .slice (some ⟨b0, 0, none⟩) n cap]] w fun e w' => AnsP (if hardB m C then m else 0) (hardO m C) (hardB m C) w w' e := by
  obtain ⟨P, hP⟩ : ∃ P : World → Ending → Prop, P = fun w' e => AnsP (if hardB m C then m else 0) (hardO m C) (hardB m C) w w' e := ⟨_, rfl⟩
  suffices h : Calls Try.prog 22 #[.agg #[.int .i64 m, .slice (some ⟨b0, 0, none⟩) n cap]] w fun e w' => P w' e by rw [hP] at h; exact h
  have HNO := Lib.hid (show hardB m C = false → ∀ w' e, AnsP 0 [] false w w' e → P w' e from fun h w' e k => by rw [hP]; unfold hardO; rw [h]; exact k)
  have HYES := Lib.hid (show hardB m C = true → ∀ w' e, AnsP m (hardL m.toNat C.length C 0) true w w' e → P w' e from fun h w' e k => by rw [hP]; unfold hardO; rw [h]; exact k)
  clear hP
  obtain ⟨i0, hi0, hz0, hz1, hz2⟩ := info_parts infoClue
  have hb0 : Below w.heap.size w ((w.alloc (.cells #[.int .i64 m, .slice (some ⟨b0, 0, none⟩) n cap] 28)).alloc (.cells #[.int .i64 0, .slice none 0 0] 28)) := (below1 w _).alloc (by simp) _
  have hx := (BoxT.new 28 w (.int .i64 m) (.slice (some ⟨b0, 0, none⟩) n cap)).alloc (.cells #[.int .i64 0, .slice none 0 0] 28)
  have hr := BoxT.new 28 (w.alloc (.cells #[.int .i64 m, .slice (some ⟨b0, 0, none⟩) n cap] 28)) (.int .i64 0) (.slice none 0 0)
  simp only [World.size_alloc] at hr
  obtain ⟨c0, c1⟩ := hx.cells
  have HP := Lib.hid (pzGood_any m _ n cap C _ (by omega) (hk.now hb0))
  have HK := Lib.hid (hk.now hb0)
  have hcl := hk.1
  have NO := Lib.hid (fun (W : World) (hb : Below ((w.alloc (.cells #[.int .i64 m, .slice (some ⟨b0, 0, none⟩) n cap] 28)).alloc (.cells #[.int .i64 0, .slice none 0 0] 28)).heap.size ((w.alloc (.cells #[.int .i64 m, .slice (some ⟨b0, 0, none⟩) n cap] 28)).alloc (.cells #[.int .i64 0, .slice none 0 0] 28)) W) (hd : hardB m C = false) => HNO.out hd _ _ (ansP_no (((bfrom hb0 hb).setCell (p := ⟨w.heap.size + 1, 0, none⟩) (by simp) (.int .i64 0)).setCell (p := ⟨w.heap.size + 1, 1, none⟩) (by simp) (.slice none 0 0))))
  clear hk
  cases hp : puzB m C with
  | false =>
    have HF := Lib.hid (show hardB m C = false from by unfold hardB; rw [hp]; rfl)
    rw [hp] at HP
    clear hp hcl
    go_enter Try.func22, Try.ntmps22
    go_wp2_with fail
    refine HP.out.mono ?_
    rintro e w1 ⟨rfl, hb1⟩
    have ND := Lib.hid (NO.out w1 hb1 HF.out)
    have hr1 := hr.now hb1
    obtain ⟨r0, r1⟩ := hr1.cells
    obtain ⟨t0, t1⟩ := box_soft2 hr1
    go_wp2
    refine bodyPost_ret (v := .tuple #[.agg #[.int .i64 0, .slice none 0 0], .bool false]) (by simp [results, Try.results22, go_sem, r0, r1]) rfl ND.out
  | true =>
    obtain ⟨q, rfl, h1, h4, hask⟩ := puzB_nat hp
    have HPP := Lib.hid hp
    have hn8 : n ≤ 8 := by have := puzB_le hp; omega
    rw [hp] at HP
    have HB := Lib.hid (show hardB (q : Int) C = decide ((solK q C).length = 1) from by unfold hardB; rw [hp, Int.toNat_natCast]; rfl)
    have HSV := Lib.hid (fun W L A cp D (hpD : puzB (q : Int) D = true) (hL : D.length = L) (hK : KCl W A L D) => pzSolved_any q L cp A D W h1 h4 (by have := puzB_le hpD; omega) hK (puzB_asks hpD h1 h4))
    rw [Int.toNat_natCast] at HYES
    clear hp hask
    go_enter Try.func22, Try.ntmps22
    go_wp2_with fail
    refine HP.out.mono ?_
    rintro e w1 ⟨rfl, hb1⟩
    have HK1 := Lib.hid (HK.out.now hb1)
    have HS1 := Lib.hid (HSV.out w1 n _ cap C HPP.out hcl HK1.out)
    have hr1 := hr.now hb1
    have hx1 := hx.now hb1
    have B1 := Lib.hid hb1
    clear c0 c1 hx hr
    obtain ⟨c0, c1⟩ := hx1.cells
    cases hs : decide ((solK q C).length = 1) with
    | false =>
      rw [hs] at HS1 HB
      clear hs
      go_wp2_with (first
        | (go_at_call 61; refine HS1.out.mono ?_; rintro e w2 ⟨rfl, hb2⟩; have ND := Lib.hid (NO.out w2 (bfrom B1.out hb2) HB.out); have hr2 := hr1.now hb2; obtain ⟨r20, r21⟩ := hr2.cells; obtain ⟨t20, t21⟩ := box_soft2 hr2)
        | fail)
      refine bodyPost_ret (v := .tuple #[.agg #[.int .i64 0, .slice none 0 0], .bool false]) (by simp [results, Try.results22, go_sem, r20, r21]) rfl ND.out
    | true =>
      rw [hs] at HS1 HB
      have HY := Lib.hid (HYES.out HB.out)
      clear hs HYES NO HNO
      go_wp2_with (first
        | (go_at_call 61; refine HS1.out.mono ?_; rintro e w2 ⟨rfl, hb2⟩; have hxa := (hx1.now hb2).alloc (.cells #[] 130); obtain ⟨k0, k1⟩ := hxa.cells; have HKA := Lib.hid ((HK1.out.now hb2).now (below1 w2 (.cells #[] 130))); have hAa := heap_alloc_new w2 (.cells #[] 130))
        | (at_builtin; refine wpList_append_newN _ rfl _ _ 26 rfl w2.heap.size 130 i0 (.agg #[.int .i64 0, .int .i64 0, .int .i64 0]) 3 24 Try.underlying26 hi0 hz0 hz1 hz2 rfl (by omega) (.slice (some ⟨w2.heap.size, 0, none⟩) 0 0) rfl (own_empty (Nat.le_refl _) hAa) ⟨b0, 0, none⟩ n cap (cluesV C) rfl (by rw [cluesV_len, hcl]; omega) (clu_news HKA.out) (cluesV_one C) (by unfold maxLen; omega) (by omega) (by simp) ?_; intro B3 cp3 w3 hown3 hgrow3)
        | fail)
      have b23 : Below w2.heap.size w2 w3 := (below1 w2 (.cells #[] 130)).grown hgrow3 (by simp) (fun j hj => by have : w2.heap.size = j := (by simpa [Value.ownBlock] using hj); omega)
      have G3 := Lib.hid (bfrom (bfrom hb0 (bfrom B1.out hb2)) b23)
      have X3 := Lib.hid ((hx1.now hb2).now b23)
      have R3 := Lib.hid ((hr1.now hb2).now b23)
      have hz23 := b23.size
      have hzw2 := (bfrom hb0 (bfrom B1.out hb2)).size
      have HO3 := Lib.hid (show OwnCl w3 w2.heap.size (.slice B3 C.length cp3) C from by unfold OwnCl; rw [hcl]; exact hown3)
      have hrl : w.heap.size + 1 < w3.heap.size := R3.out.lt
      have hrl2 : w.heap.size + 1 < w2.heap.size := (hr1.now hb2).lt
      have HCL := Lib.hid hcl
      rw [← hcl]
      clear k0 k1 hxa hAa c0 c1 hx1 hr1 hown3 hgrow3 b23 hb2 HS1 hcl
      go_loopw [4, 5, 6] (fun cl i _ wr => ∃ (D : List Clu) (k d : Nat) (B : Option Addr) (cp L : Nat), k ≤ L ∧ i = .int .i64 k ∧ cl = .slice B L cp ∧ D.length = L ∧ OwnCl wr w2.heap.size (.slice B L cp) D ∧ Below w3.heap.size w3 wr ∧ puzB (q : Int) D = true ∧ L ≤ k + d ∧ hardL q d D k = hardL q C.length C 0) (fun cl i _ _ => lenV cl - (intOf i).toNat)
      case atStart => exact ⟨C, 0, C.length, B3, cp3, C.length, Nat.zero_le _, rfl, rfl, rfl, HO3.out, Below.refl _ _, HPP.out, by omega, rfl⟩
      case round =>
        obtain ⟨D, k, d, B, cp, L, hkD, rfl, rfl, hDL, hod, hbr, hpD, hld, hhd⟩ := hrel
        have HOD := Lib.hid hod
        have HBR := Lib.hid hbr
        have HPD := Lib.hid hpD
        have HHD := Lib.hid hhd
        have HDL := Lib.hid hDL
        have hD8 : L ≤ 8 := by have := puzB_le hpD; omega
        have hszr := hbr.size
        have hxr := X3.out.now hbr
        clear hod hbr hpD hhd hDL
        by_cases hlt : k < L
        · have hodx := HOD.out
          unfold OwnCl at hodx
          rw [HDL.out] at hodx
          obtain ⟨gb, cb, hv, hgb, hLc, hcm⟩ := owns_headS hodx (by omega)
          obtain ⟨rfl, rfl⟩ : B = some ⟨gb, 0, none⟩ ∧ cp = cb := by simpa using hv
          have HW := Lib.hid (pzWithout_any gb L cp k D wr (by omega) hlt hLc (by unfold maxLen at hcm; omega) (OwnCl.kcl HDL.out HOD.out))
          have hkl : k < D.length := by have := HDL.out; omega
          have HDD := Lib.hid (show (dropC D k).length = L - 1 from by rw [dropC_len hkl, HDL.out])
          have HSD := Lib.hid (fun W A cpA (hK : KCl W A (L - 1) (dropC D k)) => HSV.out W (L - 1) A cpA (dropC D k) (puzB_drop HPD.out hkl) HDD.out hK)
          have HTK := Lib.hid (fun d' h => hardL_take (m := q) (C := D) (k := k) (d := d') hkl h)
          have HSK := Lib.hid (fun d' h => hardL_skip (m := q) (C := D) (k := k) (d := d') hkl h)
          have hzz : w2.heap.size ≤ wr.heap.size := by omega
          have HPX := Lib.hid (puzB_drop HPD.out hkl)
          have KX := Lib.hid (show ∀ W, Below wr.heap.size wr W → W.cell? ⟨w.heap.size, 0, none⟩ = some (.int .i64 (q : Nat)) from fun W hW => (hxr.now hW).cells.1)
          clear hodx hv hkl hxr
          cases hs : decide ((solK q (dropC D k)).length = 1) with
          | true =>
            have HE := Lib.hid (of_decide_eq_true hs)
            rw [hs] at HSD
            clear hs
            go_wp2_with (first
              | (go_at_call 50; refine HW.out.mono ?_; rintro e w4 ⟨B7, cp7, rfl, hown7, hb4⟩; have HO7 := Lib.hid hown7; have HB4 := Lib.hid hb4; have k0 := KX.out _ hb4; clear hown7 hb4)
              | (go_at_call 61; refine (HSD.out _ B7 cp7 (OwnCl.kcl HDD.out HO7.out)).mono ?_; rintro e w5 ⟨rfl, hb5⟩; have HB5 := Lib.hid hb5; clear hb5)
              | fail)
            go_roundw
            case rel =>
              obtain ⟨d', rfl⟩ : ∃ d', d = d' + 1 := ⟨d - 1, by omega⟩
              refine ⟨dropC D k, k, d', B7, cp7, L - 1, by omega, rfl, rfl, HDD.out, owns_now (owns_base2 HO7.out hzz) HB5.out, bfrom HBR.out (bfrom HB4.out HB5.out), HPX.out, by omega, ?_⟩
              rw [← HHD.out, HTK.out d' HE.out]
            case measure => simp [intOf, lenV]; omega
          | false =>
            have HE := Lib.hid (of_decide_eq_false hs)
            rw [hs] at HSD
            clear hs
            go_wp2_with (first
              | (go_at_call 50; refine HW.out.mono ?_; rintro e w4 ⟨B7, cp7, rfl, hown7, hb4⟩; have HO7 := Lib.hid hown7; have HB4 := Lib.hid hb4; have k0 := KX.out _ hb4; clear hown7 hb4)
              | (go_at_call 61; refine (HSD.out _ B7 cp7 (OwnCl.kcl HDD.out HO7.out)).mono ?_; rintro e w5 ⟨rfl, hb5⟩; have HB5 := Lib.hid hb5; clear hb5)
              | fail)
            go_roundw
            case rel =>
              obtain ⟨d', rfl⟩ : ∃ d', d = d' + 1 := ⟨d - 1, by omega⟩
              refine ⟨D, k + 1, d', some ⟨gb, 0, none⟩, cp, L, by omega, by go_num, rfl, HDL.out, owns_now (owns_now HOD.out HB4.out) HB5.out, bfrom HBR.out (bfrom HB4.out HB5.out), HPD.out, by omega, ?_⟩
              rw [← HHD.out, HSK.out d' HE.out]
            case measure => simp [intOf, lenV]; omega
        · have HE := Lib.hid (show hardL q C.length C 0 = D from by rw [← HHD.out]; exact hardL_end (by have := HDL.out; omega) d)
          have hr9 := R3.out.now HBR.out
          obtain ⟨r0, r1⟩ := hr9.cells
          obtain ⟨t0, t1⟩ := box_soft2 hr9
          obtain ⟨x0, x1⟩ := hxr.cells
          have HB9 := Lib.hid (bfrom G3.out HBR.out)
          obtain rfl : k = L := by omega
          rw [HE.out] at HY
          go_wp2
          refine bodyPost_ret (v := .tuple #[.agg #[.int .i64 (q : Nat), .slice B k cp], .bool true]) (by simp [results, Try.results22, go_sem, r0, r1]) rfl (HY.out _ _ (ansP_yes HDL.out (owns_less (owns_put (owns_put HOD.out (by simp; omega) _) (by simp; omega) _) (by omega)) ((HB9.out.setCell (p := ⟨w.heap.size + 1, 0, none⟩) (by simp) _).setCell (p := ⟨w.heap.size + 1, 1, none⟩) (by simp) _)))
theorem iHarderPuzzle_p (m : Int) (A : Option Addr) (n cap : Nat) (C : List Clu) (w : World) (hl : n ≤ 1048576) (_hc : n ≤ cap) (hk : KCl w A n C) :
    Calls Try.prog 23 #[.agg #[.int .i64 m, .slice A n cap]] w fun e w' => AnsP (if hardB m C then m else 0) (hardO m C) (hardB m C) w w' e :=
  iHarderPuzzle_any m A n cap C w hl hk
end Go.Proofs.Ytnldodnpakpeeaa

namespace Go.Proofs.Ytnldodnpakpeeaa
open Go.RowKit Vo

set_option maxRecDepth 20000 in
set_option maxHeartbeats 6000000 in
theorem lawHarderPuzzle (m : Int) (A : Option Addr) (n cap : Nat) (L : List Clu) (w : World) (hm : n ≤ 9223372036854775807) (hk : KCl w A n L) :
    Calls Try.prog 5 #[.agg #[.int .i64 m, .slice A n cap]] w fun e w' => e = .returned (.bool true) ∧ Below w.heap.size w w' := by
  have HK := Lib.hid hk
  have HLEN := Lib.hid hk.1
  clear hk
  have hx0 := BoxT.new 24 w (.int .i64 m) (.slice A n cap)
  have hb0 := below1 w (.cells #[.int .i64 m, .slice A n cap] 24)
  have HSZ := Lib.hid (fun W => szPuzzle_any (.int .i64 m) A n cap W hm)
  have HTO := Lib.hid (fun W hn h => toPuzzle_any m A n cap L W hn h)
  obtain ⟨M, hM⟩ : ∃ M, M = hardO m L := ⟨_, rfl⟩
  have HLM := Lib.hid (show M.length ≤ 1048576 from by rw [hM]; exact hardO_small m L)
  have HM := Lib.hid hM
  clear hM
  obtain ⟨N, hN⟩ : ∃ N : Nat, N = 3 * M.length := ⟨_, rfl⟩
  have hNm : N ≤ 3145728 := by have := HLM.out; omega
  have HN := Lib.hid hN
  clear hN
  obtain ⟨ln, hln⟩ : ∃ z : Nat, z = M.length := ⟨_, rfl⟩
  have hlnm : ln ≤ 1048576 := by have := HLM.out; omega
  have HLN := Lib.hid hln
  clear hln
  obtain ⟨mm, hmm⟩ : ∃ z : Int, z = if hardB m L then m else 0 := ⟨_, rfl⟩
  have HMM := Lib.hid hmm
  clear hmm
  obtain ⟨ok, hok⟩ : ∃ ok, ok = hardB m L := ⟨_, rfl⟩
  have HOKB := Lib.hid hok
  clear hok
  go_enter Try.func5, Try.ntmps5
  go_wp2_with fail
  refine (HSZ.out _).mono ?_
  rintro e w1 ⟨h, hb1⟩
  rcases h with rfl | ⟨hl, rfl⟩
  · go_wp2
    go_ret
    exact ⟨rfl, bfrom hb0 hb1⟩
  have hge : ¬ 1048576 - (n : Int) < 0 := by omega
  have HLL := Lib.hid (show L.length ≤ 1048576 from by rw [HLEN.out]; exact hl)
  have g1 := bfrom hb0 hb1
  have hx1 := hx0.now hb1
  have hz1 : w.heap.size + 1 ≤ w1.heap.size := by have := hb1.size; simpa using this
  obtain ⟨c0, c1⟩ := hx1.cells
  go_wp2_with fail
  refine (HTO.out _ hl (HK.out.now g1)).mono ?_
  rintro e w2 ⟨rfl, hl2, hb2⟩
  have g2 := bfrom g1 hb2
  have hx2 := hx1.now hb2
  have hz2 := hb2.size
  have HL2 := Lib.hid (show KCl w2 (some ⟨w1.heap.size + 3, 0, none⟩) n L from (Lies.here hl2).kcl)
  clear hl2 c0 c1
  obtain ⟨c0, c1⟩ := hx2.cells
  go_wp2_with fail
  refine (sHarderPuzzle_any m _ n n L _ hl (Nat.le_refl _) HL2.out).mono ?_
  rintro e w3 ⟨A3, cp3, rfl, hl3, hb3⟩
  rw [← HM.out, ← HLN.out] at hl3 ⊢
  rw [← HMM.out, ← HOKB.out]
  have b3 := below1 w3 (.cells #[.int .i64 mm, .slice A3 ln cp3] 28)
  have HH3 := Lib.hid (hl3.now b3)
  have hw3 := BoxT.new 28 w3 (.int .i64 mm) (.slice A3 ln cp3)
  have g3 := bfrom (bfrom g2 hb3) b3
  have hx3 := (hx2.now hb3).now b3
  have hz3 := hb3.size
  clear hl3 c0 c1
  obtain ⟨c0, c1⟩ := hx3.cells
  go_wp2_with fail
  refine (HTO.out _ hl (HK.out.now g3)).mono ?_
  rintro e w4 ⟨rfl, hl4, hb4⟩
  simp only [World.size_alloc] at hl4
  have hz4 := hl4.hi_le
  have hz4' := hb4.size
  simp only [World.size_alloc] at hz4'
  have b4 := below1 w4 (.cells #[.int .i64 m, .slice (some ⟨w3.heap.size + 1 + 3, 0, none⟩) n n] 28)
  have g4 := bfrom (bfrom g3 hb4) b4
  have hx4 := (hx3.now hb4).now b4
  have hw4 := (hw3.now hb4).now b4
  have HH34 := Lib.hid ((HH3.out.now hb4).now b4)
  have hy4 := BoxT.new 28 w4 (.int .i64 m) (.slice (some ⟨w3.heap.size + 1 + 3, 0, none⟩) n n)
  have HI4 := Lib.hid (hl4.now b4)
  have HL4 := Lib.hid (show KCl _ (some ⟨w3.heap.size + 1 + 3, 0, none⟩) n L from ((Lies.here hl4).kcl).now b4)
  clear hl4 c0 c1
  go_wp2_with fail
  refine (iHarderPuzzle_p m _ n n L _ hl (Nat.le_refl _) HL4.out).mono ?_
  rintro e w5 ⟨A5, cp5, rfl, hl5, hb5⟩
  rw [← HM.out, ← HLN.out] at hl5 ⊢
  rw [← HMM.out, ← HOKB.out]
  have hz5 := hb5.size
  simp only [World.size_alloc] at hl5 hz5
  have b5 := below1 w5 (.cells #[.int .i64 mm, .slice A5 ln cp5] 28)
  have b45 := bfrom hb5 b5
  have HH5 := Lib.hid (hl5.now b5)
  have hv5 := BoxT.new 28 w5 (.int .i64 mm) (.slice A5 ln cp5)
  have hw5 := hw4.now b45
  have g5 := bfrom g4 b45
  have hx5 := hx4.now b45
  have hy5 := hy4.now b45
  have HI5 := Lib.hid (HI4.out.now b45)
  have HH35 := Lib.hid (HH34.out.now b45)
  clear hl5 hx0 hb0 hb1 g1 hx1 hb2 g2 hx2 hb3 HH3 g3 hx3 hb4 b4 g4 hx4 hy4 HH34 hb5 b45 HL2 HL4 HI4 b3 hw3 hw4 b5
  obtain ⟨d0, d1⟩ := hw5.cells
  obtain ⟨v0, v1⟩ := hv5.cells
  go_wp2_with fail
  refine (eqPuzzle_v mm A5 A3 ln cp5 cp3 _ HLM.out HH5.out HH35.out).mono ?_
  rintro e w6 ⟨rfl, hb6⟩
  have g6 := bfrom g5 hb6
  have hx6 := hx5.now hb6
  have hy6 := hy5.now hb6
  have HI6 := Lib.hid (HI5.out.now hb6)
  have HH36 := Lib.hid (HH35.out.now hb6)
  have HH56 := Lib.hid (HH5.out.now hb6)
  have hw6 := hw5.now hb6
  have hv6 := hv5.now hb6
  have hz6 := hb6.size
  simp only [World.size_alloc] at hz6
  clear g5 hx5 hy5 HI5 HH35 HH5 hb6 hw5 hv5 d0 d1 v0 v1
  obtain ⟨c0, c1⟩ := hx6.cells
  obtain ⟨d0, d1⟩ := hy6.cells
  go_wp2_with fail
  go_region_held3 (fun w' => w'.cell? ⟨w.heap.size, 0, none⟩ = some (.int .i64 m) ∧ w'.cell? ⟨w.heap.size, 1, none⟩ = some (.slice A n cap) ∧ w'.cell? ⟨w4.heap.size, 0, none⟩ = some (.int .i64 m) ∧ w'.cell? ⟨w4.heap.size, 1, none⟩ = some (.slice (some ⟨w3.heap.size + 1 + 3, 0, none⟩) n n))
    (first | exact ⟨c0, c1, d0, d1⟩ | exact ⟨c80, c81, d80, d81⟩ | exact ⟨c90, c91, d90, d91⟩ | go_keep)
    (first
      | (go_at_call 12; refine (HTO.out _ hl (HK.out.now g6.drew)).mono ?_; rintro e w7 ⟨rfl, hl7, hb7⟩; have HL7 := Lib.hid hl7; clear hl7; obtain ⟨c80, c81⟩ := (hx6.drew.now hb7).cells; obtain ⟨d80, d81⟩ := (hy6.drew.now hb7).cells)
      | (go_at_call 14; refine (eqPuzzle_v m _ _ n n n _ HLL.out (HI6.out.drew.now hb7) HL7.out).mono ?_; rintro e w8 ⟨rfl, hb8⟩; obtain ⟨c90, c91⟩ := ((hx6.drew.now hb7).now hb8).cells; obtain ⟨d90, d91⟩ := ((hy6.drew.now hb7).now hb8).cells))
  have b68 := bfrom hb7 hb8
  have g8 := bfrom g6.drew b68
  have hx8 := hx6.drew.now b68
  have hy8 := hy6.drew.now b68
  have HI8 := Lib.hid (HI6.out.drew.now b68)
  have HH38 := Lib.hid (HH36.out.drew.now b68)
  have HH58 := Lib.hid (HH56.out.drew.now b68)
  have hw8 := hw6.drew.now b68
  have hv8 := hv6.drew.now b68
  have hz8 : w6.heap.size ≤ w8.heap.size := b68.size
  clear c0 c1 d0 d1 c80 c81 d80 d81 c90 c91 d90 d91 hx6 hy6 HI6 HH36 HH56 hb7 hb8 b68 g6 HL7 hw6 hv6
  obtain ⟨d0, d1⟩ := hy8.cells
  go_wp2_with fail
  refine (markPuzzle_v m _ n n _ HLL.out HI8.out).mono ?_
  rw [HLEN.out]
  rintro e w9 ⟨rfl, t9, _⟩
  have hk0 : ¬ (1 + ((3 * n : Nat) : Int)) < 0 := by omega
  have g9 := Turn.below g8 t9 (by omega) (by omega)
  have hx9 := hx8.turn t9 (by omega)
  have hw9 := hw8.turn t9 (by omega)
  have hv9 := hv8.turn t9 (by omega)
  have HH59 := Lib.hid (HH58.out.turn t9 (by omega))
  have HH39 := Lib.hid (HH38.out.turn t9 (by omega))
  have hz9 := t9.size
  clear t9 hx8 hy8 HI8 HH38 HH58 g8 d0 d1 hw8 hv8
  obtain ⟨d0, d1⟩ := hw9.cells
  obtain ⟨v0, v1⟩ := hv9.cells
  go_wp2_with fail
  refine (eqPuzzle_v mm A5 A3 ln cp5 cp3 _ HLM.out HH59.out HH39.out).mono ?_
  rintro e w10 ⟨rfl, hb10⟩
  have g10 := bfrom g9 hb10
  have hx10 := hx9.now hb10
  have hw10 := hw9.now hb10
  have hv10 := hv9.now hb10
  have HH510 := Lib.hid (HH59.out.now hb10)
  have HH310 := Lib.hid (HH39.out.now hb10)
  have hz10 := hb10.size
  clear hx9 HH59 HH39 hb10 g9 hw9 hv9 d0 d1 v0 v1
  obtain ⟨v0, v1⟩ := hv10.cells
  go_wp2_with fail
  refine (markPuzzle_v mm A5 ln cp5 _ HLM.out HH510.out).mono ?_
  rw [← HN.out]
  rintro e w11 ⟨rfl, t11, hmk⟩
  have hh11 := HH510.out.hi_le
  have hz11 := t11.size
  have HMK := Lib.hid (hmk.lies (by omega))
  have g11 := Turn.below g10 t11 (by omega) (by omega)
  have hx11 := hx10.turn t11 (by omega)
  have hw11 := hw10.turn t11 (by omega)
  have hv11 := hv10.turn t11 (by omega)
  have HH311 := Lib.hid (HH310.out.turn t11 (by omega))
  clear hmk t11 hx10 HH510 HH310 g10 hh11 hw10 hv10 v0 v1
  obtain ⟨v0, v1⟩ := hv11.cells
  go_wp2_with fail
  refine (heldPuzzle_v mm A5 ln cp5 _ HLM.out HMK.out).mono ?_
  rw [← HN.out]
  rintro e w12 ⟨rfl, hb12⟩
  have g12 := bfrom g11 hb12
  have hx12 := hx11.now hb12
  have hw12 := hw11.now hb12
  have hv12 := hv11.now hb12
  have HH312 := Lib.hid (HH311.out.now hb12)
  have HMK12 := Lib.hid (HMK.out.now hb12)
  clear g11 hx11 HH311 HMK hb12 hw11 hv11 v0 v1
  obtain ⟨c0, c1⟩ := hx12.cells
  go_wp2_with fail
  refine (HTO.out _ hl (HK.out.now g12)).mono ?_
  rintro e w13 ⟨rfl, hl13, hb13⟩
  have HL13 := Lib.hid (show KCl w13 (some ⟨w12.heap.size + 3, 0, none⟩) n L from (Lies.here hl13).kcl)
  clear hl13 c0 c1
  go_wp2_with fail
  refine (iHarderPuzzle_p m _ n n L _ hl (Nat.le_refl _) HL13.out).mono ?_
  rintro e w14 ⟨A14, cp14, rfl, hl14, hb14⟩
  rw [← HM.out, ← HLN.out] at hl14 ⊢
  rw [← HMM.out, ← HOKB.out]
  have b14 := below1 w14 (.cells #[.int .i64 mm, .slice A14 ln cp14] 28)
  have b124 := bfrom (bfrom hb13 hb14) b14
  have HH14 := Lib.hid (hl14.now b14)
  have hw14 := hw12.now b124
  have hv14 := hv12.now b124
  have hu14 := BoxT.new 28 w14 (.int .i64 mm) (.slice A14 ln cp14)
  have g14 := bfrom g12 b124
  have HH314 := Lib.hid (HH312.out.now b124)
  have HMK14 := Lib.hid (HMK12.out.now b124)
  clear hl14 hb13 hb14 b124 g12 hx12 HH312 HMK12 HL13 b14 hw12 hv12
  obtain ⟨d0, d1⟩ := hw14.cells
  obtain ⟨u0, u1⟩ := hu14.cells
  go_wp2_with fail
  refine (eqPuzzle_v mm A14 A3 ln cp14 cp3 _ HLM.out HH14.out HH314.out).mono ?_
  rintro e w15 ⟨rfl, hb15⟩
  have g15 := bfrom g14 hb15
  have HMK15 := Lib.hid (HMK14.out.now hb15)
  have hv15 := hv14.now hb15
  clear d0 d1 u0 u1
  obtain ⟨v0, v1⟩ := hv15.cells
  go_wp2_with fail
  refine (heldPuzzle_v mm A5 ln cp5 _ HLM.out HMK15.out).mono ?_
  rw [← HN.out]
  rintro e w16 ⟨rfl, hb16⟩
  go_wp2
  go_ret
  exact ⟨rfl, bfrom g15 hb16⟩

end Go.Proofs.Ytnldodnpakpeeaa
