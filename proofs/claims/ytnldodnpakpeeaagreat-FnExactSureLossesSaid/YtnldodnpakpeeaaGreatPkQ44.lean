/- Texts of Ym, Yn. -/
import Derived.Test.YtnldodnpakpeeaaGreatPkQ40
import Derived.Test.YtnldodnpakpeeaaGreatPkQ42
import Derived.Test.YtnldodnpakpeeaaGreatPkQ21
import Derived.Test.YtnldodnpakpeeaaGreatPkQ43
import Derived.Outline
namespace Go.Proofs.YtnldodnpakpeeaaGreat
open Go.RowKit Vo

/-- A question about games of m members, wherever they lie. -/
structure AsksG (p : List Nat → Bool) (k : Nat) (first cap : Array Value) (m : Nat) (w : World) : Prop where
  enters : ∀ args W, (callFunc k args).run Tryz.prog W = .ok (.enter k args) W
  gives : ∀ (W : World) (base : Nat) (L : List Nat) (A : Option Addr) (n cp : Nat), Below w.heap.size w W → n = L.length → n ≤ 16 → (∀ t ∈ L, t < 512) → W.ownsRow base 69 1 (.slice A n cp) n (setsV L) → Calls Tryz.prog k (first.push (.agg #[.int .i64 m, .slice A n cp]) ++ cap) W fun e W' => e = .returned (.bool (p L)) ∧ Below W.heap.size W W'
/-- A question about a game of m members and a set. -/
structure KindS (q : List Nat → Nat → Bool) (k m : Nat) : Prop where
  enters : ∀ args W, (callFunc k args).run Tryz.prog W = .ok (.enter k args) W
  gives : ∀ (W : World) (base : Nat) (L : List Nat) (A : Option Addr) (n cp s : Nat), n = L.length → n ≤ 16 → (∀ t ∈ L, t < 512) → s < 512 → W.ownsRow base 69 1 (.slice A n cp) n (setsV L) → Calls Tryz.prog k #[.agg #[.int .i64 m, .slice A n cp], .int .u64 s] W fun e W' => e = .returned (.bool (q L s)) ∧ Below W.heap.size W W'

theorem any_no {p : List Nat → Bool} {Ls : List (List Nat)} (h : ∀ j, j < Ls.length → p (Ls.getD j []) = false) : Ls.any p = false := by
  rw [List.any_eq_false]
  intro x hx
  obtain ⟨i, hi, rfl⟩ := List.getElem_of_mem hx
  have := h i hi
  rw [List.getD_eq_getElem?_getD, List.getElem?_eq_getElem hi] at this
  simpa using this
theorem any_yes {p : List Nat → Bool} {Ls : List (List Nat)} {j : Nat} (hj : j < Ls.length) (h : p (Ls.getD j []) = true) : Ls.any p = true := by
  rw [List.any_eq_true]
  refine ⟨_, ?_, h⟩
  rw [List.getD_eq_getElem?_getD, List.getElem?_eq_getElem hj]
  exact List.getElem_mem hj

set_option maxRecDepth 20000 in
set_option maxHeartbeats 4000000 in
theorem indexG_any (p : List Nat → Bool) (k : Nat) (first cap2 : Array Value) (m base : Nat) (Ls : List (List Nat)) (B : Option Addr) (N cp : Nat) (w : World) (hN : N = Ls.length) (hN9 : N ≤ 1000) (hget : ∀ i, i < N → (Ls.getD i []).length ≤ 16 ∧ ∀ s ∈ Ls.getD i [], s < 512) (hG : GSb base m Ls (.slice B N cp) w) (ha : AsksG p k first cap2 m w) :
    Calls Tryz.prog 45 #[.slice B N cp, .func (.func k) first cap2] w fun e w' => ((∃ j : Nat, e = .returned (.int .i64 j) ∧ Ls.any p = true) ∨ (e = .returned (.int .i64 (-1)) ∧ Ls.any p = false)) ∧ Below w.heap.size w w' := by
  obtain ⟨xs, G, C, hown, hgs⟩ := hG
  rw [← hN] at hown hgs
  have HO := Lib.hid hown
  have HGS := Lib.hid hgs
  have HGET := Lib.hid hget
  have HA := Lib.hid ha
  have eg := ha.enters
  have hnn := hown.1
  have HYES := Lib.hid (show ∀ j, j < N → p (Ls.getD j []) = true → Ls.any p = true from fun j hj h => any_yes (by omega) h)
  have HNO := Lib.hid (show (∀ j, j < N → p (Ls.getD j []) = false) → Ls.any p = false from fun h => any_no (by rw [← hN]; exact h))
  clear hgs hget ha hN
  go_enter Tryz.func45, Tryz.ntmps45
  go_wp2_with fail
  go_loopw [5, 8] (fun _ i wr => ∃ j : Nat, j ≤ N ∧ i = .int .i64 j ∧ (∀ t, t < j → p (Ls.getD t []) = false) ∧ Below w.heap.size w wr) (fun _ i _ => N - (intOf i).toNat)
  case atStart => exact ⟨0, Nat.zero_le _, rfl, fun _ h => by omega, Below.refl _ _⟩
  case round =>
    obtain ⟨j, hj, rfl, hno, hbr⟩ := hrel
    have HB := Lib.hid hbr
    have HS := Lib.hid hno
    clear hbr hno
    by_cases hlt : j < N
    · obtain ⟨g, cp', hv, hg, hc1, hc2⟩ := owns_headS hown (by omega)
      obtain ⟨rfl, rfl⟩ : B = some ⟨g, 0, none⟩ ∧ cp = cp' := by simpa using hv
      obtain ⟨x0, x1, _, ho⟩ := HGS.out j hlt
      obtain ⟨h16, h512⟩ := HGET.out j hlt
      have hlo := owns_now HO.out HB.out
      have hc0 : wr.cell? ⟨g, j * 2, none⟩ = some (.int .i64 m) := by rw [hlo.cellAt (j*2) (by omega)]; exact x0
      have hc1' : wr.cell? ⟨g, j * 2 + 1, none⟩ = some (.slice (some ⟨G j, 0, none⟩) (Ls.getD j []).length (C j)) := by rw [hlo.cellAt (j*2+1) (by omega)]; exact x1
      have HYJ := Lib.hid (HYES.out j hlt)
      have HSJ := Lib.hid (show p (Ls.getD j []) = false → ∀ t, t < j + 1 → p (Ls.getD t []) = false from fun h t ht => by
        by_cases e : t = j
        · subst e; exact h
        · exact HS.out t (by omega))
      obtain ⟨S, hS⟩ : ∃ S, S = Ls.getD j [] := ⟨_, rfl⟩
      rw [← hS] at hc1' ho h16 h512 HYJ
      have HSE := Lib.hid hS
      obtain ⟨kk, hkk⟩ : ∃ kk, kk = S.length := ⟨_, rfl⟩
      rw [← hkk] at hc1' ho h16
      have HF := Lib.hid (show Calls Tryz.prog k (first.push (.agg #[.int .i64 m, .slice (some ⟨G j, 0, none⟩) kk (C j)]) ++ cap2) wr fun e W' => e = .returned (.bool (p S)) ∧ Below wr.heap.size wr W' from HA.out.gives wr _ S _ kk _ HB.out hkk h16 h512 (owns_now ho HB.out))
      clear x0 x1 ho hlo hv hS hkk h512
      cases hps : p S with
      | true =>
        have HW := Lib.hid (HYJ.out hps)
        rw [hps] at HF
        clear hps
        go_wp2_with (go_at_fn k; refine HF.out.mono ?_; rintro e w' ⟨rfl, hb'⟩)
        go_ret
        exact ⟨Or.inl ⟨j, rfl, HW.out⟩, bfrom HB.out hb'⟩
      | false =>
        have HW := Lib.hid (HSJ.out (by rw [← HSE.out]; exact hps))
        rw [hps] at HF
        clear hps
        go_wp2_with (go_at_fn k; refine HF.out.mono ?_; rintro e w' ⟨rfl, hb'⟩)
        go_roundw
        case rel => exact ⟨j + 1, by omega, by go_num, HW.out, bfrom HB.out hb'⟩
        case measure => simp [intOf]; omega
    · obtain rfl : j = N := by omega
      have HW := Lib.hid (HNO.out HS.out)
      go_wp2
      go_ret
      exact ⟨Or.inr ⟨rfl, HW.out⟩, HB.out⟩

set_option maxHeartbeats 1000000 in
theorem containsG_any (p : List Nat → Bool) (k : Nat) (first cap2 : Array Value) (m base : Nat) (Ls : List (List Nat)) (B : Option Addr) (N cp : Nat) (w : World) (hN : N = Ls.length) (hN9 : N ≤ 1000) (hget : ∀ i, i < N → (Ls.getD i []).length ≤ 16 ∧ ∀ s ∈ Ls.getD i [], s < 512) (hG : GSb base m Ls (.slice B N cp) w) (ha : AsksG p k first cap2 m w) :
    Calls Tryz.prog 32 #[.slice B N cp, .func (.func k) first cap2] w fun e w' => e = .returned (.bool (Ls.any p)) ∧ Below w.heap.size w w' := by
  have HI := Lib.hid (indexG_any p k first cap2 m base Ls B N cp w hN hN9 hget hG ha)
  clear hG ha hget hN
  go_enter Tryz.func32, Tryz.ntmps32
  go_wp2_with fail
  refine HI.out.mono ?_
  rintro e w1 ⟨h, hb⟩
  rcases h with ⟨j, rfl, hw⟩ | ⟨rfl, hw⟩
  · have HW := Lib.hid hw
    clear hw
    have h0 : (0 : Int) ≤ (j : Int) := by omega
    go_wp2
    go_ret
    exact ⟨by rw [HW.out]; first | rfl | simp, hb⟩
  · have HW := Lib.hid hw
    clear hw
    go_wp2
    go_ret
    exact ⟨by rw [HW.out]; rfl, hb⟩

set_option maxRecDepth 20000 in
set_option maxHeartbeats 1000000 in
theorem sure2_any (q : List Nat → Nat → Bool) (kf m h1 h2 s base : Nat) (L : List Nat) (A : Option Addr) (n cp : Nat) (W : World) (hq : KindS q kf m) (hs : s < 512) (hb1 : W.cell? ⟨h1, 0, none⟩ = some (.func (.func kf) #[] #[])) (hb2 : W.cell? ⟨h2, 0, none⟩ = some (.int .u64 s)) (hl1 : h1 < W.heap.size) (hl2 : h2 < W.heap.size) (hn : n = L.length) (hn16 : n ≤ 16) (hL : ∀ t ∈ L, t < 512) (ho : W.ownsRow base 69 1 (.slice A n cp) n (setsV L)) :
    Calls Tryz.prog 31 #[.agg #[.int .i64 m, .slice A n cp], .pointer (some ⟨h1, 0, none⟩), .pointer (some ⟨h2, 0, none⟩)] W fun e W' => e = .returned (.bool (!q L s)) ∧ Below W.heap.size W W' := by
  have b0 := below1 W (.cells #[.int .i64 m, .slice A n cp] 46)
  have hx := BoxT.new 46 W (.int .i64 m) (.slice A n cp)
  obtain ⟨c0, c1⟩ := hx.cells
  have d1 := (b0.cell (p := ⟨h1, 0, none⟩) hl1).trans hb1
  have d2 := (b0.cell (p := ⟨h2, 0, none⟩) hl2).trans hb2
  have HG := Lib.hid (hq.gives _ base L A n cp s hn hn16 hL hs (owns_now ho b0))
  have eg := hq.enters
  obtain ⟨r, hr⟩ : ∃ r, r = q L s := ⟨_, rfl⟩
  rw [← hr] at HG ⊢
  clear hr hq hn hL ho hx
  go_enter Tryz.func31, Tryz.ntmps31
  go_wp2_with (go_at_fn kf; refine HG.out.mono ?_; rintro e w' ⟨rfl, hb'⟩)
  go_ret
  exact ⟨rfl, bfrom b0 hb'⟩
theorem sure2_enters : ∀ args W, (callFunc 31 args).run Tryz.prog W = .ok (.enter 31 args) W := enters_of Tryz.func31 (by kernel_rfl) rfl

/-- Is it so in all of these games? -/
def sureP (q : List Nat → Nat → Bool) (Ls : List (List Nat)) (s : Nat) : Bool := !Ls.any fun L => !q L s

set_option maxRecDepth 20000 in
set_option maxHeartbeats 1000000 in
theorem sure1_any (q : List Nat → Nat → Bool) (kf m h1 h2 s base : Nat) (Ls : List (List Nat)) (B : Option Addr) (N cp : Nat) (W : World) (hq : KindS q kf m) (hs : s < 512) (hb1 : W.cell? ⟨h1, 0, none⟩ = some (.func (.func kf) #[] #[])) (hb2 : W.cell? ⟨h2, 0, none⟩ = some (.slice B N cp)) (hl1 : h1 < W.heap.size) (hl2 : h2 < W.heap.size) (hN : N = Ls.length) (hN9 : N ≤ 1000) (hget : ∀ i, i < N → (Ls.getD i []).length ≤ 16 ∧ ∀ s ∈ Ls.getD i [], s < 512) (hG : GSb base m Ls (.slice B N cp) W) :
    Calls Tryz.prog 30 #[.int .u64 s, .pointer (some ⟨h1, 0, none⟩), .pointer (some ⟨h2, 0, none⟩)] W fun e W' => e = .returned (.bool (sureP q Ls s)) ∧ Below W.heap.size W W' := by
  have b0 := below1 W (.cells #[.int .u64 s] 69)
  have d1 := (b0.cell (p := ⟨h1, 0, none⟩) hl1).trans hb1
  have d2 := (b0.cell (p := ⟨h2, 0, none⟩) hl2).trans hb2
  have d3 : (W.alloc (.cells #[.int .u64 s] 69)).cell? ⟨W.heap.size, 0, none⟩ = some (.int .u64 s) := by
    have h := heap_alloc_new W (.cells #[.int .u64 s] 69)
    unfold World.cell?
    rw [h]
    rfl
  have HC := Lib.hid (containsG_any (fun L => !q L s) 31 #[] #[.pointer (some ⟨h1, 0, none⟩), .pointer (some ⟨W.heap.size, 0, none⟩)] m base Ls B N cp _ hN hN9 hget (hG.now b0) ⟨sure2_enters, fun W' base' L A n cp' hb hn hn16 hL ho => sure2_any q kf m h1 W.heap.size s base' L A n cp' W' hq hs ((hb.cell (p := ⟨h1, 0, none⟩) (by simp; omega)).trans d1) ((hb.cell (p := ⟨W.heap.size, 0, none⟩) (by simp)).trans d3) (by have := hb.size; simp at this; omega) (by have := hb.size; simp at this; omega) hn hn16 hL ho⟩)
  have HR := Lib.hid (show sureP q Ls s = !(Ls.any fun L => !q L s) from rfl)
  rw [HR.out]
  generalize (Ls.any fun L => !q L s) = r at *
  clear hq hget hG hb1 hb2 d1 d3 hN
  go_enter Tryz.func30, Tryz.ntmps30
  go_wp2_with (go_at_call 32; refine HC.out.mono ?_; rintro e w' ⟨rfl, hb'⟩)
  go_ret
  exact ⟨rfl, bfrom b0 hb'⟩
theorem sure1_enters : ∀ args W, (callFunc 30 args).run Tryz.prog W = .ok (.enter 30 args) W := enters_of Tryz.func30 (by kernel_rfl) rfl

def sureL (q : List Nat → Nat → Bool) (m : Int) (C : List Clu) : List (List Int) := if fsOk m C then setsL ((inOrder m.toNat).filter (sureP q (solK m.toNat C))) else []
theorem sureL_no {q : List Nat → Nat → Bool} {m : Int} {C : List Clu} (h : fsOk m C = false) : sureL q m C = [] := by unfold sureL; rw [h]; rfl
theorem sureL_yes {q : List Nat → Nat → Bool} {m : Nat} {C : List Clu} (h : fsOk m C = true) : sureL q m C = setsL ((inOrder m).filter (sureP q (solK m C))) := by unfold sureL; rw [h, Int.toNat_natCast]; rfl
theorem sureL_small (q : List Nat → Nat → Bool) (m : Int) (C : List Clu) (hm : m ≤ 4) : tot (sureL q m C) + (sureL q m C).length ≤ 1048576 := by
  cases h : fsOk m C with
  | false => rw [sureL_no h]; simp [tot, totK]
  | true =>
    unfold sureL
    rw [h, if_pos rfl]
    have h1 := (filt_get (n := m.toNat) (P := sureP q (solK m.toNat C)) (by omega)).1
    have h2 := setsL_len ((inOrder m.toNat).filter (sureP q (solK m.toNat C)))
    have h3 : tot (setsL ((inOrder m.toNat).filter (sureP q (solK m.toNat C)))) ≤ 9 * (setsL ((inOrder m.toNat).filter (sureP q (solK m.toNat C)))).length := totK_small (setsL_nine _) _
    omega

set_option maxRecDepth 20000 in
set_option maxHeartbeats 4000000 in
theorem sureSets_any (q : List Nat → Nat → Bool) (kf : Nat) (hq : ∀ z, KindS q kf z) (m : Int) (A : Option Addr) (n cap : Nat) (C : List Clu) (w : World) (hl : n ≤ 1048576) (hk : KCl w A n C) :
    Calls Tryz.prog 16 #[.agg #[.int .i64 m, .slice A n cap], .func (.func kf) #[] #[]] w fun e w' => Ans (RSS (sureL q m C)) (fsOk m C) w w' e := by
  obtain ⟨P, hP⟩ : ∃ P : World → Ending → Prop, P = fun w' e => Ans (RSS (sureL q m C)) (fsOk m C) w w' e := ⟨_, rfl⟩
  suffices h : Calls Tryz.prog 16 #[.agg #[.int .i64 m, .slice A n cap], .func (.func kf) #[] #[]] w fun e w' => P w' e by rw [hP] at h; exact h
  have HNO := Lib.hid (show fsOk m C = false → ∀ w' e, Ans (RSS []) false w w' e → P w' e from fun h w' e k => by rw [hP, h, sureL_no h]; exact k)
  have HYES := Lib.hid (show fsOk m C = true → ∀ w' e, Ans (RSS (sureL q m C)) true w w' e → P w' e from fun h w' e k => by rw [hP, h]; exact k)
  clear hP
  have b0 : Below w.heap.size w ((w.alloc (.cells #[.int .i64 m, .slice A n cap] 31)).alloc (.cells #[.func (.func kf) #[] #[]] 42)) := (below1 w _).alloc (by simp) _
  have hx := (BoxT.new 31 w (.int .i64 m) (.slice A n cap)).alloc (.cells #[.func (.func kf) #[] #[]] 42)
  have hf0 : ((w.alloc (.cells #[.int .i64 m, .slice A n cap] 31)).alloc (.cells #[.func (.func kf) #[] #[]] 42)).heap[w.heap.size + 1]? = some (.cells #[.func (.func kf) #[] #[]] 42 (0, 0)) := by
    have h := heap_alloc_new (w.alloc (.cells #[.int .i64 m, .slice A n cap] 31)) (.cells #[.func (.func kf) #[] #[]] 42)
    rw [World.size_alloc] at h
    exact h
  have hsz0 : w.heap.size + 1 < ((w.alloc (.cells #[.int .i64 m, .slice A n cap] 31)).alloc (.cells #[.func (.func kf) #[] #[]] 42)).heap.size := by simp
  obtain ⟨c0, c1⟩ := hx.cells
  have HR := Lib.hid (readSolutions_any m A n cap C _ hl (hk.now b0))
  have HQ := Lib.hid hq
  clear hk hq
  go_enter Tryz.func16, Tryz.ntmps16
  go_wp2_with fail
  refine HR.out.mono ?_
  rintro e w1 ⟨h, hb1⟩
  have g1 := bfrom b0 hb1
  have hx1 := hx.now hb1
  have hz1 := hb1.size
  rcases h with ⟨hp, rfl⟩ | ⟨hp, z, v, rfl, hq1, hq4, rfl, hg⟩
  · have HF := Lib.hid (show fsOk m C = false from by unfold fsOk; rw [hp]; rfl)
    clear c0 c1 hx hx1 hp hf0
    go_wp2
    exact HNO.out HF.out _ _ (Ans.noneSS (g1.alloc g1.size _))
  · obtain ⟨Bq, cq, rfl⟩ := GSb.slice hg
    by_cases h0 : 0 < (solK z C).length
    · have HF := Lib.hid (show fsOk (z : Int) C = true from by unfold fsOk; rw [hp, Int.toNat_natCast, decide_eq_true h0]; rfl)
      have HL := Lib.hid (sureL_yes (q := q) HF.out)
      rw [HL.out] at HYES
      have HY2 := Lib.hid (HYES.out HF.out)
      have hN9 := solK_len z C hq1 hq4
      have HGET := Lib.hid (show ∀ i, i < (solK z C).length → ((solK z C).getD i []).length ≤ 16 ∧ ∀ s ∈ (solK z C).getD i [], s < 512 from fun i hi => ⟨(solK_get hq1 hq4 hi).1, fun s hs => Nat.lt_of_lt_of_le ((solK_get hq1 hq4 hi).2 s hs) (two4 hq4)⟩)
      have HDEC := Lib.hid (decide_eq_true h0)
      rw [decide_eq_true h0]
      obtain ⟨S, hS⟩ : ∃ S, S = (inOrder z).filter (sureP q (solK z C)) := ⟨_, rfl⟩
      obtain ⟨hS5, hSin⟩ := filt_get (n := z) (P := sureP q (solK z C)) (by omega)
      have bb := below1 w1 (.cells #[.slice Bq (solK z C).length cq] 65)
      have hgb := hg.now bb
      have d1 : (w1.alloc (.cells #[.slice Bq (solK z C).length cq] 65)).cell? ⟨w.heap.size + 1, 0, none⟩ = some (.func (.func kf) #[] #[]) := (bb.cell (p := ⟨w.heap.size + 1, 0, none⟩) (show w.heap.size + 1 < w1.heap.size by omega)).trans (by
        have h := (hb1.block (w.heap.size + 1) hsz0).trans hf0
        unfold World.cell?
        rw [h]
        rfl)
      have d2 : (w1.alloc (.cells #[.slice Bq (solK z C).length cq] 65)).cell? ⟨w1.heap.size, 0, none⟩ = some (.slice Bq (solK z C).length cq) := by
        have h := heap_alloc_new w1 (.cells #[.slice Bq (solK z C).length cq] 65)
        unfold World.cell?
        rw [h]
        rfl
      have hz2 : w.heap.size + 1 < (w1.alloc (.cells #[.slice Bq (solK z C).length cq] 65)).heap.size := by simp; omega
      have hz3 : w1.heap.size < (w1.alloc (.cells #[.slice Bq (solK z C).length cq] 65)).heap.size := by simp
      have HT := Lib.hid (setsThat_any z (sureP q (solK z C)) 30 #[] #[.pointer (some ⟨w.heap.size + 1, 0, none⟩), .pointer (some ⟨w1.heap.size, 0, none⟩)] (w1.alloc (.cells #[.slice Bq (solK z C).length cq] 65)) (by omega) ⟨sure1_enters, fun W s hs hW => sure1_any q kf z (w.heap.size + 1) w1.heap.size s _ (solK z C) Bq _ cq W (HQ.out z) (Nat.lt_of_lt_of_le hs (two4 hq4)) ((hW.cell (p := ⟨w.heap.size + 1, 0, none⟩) hz2).trans d1) ((hW.cell (p := ⟨w1.heap.size, 0, none⟩) hz3).trans d2) (Nat.lt_of_lt_of_le hz2 hW.size) (Nat.lt_of_lt_of_le hz3 hW.size) rfl hN9 HGET.out (hgb.now hW)⟩)
      rw [← hS] at HT hS5 hSin HY2
      have HSL := Lib.hid (setsL_len S)
      obtain ⟨ls, hls⟩ : ∃ z, z = S.length := ⟨_, rfl⟩
      have HLS := Lib.hid (fun W A3 cp3 base3 (ho : W.ownsRow base3 69 1 (.slice A3 ls cp3) ls (setsV S)) => listsOf_any S base3 cp3 ls A3 W hls (by omega) (fun j hj => hSin j (by omega)) ho)
      have HLE := Lib.hid hls
      have hx2 := hx1.now bb
      have g2 := bfrom g1 bb
      obtain ⟨e0, e1⟩ := hx2.cells
      have h0i : (0 : Int) < ((solK z C).length : Int) := by omega
      generalize (solK z C).length = N at *
      clear hls hS hSin hS5 HGET HDEC HF HL HYES HNO hg hgb hx hx1 c0 c1 hf0 hp d1 d2 h0 hN9 hsz0 hz2 hz3 hx2
      go_wp2_with fail
      refine HT.out.mono ?_
      rintro e w3 ⟨A3, cp3, rfl, ho3, hb3⟩
      rw [← HLE.out] at ho3 ⊢
      have HL3 := Lib.hid (HLS.out w3 A3 cp3 _ ho3)
      have HB3 := Lib.hid hb3
      clear ho3 hb3
      go_wp2_with fail
      refine HL3.out.mono ?_
      rintro e w4 ⟨B, cp, rfl, hss, hb4⟩
      have HSS := Lib.hid hss
      clear hss
      go_wp2
      have hz5 := HB3.out.size
      exact HY2.out _ _ ⟨_, rfl, RSS.lies (SSb.rss (SSb.less HSS.out (Nat.le_trans g2.size hz5)) ⟨B, cp, by rw [HSL.out, ← HLE.out]; first | done | rfl⟩) (Nat.le_refl _), bfrom g2 (bfrom HB3.out hb4)⟩
    · have HF := Lib.hid (show fsOk (z : Int) C = false from by unfold fsOk; rw [hp, Int.toNat_natCast, decide_eq_false h0]; rfl)
      rw [decide_eq_false h0]
      clear c0 c1 hx hx1 hp hf0 hg h0
      go_wp2
      exact HNO.out HF.out _ _ (Ans.noneSS (g1.alloc g1.size _))
end Go.Proofs.YtnldodnpakpeeaaGreat

namespace Go.Proofs.YtnldodnpakpeeaaGreat
open Go.RowKit Vo

theorem gamesK_rows : ∀ m, 1 ≤ m → m ≤ 4 → ((gamesK m).all fun S => rowsB m (setsL S) && (setsN (setsL S) == S)) = true := by
  intro m h1 h2
  obtain rfl | rfl | rfl | rfl : m = 1 ∨ m = 2 ∨ m = 3 ∨ m = 4 := by omega
  all_goals (unfold gamesK; decide +kernel)
theorem solK_rows {m j : Nat} {C : List Clu} (h1 : 1 ≤ m) (h4 : m ≤ 4) (hj : j < (solK m C).length) : rowsB m (setsL ((solK m C).getD j [])) = true ∧ setsN (setsL ((solK m C).getD j [])) = (solK m C).getD j [] := by
  have hm : (solK m C).getD j [] ∈ gamesK m := by
    rw [List.getD_eq_getElem?_getD, List.getElem?_eq_getElem hj]
    exact (List.mem_filter.1 (List.getElem_mem hj)).1
  have h := List.all_eq_true.1 (gamesK_rows m h1 h4) _ hm
  simp only [Bool.and_eq_true, beq_iff_eq] at h
  exact h
/-- Is it so in the first j of these games? -/
def sureT (win : Bool) (Gs : List (List Nat)) (j s : Nat) : Bool := (Gs.take j).all fun S => winS S s == win
theorem sureT_succ {win : Bool} {Gs : List (List Nat)} {j : Nat} (h : j < Gs.length) (s : Nat) : sureT win Gs (j+1) s = (sureT win Gs j s && (winS (Gs.getD j []) s == win)) := by
  unfold sureT
  rw [List.take_add_one, List.all_append, List.getD_eq_getElem?_getD, List.getElem?_eq_getElem h]
  simp
theorem sureT_all (win : Bool) (Gs : List (List Nat)) (s : Nat) : sureT win Gs Gs.length s = sureP (fun L s => winS L s == win) Gs s := by
  unfold sureT sureP
  rw [List.take_of_length_le (Nat.le_refl _), List.not_any_eq_all_not]
  simp

set_option maxRecDepth 20000 in
set_option maxHeartbeats 8000000 in
theorem sPzSure_any (win : Bool) (m : Int) (A : Option Addr) (n cap : Nat) (C : List Clu) (w : World) (hl : n ≤ 1048576) (hk : KCl w A n C) :
    Calls Tryz.prog 14 #[.agg #[.int .i64 m, .slice A n cap], .bool win] w fun e w' => Ans (RSS0 (sureL (fun L s => winS L s == win) m C)) (fsOk m C) w w' e := by
  obtain ⟨P, hP⟩ : ∃ P : World → Ending → Prop, P = fun w' e => Ans (RSS0 (sureL (fun L s => winS L s == win) m C)) (fsOk m C) w w' e := ⟨_, rfl⟩
  suffices h : Calls Tryz.prog 14 #[.agg #[.int .i64 m, .slice A n cap], .bool win] w fun e w' => P w' e by rw [hP] at h; exact h
  have HNO := Lib.hid (show fsOk m C = false → ∀ w' e, Ans (RSS0 []) false w w' e → P w' e from fun h w' e k => by rw [hP, h, sureL_no h]; exact k)
  have HYES := Lib.hid (show fsOk m C = true → ∀ w' e, Ans (RSS0 (sureL (fun L s => winS L s == win) m C)) true w w' e → P w' e from fun h w' e k => by rw [hP, h]; exact k)
  clear hP
  have hb0 := below1 w (.cells #[.int .i64 m, .slice A n cap] 31)
  have hx := BoxT.new 31 w (.int .i64 m) (.slice A n cap)
  have HP := Lib.hid (pzGood_any m A n cap C _ (by omega) (hk.now hb0))
  have HK := Lib.hid (hk.now hb0)
  have hcl := hk.1
  clear hk
  obtain ⟨c0, c1⟩ := hx.cells
  cases hp : puzB m C with
  | false =>
    have HF := Lib.hid (show fsOk m C = false from by unfold fsOk; rw [hp]; rfl)
    rw [hp] at HP
    clear hp hcl
    go_enter Tryz.func14, Tryz.ntmps14
    go_wp2_with fail
    refine HP.out.mono ?_
    rintro e w1 ⟨rfl, hb1⟩
    have g1 := bfrom hb0 hb1
    go_wp2
    exact HNO.out HF.out _ _ (Ans.noneSS0 g1)
  | true =>
    obtain ⟨q, rfl, h1, h4, hask⟩ := puzB_nat hp
    rw [hp] at HP
    have HOK := Lib.hid (show fsOk (q : Int) C = decide (0 < (solK q C).length) from by unfold fsOk; rw [hp, Int.toNat_natCast]; rfl)
    have HALL := Lib.hid (fun W (hW : Below (w.alloc (.cells #[.int .i64 (q : Nat), .slice A n cap] 31)).heap.size (w.alloc (.cells #[.int .i64 (q : Nat), .slice A n cap] 31)) W) => (pzAll_any q n A cap C W h1 h4 hl (HK.out.now hW) (fun j hj => hask j (by omega))).mono fun e w' h => h.sol h1 h4 hask)
    have HROWS := Lib.hid (fun j (hj : j < (solK q C).length) => solK_rows h1 h4 hj)
    have HGET := Lib.hid (fun j (hj : j < (solK q C).length) => solK_get h1 h4 hj)
    have hN9 := solK_len q C h1 h4
    obtain ⟨Gs, hGs⟩ : ∃ Gs, Gs = solK q C := ⟨_, rfl⟩
    have HSL := Lib.hid (show fsOk (q : Int) C = true → sureL (fun L s => winS L s == win) q C = setsL ((inOrder q).filter (sureP (fun L s => winS L s == win) Gs)) from fun h => by rw [sureL_yes h, hGs])
    rw [← hGs] at HALL HOK HROWS HGET hN9
    obtain ⟨R, hR⟩ : ∃ R, R = Gs.length := ⟨_, rfl⟩
    rw [← hR] at HALL HOK HROWS HGET hN9
    have HR := Lib.hid hR
    clear hp hcl hask hR hGs HK
    by_cases h0 : R = 0
    · subst h0
      have HF := Lib.hid (show fsOk (q : Int) C = false from by rw [HOK.out]; rfl)
      go_enter Tryz.func14, Tryz.ntmps14
      go_wp2_with fail
      refine HP.out.mono ?_
      rintro e w1 ⟨rfl, hb1⟩
      have g1 := bfrom hb0 hb1
      clear c0 c1
      obtain ⟨c0, c1⟩ := (hx.now hb1).cells
      go_wp2_with (first
        | (go_at_call 24; refine (HALL.out _ hb1).mono ?_; rintro e w2 ⟨Q, B, cp, rfl, hq, hG, hb2⟩; have g2 := bfrom g1 hb2)
        | fail)
      exact HNO.out HF.out _ _ (Ans.noneSS0 g2)
    · have HT := Lib.hid (show fsOk (q : Int) C = true from by rw [HOK.out]; exact decide_eq_true (by omega))
      have HY := Lib.hid (HYES.out HT.out)
      rw [HSL.out HT.out] at HY
      have hne : ((R : Int) == 0) = false := beq_false_of_ne (by omega)
      have hN16 : 2^q ≤ 16 := Nat.pow_le_pow_right (n := 2) (by omega) h4
      have hpos := Nat.two_pow_pos q
      have hpc : (2 : Int)^q = ((2^q : Nat) : Int) := by simp
      have HKS := Lib.hid (show sortL (kindL (sureT win Gs R) (2^q)) = setsL ((inOrder q).filter (sureP (fun L s => winS L s == win) Gs)) from by
        rw [kindL_sort _ (by omega)]
        congr 2
        funext s
        rw [HR.out]
        exact sureT_all win Gs s)
      have HTS := Lib.hid (fun j (hj : j < R) s => sureT_succ (win := win) (Gs := Gs) (j := j) (by rw [← HR.out]; exact hj) s)
      have HT0 := Lib.hid (show ∀ s, sureT win Gs 0 s = true from fun s => rfl)
      have HKL := Lib.hid (fun P t => kindL_len P t)
      obtain ⟨N, hN⟩ : ∃ N, N = 2^q := ⟨_, rfl⟩
      have HNE := Lib.hid hN
      rw [← hN] at hpc hN16 hpos HKS
      clear hN HSL HOK HYES HNO
      have hmk := run_make_row' (P := Tryz.prog) 55 4 (.bool false) 1 Tryz.underlying55 infoBool rfl .i64 .i64 N (by omega) (by omega)
      go_enter Tryz.func14, Tryz.ntmps14
      go_wp2_with fail
      refine HP.out.mono ?_
      rintro e w1 ⟨rfl, hb1⟩
      have g1 := bfrom hb0 hb1
      have hx1 := hx.now hb1
      clear c0 c1
      obtain ⟨c0, c1⟩ := hx1.cells
      go_wp2_with fail
      refine (HALL.out _ hb1).mono ?_
      rintro e w2 ⟨Q, B, cp, rfl, hq, hG, hb2⟩
      have g2 := bfrom g1 hb2
      have hx2 := hx1.now hb2
      clear c0 c1
      obtain ⟨c0, c1⟩ := hx2.cells
      have HQ := Lib.hid hq
      have HG := Lib.hid hG
      clear hq hG hx hx1 HALL
      go_wp2_with fail
      have hrow0 : Own (w2.alloc (.cells (madeCells #[.bool false] N) 4)) w2.heap.size 4 N (fun _ => .bool false) := Own.of_row (World.rowIs_made w2 (.bool false) N 4)
      have b3 := below1 w2 (.cells (madeCells #[.bool false] N) 4)
      -- all are sure at first
      go_loopw [8, 33] (fun _ i wr => ∃ t : Nat, t ≤ N ∧ i = .int .i64 t ∧ Own wr w2.heap.size 4 N (fun s => .bool (decide (s < t))) ∧ Below w2.heap.size w2 wr ∧ w2.heap.size + 1 ≤ wr.heap.size) (fun _ i _ => N - (intOf i).toNat)
      case atStart => exact ⟨0, Nat.zero_le _, rfl, hrow0.congr fun i _ => by simp, b3, by simp⟩
      case round =>
        obtain ⟨t, ht, rfl, hown, hb, hzr⟩ := hrel
        have HO := Lib.hid hown
        have HB := Lib.hid hb
        clear hown hb
        by_cases hlt : t < N
        · have hc := HO.out.cell hlt
          have hfr := HO.out.frozen t
          go_wp2
          go_roundw
          case rel =>
            refine ⟨t + 1, by omega, by go_num, (HO.out.set t (.bool true)).congr fun i _ => ?_, HB.out.setCell (p := ⟨w2.heap.size, t, none⟩) (Nat.le_refl _) _, by simpa using hzr⟩
            by_cases e : i = t
            · subst e; simp
            · by_cases h : i < t
              · simp [h, e, show i < t + 1 from by omega]
              · simp [h, e, show ¬ i < t + 1 from by omega]
          case measure => simp [intOf]; omega
        · obtain rfl : t = N := by omega
          obtain ⟨wA, rfl⟩ : ∃ wA, wA = wr := ⟨_, rfl⟩
          have HA := Lib.hid (show Own wA w2.heap.size 4 t (fun s => .bool (sureT win Gs 0 s)) from HO.out.congr fun i hi => by rw [HT0.out]; simp [hi])
          have HBA := Lib.hid HB.out
          have hzA := hzr
          clear HO HB hzr hlt ht hrow0
          go_wp2
          go_loopw [10, 11, 12, 42] (fun _ _ _ i wr => ∃ j : Nat, j ≤ R ∧ i = .int .i64 j ∧ Own wr w2.heap.size 4 t (fun s => .bool (sureT win Gs j s)) ∧ Below w2.heap.size w2 wr ∧ w2.heap.size + 1 ≤ wr.heap.size) (fun _ _ _ i _ => R - (intOf i).toNat)
          case atStart => exact ⟨0, Nat.zero_le _, rfl, HA.out, HBA.out, hzA⟩
          case round =>
            obtain ⟨j, hj, rfl, hown, hb, hzr⟩ := hrel
            obtain ⟨wB, rfl⟩ : ∃ wB, wB = wr := ⟨_, rfl⟩
            have HO := Lib.hid hown
            have HB := Lib.hid hb
            clear hown hb
            by_cases hlt : j < R
            · have hgl := HG.out.now (w' := wB) HB.out
              have hQ : Q.length = R := by rw [HR.out, ← HQ.out, List.length_map]
              have hjQ : j < Q.length := by omega
              obtain ⟨gB, cpB, hvB, _, _, _⟩ := owns_headN hgl.1 (by omega)
              have hvB2 := hvB
              simp only [Value.slice.injEq] at hvB2
              obtain ⟨rfl, hRQ, rfl⟩ := hvB2
              clear hRQ
              obtain ⟨x0, x1⟩ := gpV_pair q Q j hjQ
              have hown := hgl.1
              rw [hQ] at hown
              have e0 : wB.cell? ⟨gB, j * 2, none⟩ = some (.int .i64 q) := by rw [hown.cellAt (j*2) (by omega)]; exact x0
              have e1 : wB.cell? ⟨gB, j * 2 + 1, none⟩ = some (Q.getD j (0, .slice none 0 0)).2 := by rw [hown.cellAt (j*2+1) (by omega)]; exact x1
              have hmem : Q.getD j (0, .slice none 0 0) ∈ Q := by rw [List.getD_eq_getElem?_getD, List.getElem?_eq_getElem hjQ]; exact List.getElem_mem hjQ
              have hle : leastC q (Q.getD j (0, .slice none 0 0)).1 = Gs.getD j [] := by
                rw [← HQ.out, List.getD_eq_getElem?_getD, List.getD_eq_getElem?_getD, List.getElem?_map, List.getElem?_eq_getElem hjQ]; rfl
              obtain ⟨lo, hi, AX, cX, hlo, _, hX, hlies⟩ := hgl.2 _ hmem
              rw [hle] at hX hlies
              rw [hX] at e1 hlies
              obtain ⟨hrows, hsets⟩ := HROWS.out j hlt
              have h16 := (HGET.out j hlt).1
              have HTSJ := Lib.hid (HTS.out j hlt)
              obtain ⟨S, hS⟩ : ∃ S, S = Gs.getD j [] := ⟨_, rfl⟩
              rw [← hS] at e1 hlies hrows hsets h16 HTSJ
              obtain ⟨lx, hlx⟩ : ∃ lx, lx = S.length := ⟨_, rfl⟩
              rw [← hlx] at e1 hlies h16
              have hLS : Lists wB AX lx (setsL S) := RSS0.lists (by rw [setsL_len, hlx]) (by
                have h3 : tot (setsL S) ≤ 9 * (setsL S).length := totK_small (setsL_nine _) _
                have h2 := setsL_len S
                omega) hlies.here
              have bG := below1 wB (.cells #[.int .i64 q, .slice AX lx cX] 57)
              have hxg := BoxT.new 57 wB (.int .i64 q) (.slice AX lx cX)
              obtain ⟨y0, y1⟩ := hxg.cells
              have HGA := Lib.hid (gmAll_any q AX lx cX (setsL S) (wB.alloc (.cells #[.int .i64 q, .slice AX lx cX] 57)) (by omega) (by omega) hrows (hLS.now bG))
              have HWN := Lib.hid (show ∀ b, wnL (setsN (setsL S)) b = winS S b from fun b => by rw [hsets]; rfl)
              rw [← HNE.out, World.size_alloc] at HGA
              have HOB := Lib.hid (Own.below HO.out bG (by omega))
              clear hgl hQ hjQ x0 x1 hown hmem hle hX hlies hrows hsets hLS hS hlx hvB hxg bG hlo
              go_wp2_with fail
              refine HGA.out.mono ?_
              rintro e wC ⟨rfl, hownC, hbC⟩
              have HW := Lib.hid (show Own wC (wB.heap.size + 1 + 1) 4 t (fun b => .bool (winS S b)) from hownC.congr fun b _ => by rw [HWN.out])
              have hbC : Below (wB.alloc (.cells #[.int .i64 q, .slice AX lx cX] 57)).heap.size (wB.alloc (.cells #[.int .i64 q, .slice AX lx cX] 57)) wC := by rw [World.size_alloc]; exact hbC
              have hsC := hbC.size
              simp only [World.size_alloc] at hsC
              have HC := Lib.hid (show Own wC w2.heap.size 4 t (fun s => .bool (sureT win Gs j s)) from Own.below HOB.out hbC (by simp; omega))
              have HBC := Lib.hid (show Below w2.heap.size w2 wC from HB.out.trans ((bfrom (below1 wB _) hbC).mono HB.out.size))
              clear hownC hbC y0 y1 e0 e1
              go_wp2_with fail
              go_loopw [11, 12, 49] (fun _ _ i wr => ∃ b : Nat, b ≤ t ∧ i = .int .i64 b ∧ Own wr w2.heap.size 4 t (fun s => .bool (if s < b then sureT win Gs (j+1) s else sureT win Gs j s)) ∧ Own wr (wB.heap.size + 1 + 1) 4 t (fun b => .bool (winS S b)) ∧ Below w2.heap.size w2 wr ∧ w2.heap.size + 1 ≤ wr.heap.size) (fun _ _ i _ => t - (intOf i).toNat)
              case atStart => exact ⟨0, Nat.zero_le _, rfl, HC.out.congr fun s _ => by simp, HW.out, HBC.out, by omega⟩
              case round =>
                obtain ⟨b, hb, rfl, hoS, hoW, hbb, hzz⟩ := hrel
                have HS := Lib.hid hoS
                have HWW := Lib.hid hoW
                have HBB := Lib.hid hbb
                clear hoS hoW hbb
                by_cases hltb : b < t
                · have hcs : wr.cell? ⟨w2.heap.size, b, none⟩ = some (.bool (sureT win Gs j b)) := by rw [HS.out.cell hltb]; simp
                  have hcw := HWW.out.cell hltb
                  have hfr := HS.out.frozen b
                  have HST := Lib.hid (HTSJ.out b)
                  have HNEXT := Lib.hid (show ∀ z : Bool, z = sureT win Gs (j+1) b → Own (wr.setCell ⟨w2.heap.size, b, none⟩ (.bool z)) w2.heap.size 4 t (fun s => .bool (if s < b + 1 then sureT win Gs (j+1) s else sureT win Gs j s)) from fun z hz => (HS.out.set b (.bool z)).congr fun s _ => by
                    by_cases e : s = b
                    · subst e; simp [hz]
                    · by_cases h : s < b
                      · simp [h, e, show s < b + 1 from by omega]
                      · simp [h, e, show ¬ s < b + 1 from by omega])
                  have HFAR := Lib.hid (fun z : Bool => HWW.out.far (p := ⟨w2.heap.size, b, none⟩) (show wB.heap.size + 1 + 1 ≠ w2.heap.size by omega) (.bool z))
                  have HBX := Lib.hid (fun z : Bool => HBB.out.setCell (p := ⟨w2.heap.size, b, none⟩) (Nat.le_refl _) (.bool z))
                  have hz2 : ∀ z : Bool, w2.heap.size + 1 ≤ (wr.setCell ⟨w2.heap.size, b, none⟩ (.bool z)).heap.size := fun z => by simpa using hzz
                  cases hsj : sureT win Gs j b with
                  | false =>
                    rw [hsj] at hcs HST
                    have HZ := Lib.hid (show false = sureT win Gs (j+1) b from by rw [HST.out]; rfl)
                    clear hsj HST
                    go_wp2
                    go_roundw
                    case rel => exact ⟨b + 1, by omega, by go_num, HNEXT.out _ HZ.out, HFAR.out _, HBX.out _, hz2 _⟩
                    case measure => simp [intOf]; omega
                  | true =>
                    rw [hsj] at hcs HST
                    obtain ⟨u, hu⟩ : ∃ u, u = winS S b := ⟨_, rfl⟩
                    rw [← hu] at hcw HST
                    have HZ := Lib.hid (show (u == win) = sureT win Gs (j+1) b from by rw [HST.out]; rfl)
                    clear hsj HST hu
                    go_wp2
                    go_roundw
                    case rel => exact ⟨b + 1, by omega, by go_num, HNEXT.out _ HZ.out, HFAR.out _, HBX.out _, hz2 _⟩
                    case measure => simp [intOf]; omega
                · obtain rfl : b = t := by omega
                  go_wp2
                  go_roundw
                  case rel => exact ⟨j + 1, by omega, by go_num, HS.out.congr fun s hs => by simp [hs], HBB.out, hzz⟩
                  case measure => simp [intOf]; omega
            · obtain rfl : j = R := by omega
              have HSR := Lib.hid (show Own wB w2.heap.size 4 t (fun s => .bool (sureT win Gs j s)) from HO.out)
              have HKY := Lib.hid (fun s (h : sureT win Gs j s = true) => kindL_yes (P := sureT win Gs j) (j := s) h)
              have HKN := Lib.hid (fun s (h : sureT win Gs j s = false) => kindL_no (P := sureT win Gs j) (j := s) h)
              have HKLE := Lib.hid (kindL_len (sureT win Gs j))
              obtain ⟨i0, hi0, hz0, hz1, hz2⟩ := info_parts infoInts
              clear hlt HO HA HBA hzA
              go_wp2
              go_loopw [13, 14, 15, 70] (fun v _ _ i wr => ∃ (s k : Nat) (B : Option Addr) (cp : Nat), s ≤ t ∧ i = .int .i64 s ∧ k = (kindL (sureT win Gs j) s).length ∧ v = .slice B k cp ∧ SSb wB.heap.size (kindL (sureT win Gs j) s) (.slice B k cp) wr ∧ Below wB.heap.size wB wr) (fun _ _ _ i _ => t - (intOf i).toNat)
              case atStart => exact ⟨0, 0, none, 0, Nat.zero_le _, rfl, rfl, rfl, SSb.nil _ _, Below.refl _ _⟩
              case round =>
                obtain ⟨s, k, B', cp', hs, rfl, hk, rfl, hss, hbr⟩ := hrel
                have HSS := Lib.hid hss
                have hszr := hbr.size
                have HKK := Lib.hid hk
                have hk5 : k ≤ 16 := by have := HKLE.out s; omega
                clear hss hk
                by_cases hlts : s < t
                · have hcs := (Own.below HSR.out hbr HSR.out.lt).cell hlts
                  cases hsj : sureT win Gs j s with
                  | false =>
                    rw [hsj] at hcs
                    have HN1 := Lib.hid (HKN.out s hsj)
                    clear hsj
                    go_wp2
                    go_roundw
                    case rel => exact ⟨s + 1, k, B', cp', by omega, by go_num, by rw [HN1.out]; exact HKK.out, rfl, by rw [HN1.out]; exact HSS.out, hbr⟩
                    case measure => simp [intOf]; omega
                  | true =>
                    rw [hsj] at hcs
                    have HN1 := Lib.hid (HKY.out s hsj)
                    clear hsj
                    obtain ⟨xs, _, ho, _⟩ := HSS.out
                    rw [← HKK.out] at ho
                    have HXS := Lib.hid ho
                    clear ho
                    have hs512 : s < 512 := by omega
                    obtain ⟨ml, hml⟩ : ∃ ml, ml = (mem s 9).length := ⟨_, rfl⟩
                    have hm9 : ml ≤ 9 := by have := mem_len s 9; omega
                    have HML := Lib.hid hml
                    clear hml
                    go_wp2_with (first
                      | (go_at_call 26; refine (voList_any s _ hs512).mono ?_; rintro e w6 ⟨A6, cap6, rfl, hown6, hb6⟩; rw [← HML.out] at hown6 ⊢; have HL6 := Lib.hid hown6; clear hown6; have HO6 := Lib.hid (owns_now HXS.out hb6); have b6 := bfromB hbr hb6 hszr; have hsz6 := b6.size)
                      | (at_builtin; refine wpList_append_lies _ rfl _ _ _ rfl wB.heap.size 48 i0 _ 1 24 Tryz.underlying26 hi0 hz0 hz1 hz2 rfl (by decide) (.slice B' k cp') k xs rfl (HO6.out.alloc _) ⟨w6.heap.size, 0, none⟩ 1 1 [.slice A6 ml cap6] rfl rfl (World.news_of_block (cs := #[.slice A6 ml cap6]) (t := 48) (fr := (0, 0)) (heap_alloc_new w6 _)) (by simp [Value.oneCell']) (by omega) (by unfold maxLen; omega) (by omega) (by simp; omega) (w6.heap.size + 1) (by simp) ?_; intro gg cap4 w7 hown7 hgrow7 hat7 hlt7))
                    have b7 : Below wB.heap.size wB w7 := (b6.alloc hsz6 (.cells #[.slice A6 ml cap6] 48)).grown hgrow7 (by simp; omega) fun i hi => owns_le HO6.out hi
                    have HPU := Lib.hid (SSb.push (l := mem s 9) HSS.out HKK.out hszr hb6 ⟨A6, cap6, by rw [HML.out], by rw [← HML.out]; exact HL6.out⟩ (Nat.le_succ _) _ (below1 w6 (.cells #[.slice A6 ml cap6] 48)) (by simp) xs HXS.out hown7 hgrow7 hat7)
                    go_roundw
                    case rel => exact ⟨s + 1, k + 1, some ⟨gg, 0, none⟩, cap4, by omega, by go_num, by rw [HN1.out, List.length_append, ← HKK.out]; rfl, rfl, by rw [HN1.out]; exact HPU.out, b7⟩
                    case measure => simp [intOf]; omega
                · obtain rfl : s = t := by omega
                  obtain ⟨P0, hPP, hAA⟩ := SSb.pairs HSS.out HKK.out setsL_small
                  have HPP := Lib.hid hPP
                  have HAA := Lib.hid hAA
                  have hj512 : k ≤ 512 := by omega
                  clear hPP hAA
                  go_wp2_with (go_at_call 27; refine (voSorted_any wB.heap.size (kindL (sureT win Gs j) s) P0 B' k cp' _ hj512 HPP.out HAA.out).mono ?_; rintro e w6 ⟨B6, cp6, P6, rfl, hown6, hP6, hb6⟩)
                  have hzB := HSR.out.lt
                  have g2z := g2.size
                  refine HY.out _ _ ⟨_, rfl, RSS0.lies ?_ (Nat.le_refl _), ?_⟩
                  · have hr := hP6.rss hown6 hb6 wB.heap.size (Nat.le_refl _) hszr
                    rw [HKS.out] at hr
                    exact RSS0.low hr (by omega)
                  · exact bfrom g2 ((HB.out.trans (hbr.mono (by omega))).trans (hb6.mono (by omega)))
end Go.Proofs.YtnldodnpakpeeaaGreat
