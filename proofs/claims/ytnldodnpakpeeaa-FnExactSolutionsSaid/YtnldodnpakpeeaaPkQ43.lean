/- Texts of Gr, Gs. -/
import Derived.Test.YtnldodnpakpeeaaPkQ30
import Derived.Test.YtnldodnpakpeeaaPkQ37
import Derived.Outline
import Derived.Test.YtnldodnpakpeeaaPkQ15
import Derived.Deep.RegionHeld3
namespace Go.Proofs.Ytnldodnpakpeeaa
open Go.RowKit Vo

/-- A question that is asked of these clues alone. -/
structure AsksV (p : Clu → Bool) (k : Nat) (first cap : Array Value) (C : List Clu) (n : Nat) (w : World) : Prop where
  enters : ∀ args W, (callFunc k args).run Try.prog W = .ok (.enter k args) W
  gives : ∀ (W : World) (j : Nat), j < n → Below w.heap.size w W → Calls Try.prog k (first.push (.agg #[.int .i64 (cAt C j).1, .int .i64 (cAt C j).2.1, .int .i64 (cAt C j).2.2]) ++ cap) W fun e W' => e = .returned (.bool (p (cAt C j))) ∧ Below W.heap.size W W'

set_option maxRecDepth 20000 in
set_option maxHeartbeats 1000000 in
theorem indexV_any (p : Clu → Bool) (k : Nat) (first cap : Array Value) (A : Option Addr) (n cp : Nat) (C : List Clu) (w : World) (hm : n ≤ 9223372036854775807) (hk : KCl w A n C) (ha : AsksV p k first cap C n w) :
    Calls Try.prog 179 #[.slice A n cp, .func (.func k) first cap] w fun e w' => ((∃ j : Nat, j < n ∧ e = .returned (.int .i64 j) ∧ anyU p C n = true) ∨ (e = .returned (.int .i64 (-1)) ∧ anyU p C n = false)) ∧ Below w.heap.size w w' := by
  have HK := Lib.hid hk
  have HA := Lib.hid ha
  have eg := ha.enters
  clear hk ha
  go_enter Try.func179, Try.ntmps179
  go_wp2_with fail
  go_loopw [5, 8] (fun _ i wr => ∃ j : Nat, j ≤ n ∧ i = .int .i64 j ∧ (∀ t, t < j → p (cAt C t) = false) ∧ Below w.heap.size w wr) (fun _ i _ => n - (intOf i).toNat)
  case atStart => exact ⟨0, Nat.zero_le _, rfl, fun _ h => by omega, Below.refl _ _⟩
  case round =>
    obtain ⟨j, hj, rfl, hno, hb⟩ := hrel
    have HS := Lib.hid hno
    clear hno
    by_cases hlt : j < n
    · obtain ⟨b, off, rfl, hcl⟩ := (HK.out.now hb).get (by omega)
      obtain ⟨hc0, hc1, hc2⟩ := hcl.at hlt
      have hbl := hcl.lt
      have HC := Lib.hid (HA.out.gives wr j hlt hb)
      have HP := Lib.hid (show p ((cAt C j).1, (cAt C j).2.1, (cAt C j).2.2) = p (cAt C j) from rfl)
      clear hcl
      rw [HP.out] at HC
      obtain ⟨c, hc⟩ : ∃ c, c = cAt C j := ⟨_, rfl⟩
      rw [← hc] at HC hc0 hc1 hc2
      have HCC := Lib.hid hc
      clear hc HP
      obtain ⟨x, y, z⟩ := c
      simp only at hc0 hc1 hc2 HC
      cases hp : p (x, y, z) with
      | true =>
        have HW := Lib.hid (anyU_yes (C := C) hlt (by rw [← HCC.out]; exact hp))
        rw [hp] at HC
        clear hp
        go_wp2_with (go_at_fn k; refine HC.out.mono ?_; rintro e w' ⟨rfl, hb'⟩)
        go_ret
        exact ⟨Or.inl ⟨j, hlt, rfl, HW.out⟩, bfrom hb hb'⟩
      | false =>
        have HW := Lib.hid (show ∀ t, t < j + 1 → p (cAt C t) = false from fun t ht => by
          by_cases e : t = j
          · subst e; rw [← HCC.out]; exact hp
          · exact HS.out t (by omega))
        rw [hp] at HC
        clear hp
        go_wp2_with (go_at_fn k; refine HC.out.mono ?_; rintro e w' ⟨rfl, hb'⟩)
        go_roundw
        case rel => exact ⟨j + 1, by omega, by go_num, HW.out, bfrom hb hb'⟩
        case measure => simp [intOf]; omega
    · obtain rfl : j = n := by omega
      have HW := Lib.hid (anyU_no (C := C) HS.out)
      go_wp2
      go_ret
      exact ⟨Or.inr ⟨rfl, HW.out⟩, hb⟩

set_option maxHeartbeats 1000000 in
theorem containsV_any (p : Clu → Bool) (k : Nat) (first cap : Array Value) (A : Option Addr) (n cp : Nat) (C : List Clu) (w : World) (hm : n ≤ 9223372036854775807) (hk : KCl w A n C) (ha : AsksV p k first cap C n w) :
    Calls Try.prog 144 #[.slice A n cp, .func (.func k) first cap] w fun e w' => e = .returned (.bool (anyU p C n)) ∧ Below w.heap.size w w' := by
  have HI := Lib.hid (indexV_any p k first cap A n cp C w hm hk ha)
  clear hk ha
  go_enter Try.func144, Try.ntmps144
  go_wp2_with fail
  refine HI.out.mono ?_
  rintro e w1 ⟨h, hb⟩
  rcases h with ⟨j, hj, rfl, hw⟩ | ⟨rfl, hw⟩
  · have HW := Lib.hid hw
    clear hw
    have h0 : (0 : Int) ≤ (j : Int) := by omega
    go_wp2
    go_ret
    exact ⟨by rw [HW.out]; first | rfl | simp, hb⟩
  · have HW := Lib.hid hw
    clear hw
    go_wp2
    go_ret
    exact ⟨by rw [HW.out]; rfl, hb⟩

set_option maxRecDepth 20000 in
set_option maxHeartbeats 2000000 in
theorem isAgainst_any (S : List Nat) (n base k cap : Nat) (A : Option Addr) (kk a b : Int) (w : World) (hn : n ≤ 4) (hk : k = S.length) (hs : k ≤ 1048576) (hS : ∀ t ∈ S, t < 2^n) (h1 : w.ownsRow base 107 1 (.slice A k cap) k (setsV S)) (hask : AskK n (kk, a, b)) :
    Calls Try.prog 150 #[.agg #[.int .i64 n, .slice A k cap], .agg #[.int .i64 kk, .int .i64 a, .int .i64 b]] w fun e w' => e = .returned (.bool (!fitK S n (kk, a, b))) ∧ Below w.heap.size w w' := by
  have b0 : Below w.heap.size w ((w.alloc (.cells #[.int .i64 n, .slice A k cap] 95)).alloc (.cells #[.int .i64 kk, .int .i64 a, .int .i64 b] 130)) := (below1 w _).alloc (by simp) _
  have hx := (BoxT.new 95 w (.int .i64 n) (.slice A k cap)).alloc (.cells #[.int .i64 kk, .int .i64 a, .int .i64 b] 130)
  have hy := Bx3.new 130 (w.alloc (.cells #[.int .i64 n, .slice A k cap] 95)) (.int .i64 kk) (.int .i64 a) (.int .i64 b)
  simp only [World.size_alloc] at hy
  obtain ⟨c0, c1⟩ := hx.cells
  obtain ⟨d0, d1, d2⟩ := hy.cells
  have HF := Lib.hid (fits_any S n base k cap A kk a b _ hn hk hs hS (owns_now h1 b0) hask)
  generalize fitK S n (kk, a, b) = r at *
  clear hx hy hk hS h1 hask
  go_enter Try.func150, Try.ntmps150
  go_wp2_with fail
  refine HF.out.mono ?_
  rintro e w2 ⟨rfl, hb2⟩
  go_wp2
  go_ret
  exact ⟨rfl, bfrom b0 hb2⟩

theorem againstV (S : List Nat) (n base k cap : Nat) (A : Option Addr) (C : List Clu) (m : Nat) (w : World) (hn : n ≤ 4) (hk : k = S.length) (hs : k ≤ 1048576) (hS : ∀ t ∈ S, t < 2^n) (h1 : w.ownsRow base 107 1 (.slice A k cap) k (setsV S)) (hask : ∀ j, j < m → AskK n (cAt C j)) :
    AsksV (fun c => !fitK S n c) 150 #[.agg #[.int .i64 n, .slice A k cap]] #[] C m w :=
  ⟨enters_of Try.func150 (by kernel_rfl) rfl, fun W j hj hb => isAgainst_any S n base k cap A _ _ _ W hn hk hs hS (owns_now h1 hb) (hask j hj)⟩
theorem owns_sliceR {w : World} {base : Nat} {e : TypeId} {size : Nat} {v : Value} {n : Nat} {xs : List Value} (h : w.ownsRow base e size v n xs) : ∃ B cp, v = .slice B n cp := by
  rcases h.2 with ⟨h, hz⟩ | ⟨q, cp', cur, hv, _⟩
  · exact ⟨none, 0, by rw [h, hz]⟩
  · exact ⟨_, _, hv⟩
def fitAll (m : Nat) (C : List Clu) (k : Nat) (S : List Nat) : Bool := !anyU (fun c => !fitK S m c) C k
theorem filterL_succ (P : List Nat → Bool) (L : List (List Nat)) (j : Nat) (h : j < L.length) : (L.take (j+1)).filter P = (L.take j).filter P ++ if P (L.getD j []) then [L.getD j []] else [] := by
  rw [List.take_add_one, List.filter_append]
  congr 1
  rw [List.getElem?_eq_getElem h, List.getD_eq_getElem?_getD, List.getElem?_eq_getElem h]
  simp [List.filter_cons]

set_option maxRecDepth 20000 in
set_option maxHeartbeats 8000000 in
theorem gamesThatFit_any (m base : Nat) (Ls : List (List Nat)) (v0 : Value) (A : Option Addr) (k cap : Nat) (C : List Clu) (w : World) (hm : m ≤ 4) (hN : Ls.length ≤ 1000) (hLs : ∀ i, i < Ls.length → (Ls.getD i []).length ≤ 16 ∧ ∀ s ∈ Ls.getD i [], s < 2^m) (hG : GSb base m Ls v0 w) (hbase : base ≤ w.heap.size) (hk8 : k ≤ 1048576) (hk : KCl w A k C) (hask : ∀ j, j < k → AskK m (cAt C j)) :
    Calls Try.prog 100 #[v0, .slice A k cap] w fun e w' => ∃ v', e = .returned v' ∧ GSb base m (Ls.filter (fitAll m C k)) v' w' ∧ Below w.heap.size w w' := by
  obtain ⟨i1, hi1, hy0, hy1, hy2⟩ := info_parts infoSG
  obtain ⟨N, hNN⟩ : ∃ N : Nat, N = Ls.length := ⟨_, rfl⟩
  have HN := Lib.hid hNN
  have hN9 : N ≤ 1000 := by omega
  have HGET := Lib.hid hLs
  have HK := Lib.hid hk
  have HASK := Lib.hid hask
  obtain ⟨xs, G, Cc, hown, hgs⟩ := hG
  rw [← hNN] at hown
  obtain ⟨A0, cap0, rfl⟩ := owns_sliceR hown
  have HO := Lib.hid hown
  have HGS := Lib.hid hgs
  clear hLs hk hask hgs hNN hN
  go_enter Try.func100, Try.ntmps100
  go_wp2_with fail
  go_loopw [5, 10] (fun u i wr => ∃ (j : Nat) (vv : Value), j ≤ N ∧ i = .int .i64 j ∧ vv = u ∧ GSb base m ((Ls.take j).filter (fitAll m C k)) vv wr ∧ Below w.heap.size w wr ∧ ∀ g, vv.ownBlock = some g → w.heap.size ≤ g) (fun _ i _ => N - (intOf i).toNat)
  case atStart => exact ⟨0, _, Nat.zero_le _, rfl, rfl, by simpa using GSb.nil base m w, Below.refl _ _, fun g h => by simp [Value.ownBlock] at h⟩
  case round =>
    obtain ⟨j, vv, hj, rfl, rfl, hcur, hbr, hvv⟩ := hrel
    have HB := Lib.hid hbr
    have HCUR := Lib.hid hcur
    have HVV := Lib.hid hvv
    clear hbr hcur hvv
    by_cases hlt : j < N
    · obtain ⟨g, cp', hv, hg, hc1, hc2⟩ := owns_headS hown (by omega)
      obtain ⟨rfl, rfl⟩ : A0 = some ⟨g, 0, none⟩ ∧ cap0 = cp' := by simpa using hv
      obtain ⟨x0, x1, _, ho⟩ := HGS.out j (by rw [← HN.out]; exact hlt)
      obtain ⟨h16, h512⟩ := HGET.out j (by rw [← HN.out]; exact hlt)
      have HS := Lib.hid (filterL_succ (fitAll m C k) Ls j (by rw [← HN.out]; exact hlt))
      have hlo := owns_now HO.out HB.out
      have hc0 : wr.cell? ⟨g, j * 2, none⟩ = some (.int .i64 m) := by rw [hlo.cellAt (j*2) (by have := hown.1; omega)]; exact x0
      have hc1' : wr.cell? ⟨g, j * 2 + 1, none⟩ = some (.slice (some ⟨G j, 0, none⟩) (Ls.getD j []).length (Cc j)) := by rw [hlo.cellAt (j*2+1) (by have := hown.1; omega)]; exact x1
      obtain ⟨S, hS⟩ : ∃ S, S = Ls.getD j [] := ⟨_, rfl⟩
      rw [← hS] at hc1' ho h16 h512 HS
      obtain ⟨kk, hkk⟩ : ∃ kk, kk = S.length := ⟨_, rfl⟩
      rw [← hkk] at hc1' ho h16
      have b6 := below1 wr (.cells #[.int .i64 m, .slice (some ⟨G j, 0, none⟩) kk (Cc j)] 95)
      have hx := BoxT.new 95 wr (.int .i64 m) (.slice (some ⟨G j, 0, none⟩) kk (Cc j))
      have HROW := Lib.hid (show ∀ W, Below w.heap.size w W → W.ownsRow base 107 1 (.slice (some ⟨G j, 0, none⟩) kk (Cc j)) kk (setsV S) from fun W h => owns_now ho h)
      have HGJ := Lib.hid (ho.lt (G j) rfl)
      have HF := Lib.hid (containsV_any _ _ _ _ A k cap C _ (by omega) ((HK.out.now HB.out).now b6) (againstV S m base kk (Cc j) (some ⟨G j, 0, none⟩) C k _ hm hkk (by omega) h512 (owns_now (HROW.out _ HB.out) b6) HASK.out))
      have HQ := Lib.hid (show fitAll m C k S = !anyU (fun c => !fitK S m c) C k from rfl)
      have HKK := Lib.hid hkk
      have hzr := HB.out.size
      clear x0 x1 ho hlo hv hS hkk h512
      generalize anyU (fun c => !fitK S m c) C k = r at *
      obtain ⟨x60, x61⟩ := hx.cells
      cases r with
      | true =>
        rw [HQ.out] at HS
        have HS2 := Lib.hid (show (Ls.take (j+1)).filter (fitAll m C k) = (Ls.take j).filter (fitAll m C k) from by rw [HS.out]; simp)
        clear HS
        go_wp2_with fail
        refine HF.out.mono ?_
        rintro e w2 ⟨rfl, hb2⟩
        have hb12 := bfrom b6 hb2
        clear x60 x61
        go_wp2
        go_roundw
        case rel => exact ⟨j + 1, _, by omega, by go_num, rfl, by rw [HS2.out]; exact HCUR.out.now hb12, HB.out.trans (hb12.mono hzr), HVV.out⟩
        case measure => simp [intOf]; omega
      | false =>
        rw [HQ.out] at HS
        have HS2 := Lib.hid (show (Ls.take (j+1)).filter (fitAll m C k) = (Ls.take j).filter (fitAll m C k) ++ [S] from by rw [HS.out]; simp)
        clear HS
        go_wp2_with fail
        refine HF.out.mono ?_
        rintro e w2 ⟨rfl, hb2⟩
        have hb12 := bfrom b6 hb2
        obtain ⟨x70, x71⟩ := (hx.now hb2).cells
        obtain ⟨M, hM⟩ : ∃ M, M = (Ls.take j).filter (fitAll m C k) := ⟨_, rfl⟩
        rw [← hM] at HCUR HS2
        obtain ⟨n, hn⟩ : ∃ n, n = M.length := ⟨_, rfl⟩
        have hnj : n ≤ 1000 := by
          have h1 := List.length_filter_le (fitAll m C k) (Ls.take j)
          rw [← hM, List.length_take] at h1
          omega
        obtain ⟨ys, G', C', ho2, hgs2⟩ := HCUR.out.now hb12
        rw [← hn] at ho2
        obtain ⟨Av, cv, rfl⟩ := owns_sliceR ho2
        have HO2 := Lib.hid ho2
        have HGS2 := Lib.hid hgs2
        have HNM := Lib.hid hn
        have HW2 := Lib.hid (HB.out.trans (hb12.mono hzr))
        have hz2 := hb12.size
        have HLT := Lib.hid (fun k h => ho2.lt k h)
        clear ho2 hgs2 hn hM x60 x61
        go_wp2_with (first
          | (at_builtin; refine wpList_append_lies _ rfl _ _ _ rfl base 95 i1 _ 2 32 Try.underlying82 hi1 hy0 hy1 hy2 rfl (by decide) (.slice Av n cv) n ys rfl (HO2.out.alloc _) ⟨w2.heap.size, 0, none⟩ 1 1 [.int .i64 m, .slice (some ⟨G j, 0, none⟩) kk (Cc j)] rfl rfl (World.news_of_block (cs := #[.int .i64 m, .slice (some ⟨G j, 0, none⟩) kk (Cc j)]) (t := 95) (fr := (0, 0)) (heap_alloc_new w2 _)) (by simp [Value.oneCell']) (by omega) (by unfold maxLen; omega) (by omega) (by simp; omega) (w2.heap.size + 1) (by simp) ?_; intro gg cap3 w7 hown7 hgrow7 hat7 hlt7)
          | fail)
        have HR := Lib.hid ((HROW.out _ HW2.out).alloc (.cells #[.int .i64 m, .slice (some ⟨G j, 0, none⟩) kk (Cc j)] 95))
        have hne : some (G j) ≠ (Value.slice Av n cv).ownBlock := fun e => by
          have h1 := HVV.out _ e.symm
          have h2 := HGJ.out
          omega
        have hpush := GSb.push (Ls := M) (l := S) (w := w2.alloc (.cells #[.int .i64 m, .slice (some ⟨G j, 0, none⟩) kk (Cc j)] 95)) HNM.out HKK.out ys G' C' (fun i hi => ⟨(HGS2.out i hi).1, (HGS2.out i hi).2.1, (HGS2.out i hi).2.2.1, (HGS2.out i hi).2.2.2.alloc _⟩) HO2.out.1 HR.out hne hown7 hgrow7 hat7 (by simp)
        have hb7 : Below w.heap.size w w7 := Below.grown (HW2.out.alloc HW2.out.size _) hgrow7 (by have := HW2.out.size; simp; omega) (fun i hi => HVV.out i hi)
        have hv7 : ∀ q, (Value.slice (some ⟨gg, 0, none⟩) (n + 1) cap3).ownBlock = some q → w.heap.size ≤ q := fun q hq => by
          have hq : gg = q := by simpa [Value.ownBlock] using hq
          rcases hat7 with h | h
          · have := HVV.out _ h; omega
          · have := HW2.out.size; omega
        have HPU := Lib.hid hpush
        clear hown7 hgrow7 hat7 hpush
        go_roundw
        case rel => exact ⟨j + 1, _, by omega, by go_num, rfl, by rw [HS2.out]; exact HPU.out, hb7, hv7⟩
        case measure => simp [intOf]; omega
    · obtain rfl : j = N := by omega
      go_wp2
      go_ret
      exact ⟨_, rfl, by have h := HCUR.out; rw [HN.out, List.take_length] at h; exact h, HB.out⟩
end Go.Proofs.Ytnldodnpakpeeaa

namespace Go.Proofs.Ytnldodnpakpeeaa
open Go.RowKit Vo

/-- Block h holds a riddle whose clues and games lie in rows of the call's own. -/
def RdAt (base m : Nat) (C : List Clu) (h : Nat) (w : World) : Prop :=
  base ≤ h ∧ ∃ (A : Option Addr) (n cp : Nat) (v : Value), C.length = n ∧ Bx3 88 w h (.int .i64 m) (.slice A n cp) v ∧ OwnCl w base (.slice A n cp) C ∧ GSb base m (gamesK m) v w
theorem RdAt.now {base m : Nat} {C : List Clu} {h : Nat} {w w' : World} (k : RdAt base m C h w) (hb : Below w.heap.size w w') : RdAt base m C h w' := by
  obtain ⟨h0, A, n, cp, v, h1, h2, h3, h4⟩ := k
  exact ⟨h0, A, n, cp, v, h1, h2.now hb, owns_now h3 hb, h4.now hb⟩
theorem OwnCl.kcl {w : World} {base n cap : Nat} {A : Option Addr} {C : List Clu} (hn : C.length = n) (h : OwnCl w base (.slice A n cap) C) : KCl w A n C := RCl.kcl (Lies.here (OwnCl.rcl hn h))
theorem GSb.slice {base m : Nat} {Ls : List (List Nat)} {v : Value} {w : World} (h : GSb base m Ls v w) : ∃ B cp, v = .slice B Ls.length cp := by
  obtain ⟨xs, G, C, ho, h⟩ := h
  exact owns_sliceR ho
theorem GSb.low {base base' m : Nat} {Ls : List (List Nat)} {v : Value} {w : World} (h : GSb base m Ls v w) (hb : base' ≤ base) : GSb base' m Ls v w := by
  obtain ⟨xs, G, C, ho, h⟩ := h
  exact ⟨xs, G, C, owns_base2 ho hb, fun i hi => ⟨(h i hi).1, (h i hi).2.1, (h i hi).2.2.1, owns_base2 (h i hi).2.2.2 hb⟩⟩

set_option maxRecDepth 20000 in
set_option maxHeartbeats 4000000 in
theorem readRiddle_any (m : Int) (A : Option Addr) (n cap : Nat) (C : List Clu) (w : World) (hl : n ≤ 1048576) (hk : KCl w A n C) :
    Calls Try.prog 58 #[.agg #[.int .i64 m, .slice A n cap]] w fun e w' => ((puzB m C = false ∧ e = .returned (.tuple #[.pointer none, .bool false])) ∨ (puzB m C = true ∧ ∃ (q h : Nat), m = q ∧ 1 ≤ q ∧ q ≤ 4 ∧ e = .returned (.tuple #[.pointer (some ⟨h, 0, none⟩), .bool true]) ∧ RdAt w.heap.size q C h w')) ∧ Below w.heap.size w w' := by
  have b0 := below1 w (.cells #[.int .i64 m, .slice A n cap] 28)
  have hx := BoxT.new 28 w (.int .i64 m) (.slice A n cap)
  obtain ⟨c0, c1⟩ := hx.cells
  have HR := Lib.hid (readPuzzle_any m A n cap C _ hl (hk.now b0))
  clear hk
  cases hp : puzB m C with
  | false =>
    rw [hp] at HR
    clear hp
    go_enter Try.func58, Try.ntmps58
    go_wp2_with fail
    refine HR.out.mono ?_
    rintro e w1 ⟨m', A', n', cp', C', rfl, hn', h8, ho, hb1, hyes⟩
    have g1 := bfrom b0 hb1
    clear c0 c1 hx ho hyes
    go_wp2
    go_ret2
    exact ⟨Or.inl ⟨by first | rfl | trivial, rfl⟩, g1.alloc g1.size _⟩
  | true =>
    have hm : ∃ q : Nat, m = q ∧ 1 ≤ q ∧ q ≤ 4 := by
      cases hb : inB m 1 4 with
      | false => rw [puzB_size hb] at hp; cases hp
      | true => simp [inB] at hb; exact ⟨m.toNat, by omega, by omega, by omega⟩
    obtain ⟨q, rfl, hq1, hq4⟩ := hm
    rw [hp] at HR
    clear hp
    go_enter Try.func58, Try.ntmps58
    go_wp2_with fail
    refine HR.out.mono ?_
    rintro e w1 ⟨m', A', n', cp', C', rfl, hn', h8, ho, hb1, hyes⟩
    obtain ⟨rfl, rfl⟩ := hyes (by first | rfl | trivial)
    have g1 := bfrom b0 hb1
    have b2 := below1 w1 (.cells #[.int .i64 (q : Nat), .slice A' n' cp'] 28)
    have hy := BoxT.new 28 w1 (.int .i64 (q : Nat)) (.slice A' n' cp')
    have HO := Lib.hid (show OwnCl (w1.alloc (.cells #[.int .i64 (q : Nat), .slice A' n' cp'] 28)) w.heap.size (.slice A' n' cp') C' from owns_base2 (owns_now ho b2) b0.size)
    have g2 := bfrom g1 b2
    obtain ⟨y0, y1⟩ := hy.cells
    clear c0 c1 hx ho b0 hb1 g1
    go_wp2_with fail
    obtain ⟨w2, hw2⟩ : ∃ w2, w2 = w1.alloc (.cells #[.int .i64 (q : Nat), .slice A' n' cp'] 28) := ⟨_, rfl⟩
    rw [← hw2] at b2 hy HO g2 y0 y1
    rw [← hw2]
    clear hw2 b2
    have hz2 := g2.size
    have HN := Lib.hid hn'
    clear hn'
    have K := Lib.hid (show ∀ W, Below w2.heap.size w2 W → W.cell? ⟨w1.heap.size, 0, none⟩ = some (.int .i64 (q : Nat)) ∧ W.cell? ⟨w1.heap.size, 1, none⟩ = some (.slice A' n' cp') from fun W h => (hy.now h).cells)
    go_region_held3 (fun w' => w'.cell? ⟨w1.heap.size, 0, none⟩ = some (.int .i64 (q : Nat)) ∧ w'.cell? ⟨w1.heap.size, 1, none⟩ = some (.slice A' n' cp'))
      (first | exact ⟨y0, y1⟩ | exact K.out _ b3 | exact K.out _ (b3.alloc b3.size _) | go_keep)
      (first
        | (go_at_call 99; refine (gamesOf_any q _ ⟨hq1, hq4⟩).mono ?_; rintro e w3 ⟨v', rfl, hgs, hb3⟩; obtain ⟨Bq, cq, rfl⟩ := GSb.slice hgs; have b3 := bfrom (Below.refl _ w2).drew hb3; have HG3 := Lib.hid (show GSb w2.heap.size q (gamesK q) (.slice Bq (gamesK q).length cq) w3 from hgs); clear hgs)
        | fail)
    have HB3 := Lib.hid (b3.alloc b3.size (.cells #[.int .i64 (q : Nat), .slice A' n' cp', .slice Bq (gamesK q).length cq] 88))
    have HR3 := Lib.hid (show RdAt w.heap.size q C' w3.heap.size (w3.alloc (.cells #[.int .i64 (q : Nat), .slice A' n' cp', .slice Bq (gamesK q).length cq] 88)) from
      ⟨Nat.le_trans hz2 b3.size, A', n', cp', _, HN.out, Bx3.new 88 w3 _ _ _, owns_now (owns_now HO.out b3) (below1 w3 _), (HG3.out.low hz2).now (below1 w3 _)⟩)
    go_wp2
    go_ret2
    exact ⟨Or.inr ⟨by first | rfl | trivial, q, _, rfl, hq1, hq4, rfl, HR3.out⟩, g2.trans (HB3.out.mono hz2)⟩

def solK (m : Nat) (C : List Clu) : List (List Nat) := (gamesK m).filter (fitAll m C C.length)
theorem solK_len (m : Nat) (C : List Clu) (h1 : 1 ≤ m) (h2 : m ≤ 4) : (solK m C).length ≤ 1000 := Nat.le_trans (List.length_filter_le _ _) (gamesK_le m h1 h2)
theorem puzB_asks {q : Nat} {C : List Clu} (h : puzB (q : Int) C = true) (h1 : 1 ≤ q) (h4 : q ≤ 4) : ∀ j, j < C.length → AskK q (cAt C j) := by
  intro j hj
  have hb : inB (q : Int) 1 4 = true := by simp [inB]; omega
  rw [puzB_at hb (puzB_le h)] at h
  refine clueB_ask ?_
  cases hc : clueB q (cAt C j) with
  | true => rfl
  | false =>
    rw [anyU_yes (p := fun c => !clueB q c) hj (by rw [hc]; rfl)] at h
    cases h

set_option maxRecDepth 20000 in
set_option maxHeartbeats 4000000 in
theorem solutions_any (base m : Nat) (C : List Clu) (h : Nat) (w : World) (h1 : 1 ≤ m) (h4 : m ≤ 4) (hb : base ≤ w.heap.size) (hp : puzB (m : Int) C = true) (hr : RdAt base m C h w) :
    Calls Try.prog 59 #[.pointer (some ⟨h, 0, none⟩)] w fun e w' => ∃ v', e = .returned v' ∧ GSb base m (solK m C) v' w' ∧ Below w.heap.size w w' := by
  obtain ⟨h0, A, n, cp, v, hn, hx, hc, hg⟩ := hr
  have h8 := puzB_le hp
  have HF := Lib.hid (fun W (hW : Below w.heap.size w W) => gamesThatFit_any m base (gamesK m) v A n cp C W h4 (gamesK_le m h1 h4) (fun i hi => gamesK_get h1 h4 hi) (hg.now hW) (Nat.le_trans hb hW.size) (by omega) ((OwnCl.kcl hn hc).now hW) (fun j hj => puzB_asks hp h1 h4 j (by omega)))
  obtain ⟨x0, x1, x2⟩ := hx.cells
  have K := Lib.hid (show ∀ W, Below w.heap.size w W → W.cell? ⟨h, 0, none⟩ = some (.int .i64 (m : Nat)) ∧ W.cell? ⟨h, 1, none⟩ = some (.slice A n cp) ∧ W.cell? ⟨h, 2, none⟩ = some v from fun W hW => (hx.now hW).cells)
  have HS := Lib.hid (show (gamesK m).filter (fitAll m C n) = solK m C from by rw [← hn]; rfl)
  clear hc hg hp hx hn
  go_enter Try.func59, Try.ntmps59
  go_wp2_with fail
  go_region_held3 (fun w' => w'.cell? ⟨h, 0, none⟩ = some (.int .i64 (m : Nat)) ∧ w'.cell? ⟨h, 1, none⟩ = some (.slice A n cp) ∧ w'.cell? ⟨h, 2, none⟩ = some v)
    (first | exact ⟨x0, x1, x2⟩ | exact K.out _ b3 | go_keep)
    (first
      | (go_at_call 100; refine (HF.out _ (Below.refl _ _).drew).mono ?_; rintro e w3 ⟨v', rfl, hgs, hb3⟩; obtain ⟨Bq, cq, rfl⟩ := GSb.slice hgs; have b3 := bfrom (Below.refl _ w).drew hb3)
      | fail)
  rw [HS.out] at hgs
  have HG := Lib.hid hgs
  clear hgs
  go_wp2
  go_ret
  exact ⟨_, rfl, by have := HG.out; rw [← HS.out] at this ⊢; exact this, b3⟩

set_option maxRecDepth 20000 in
set_option maxHeartbeats 4000000 in
theorem isSolved_any (base m : Nat) (C : List Clu) (h : Nat) (w : World) (h1 : 1 ≤ m) (h4 : m ≤ 4) (hb : base ≤ w.heap.size) (hp : puzB (m : Int) C = true) (hr : RdAt base m C h w) :
    Calls Try.prog 62 #[.pointer (some ⟨h, 0, none⟩)] w fun e w' => e = .returned (.bool (decide ((solK m C).length = 1))) ∧ Below w.heap.size w w' := by
  have HS := Lib.hid (solutions_any base m C h w h1 h4 hb hp hr)
  obtain ⟨R, hR⟩ : ∃ R, R = decide ((solK m C).length = 1) := ⟨_, rfl⟩
  have HR := Lib.hid (show R = decide (((solK m C).length : Int) = 1) from by rw [hR]; congr 1; exact propext (by omega))
  rw [← hR]
  clear hR hp hr
  go_enter Try.func62, Try.ntmps62
  go_wp2_with fail
  refine HS.out.mono ?_
  rintro e w2 ⟨v', rfl, hgs, hb2⟩
  obtain ⟨Bq, cq, rfl⟩ := GSb.slice hgs
  clear hgs
  generalize (solK m C).length = N at *
  go_wp2
  go_ret
  exact ⟨by rw [HR.out]; rfl, hb2⟩

end Go.Proofs.Ytnldodnpakpeeaa
