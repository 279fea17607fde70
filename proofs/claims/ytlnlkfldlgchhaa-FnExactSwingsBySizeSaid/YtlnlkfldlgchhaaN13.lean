/- Contracts of members asked for, and of SwingsBySize, the program's and the model's. -/
import Derived.Test.YtlnlkfldlgchhaaN7
import Derived.Outline
namespace Go.Proofs.Ytlnlkfldlgchhaa
open Go.RowKit Vo

/-- There are a committee and a member of it. -/
def memOk (q : Int) (ws : List Int) (n : Nat) (x : Int) : Bool := goodB q ws n && inB x 0 ((n : Int) - 1)
theorem memOk_parts {q ws n x} (h : memOk q ws n x = true) : Vo.Good q ws n ∧ 0 ≤ x ∧ x < n := by
  unfold memOk goodB inB at h
  simp at h
  exact ⟨h.1, h.2.1, by omega⟩

set_option maxHeartbeats 400000 in
theorem isMember_any (n : Nat) (x : Int) (w : World) (_hn : n ≤ 9223372036854775807) :
    Calls Try.prog 96 #[.int .i64 n, .int .i64 x] w fun e w' => e = .returned (.bool (inB x 0 ((n : Int) - 1))) ∧ w = w' := by
  by_cases h1 : 0 ≤ x
  · by_cases h2 : x < n
    · have H := Lib.hid (inB_yes (x := x) (lo := 0) (hi := (n : Int) - 1) h1 (by omega))
      go_enter Try.func96, Try.ntmps96
      go_wp2
      go_ret
      exact ⟨by rw [H.out]; rfl, rfl⟩
    · have H := Lib.hid (inB_no (x := x) (lo := 0) (hi := (n : Int) - 1) (by omega))
      go_enter Try.func96, Try.ntmps96
      go_wp2
      go_ret
      exact ⟨by rw [H.out]; rfl, rfl⟩
  · have H := Lib.hid (inB_no (x := x) (lo := 0) (hi := (n : Int) - 1) (by omega))
    have hd : decide (0 ≤ x) = false := by simpa using h1
    go_enter Try.func96, Try.ntmps96
    go_wp2
    go_ret
    exact ⟨by rw [H.out]; simp, rfl⟩

set_option maxHeartbeats 1000000 in
theorem pwMember_any (q : Int) (A : Option Addr) (n cap : Nat) (ws : List Int) (x : Int) (w : World) (hm : n ≤ 9223372036854775807) (hk : Known w A n ws) :
    Calls Try.prog 59 #[.agg #[.int .i64 q, .slice A n cap], .int .i64 x] w fun e w' => e = .returned (.bool (memOk q ws n x)) ∧ Below w.heap.size w w' := by
  have HK := Lib.hid hk
  clear hk
  have hx := Box.new w (.int .i64 q) (.slice A n cap)
  have hb0 := below1 w (.cells #[.int .i64 q, .slice A n cap] 28)
  by_cases hg : Vo.Good q ws n
  · have HGB := Lib.hid (goodB_true hg)
    have hn9 := hg.hi
    clear hg
    go_enter Try.func59, Try.ntmps59
    go_wp2_with fail
    refine (voGood_any q A n cap ws _ hm (HK.out.now hb0)).mono ?_
    rintro e w1 ⟨rfl, hb⟩
    rw [HGB.out]
    obtain ⟨hc0, hc1⟩ := (hx.now hb).cells
    go_wp2_with (go_at_call 87; refine (l1In_any x 0 _ _).mono ?_; rintro e w2 ⟨rfl, rfl⟩)
    go_ret
    exact ⟨by unfold memOk; rw [HGB.out]; simp, bfrom hb0 hb⟩
  · have HGB := Lib.hid (goodB_false hg)
    clear hg
    go_enter Try.func59, Try.ntmps59
    go_wp2_with fail
    refine (voGood_any q A n cap ws _ hm (HK.out.now hb0)).mono ?_
    rintro e w1 ⟨rfl, hb⟩
    rw [HGB.out]
    go_wp2
    go_ret
    exact ⟨by unfold memOk; rw [HGB.out]; simp, bfrom hb0 hb⟩

theorem Ans.none_ {w w' : World} (hb : Below w.heap.size w w') : Ans (RS []) false w w' (.returned (.tuple #[.slice none 0 0, .bool false])) :=
  ⟨_, rfl, RS.lies ⟨none, 0, rfl, Or.inl rfl⟩ (Nat.le_refl _), hb⟩

/-- How many swings of a member have 0, 1, .. members. -/
def bySizeL (q : Int) (ws : List Int) (n : Nat) (x : Int) : List Int := okL (memOk q ws n x) (perL (sizN (winB q ws n) x.toNat (2^n)) n)
theorem bySizeL_len (q : Int) (ws : List Int) (n : Nat) (x : Int) : (bySizeL q ws n x).length ≤ 1048576 := by
  cases h : memOk q ws n x with
  | true => exact okL_len (by rw [perL_len]; have := (memOk_parts h).1.hi; omega)
  | false => unfold bySizeL; rw [okL_no h]; simp

/-- How many of these sets have a size. -/
def sizL (L : List Nat) (z : Nat) : Nat := (L.filter fun s => decide (sz s = z)).length
theorem sizL_swL (p : Nat → Bool) (k N z : Nat) : sizL (swL p k N) z = sizN p k N z := by
  induction N with
  | zero => rfl
  | succ N ih =>
    rw [sizN_succ, ← ih, swL_succ]
    unfold sizL
    rw [List.filter_append, List.length_append]
    congr 1
    cases swP p k N
    · simp
    · by_cases h : sz N = z
      · simp [h]
      · simp [h]
theorem sizL_take {L : List Nat} {j : Nat} (z : Nat) (h : j < L.length) : sizL (L.take (j+1)) z = sizL (L.take j) z + if sz (L.getD j 0) = z then 1 else 0 := by
  unfold sizL
  rw [List.take_add_one, List.filter_append, List.length_append, List.getElem?_eq_getElem h, List.getD_eq_getElem?_getD, List.getElem?_eq_getElem h]
  congr 1
  by_cases e : sz L[j] = z
  · simp [e]
  · simp [e]
theorem sizL_le (L : List Nat) (j z : Nat) : sizL (L.take j) z ≤ j := Nat.le_trans (List.length_filter_le _ _) (List.length_take_le j L)

set_option maxRecDepth 20000 in
set_option maxHeartbeats 4000000 in
theorem sSwingsBySize_ans (q : Int) (A : Option Addr) (n cap : Nat) (ws : List Int) (x : Int) (w : World) (hm : n ≤ 9223372036854775807) (hk : Known w A n ws) (_hx : (Lit.int .i64 x).wf = true) :
    Calls Try.prog 26 #[.agg #[.int .i64 q, .slice A n cap], .int .i64 x] w fun e w' => Ans (RS (bySizeL q ws n x)) (memOk q ws n x) w w' e := by
  have HK := Lib.hid hk
  clear hk
  have hx := Box.new w (.int .i64 q) (.slice A n cap)
  have hb0 := below1 w (.cells #[.int .i64 q, .slice A n cap] 28)
  cases hok : memOk q ws n x with
  | true =>
    obtain ⟨hg, hx0, hxn⟩ := memOk_parts hok
    obtain ⟨b, off, rfl, hsl⟩ := HK.out.get hg.lo
    have HSL := Lib.hid hsl
    have HOK := Lib.hid hg.ok
    have hn9 := hg.hi
    have hn10 : n < 10 := by omega
    have HM := Lib.hid hok
    have HE := Lib.hid (show bySizeL q ws n x = perL (sizN (winB q ws n) x.toNat (2^n)) n from okL_yes hok)
    obtain ⟨k, rfl⟩ : ∃ k : Nat, x = k := ⟨x.toNat, by omega⟩
    rw [Int.toNat_natCast] at HE
    have hkn : k < n := by omega
    have h512 := pow_lt hn9
    have hmk := run_make_row' (P := Try.prog) 22 3 (.int .i64 0) 8 Try.underlying22 infoInt rfl .i64 .i64 n (by omega) (by omega)
    have HSL2 := Lib.hid (show ∀ z, sizL (swL (winB q ws n) k (2^n)) z = sizN (winB q ws n) k (2^n) z from fun z => sizL_swL _ _ _ z)
    have HG := Lib.hid (show ∀ j, j < (swL (winB q ws n) k (2^n)).length → (swL (winB q ws n) k (2^n)).getD j 0 < 512 ∧ sz ((swL (winB q ws n) k (2^n)).getD j 0) < n from fun j hj => by
      have := swL_get (p := winB q ws n) (n := n) (k := k) (N := 2^n) (by omega) hkn (Nat.le_refl _) hj
      exact ⟨by omega, this.2⟩)
    have hll : (swL (winB q ws n) k (2^n)).length ≤ 512 := Nat.le_trans (swL_le _ k (2^n)) h512
    clear hg hsl hok
    go_enter Try.func26, Try.ntmps26
    go_wp2_with fail
    refine (pwMember_any q _ n cap ws k _ hm (HK.out.now hb0)).mono ?_
    rintro e w1 ⟨rfl, hb⟩
    rw [HM.out]
    have hx1 := hx.now hb
    have g1 := bfrom hb0 hb
    have hz1 : w.heap.size < w1.heap.size := hx1.lt
    obtain ⟨hc0, hc1⟩ := hx1.cells
    have b1a := below1 w1 (.cells (madeCells #[.int .i64 0] n) 3)
    have HO1 := Lib.hid (show Own (w1.alloc (.cells (madeCells #[.int .i64 0] n) 3)) w1.heap.size 3 n (fun _ => .int .i64 0) from (Own.of_row (World.rowIs_made w1 (.int .i64 0) n 3)))
    have hs1 := Lib.hid ((HSL.out.now g1).now b1a)
    go_wp2_with (first
      | (go_at_call 53; refine (voWins_any q b off n cap ws _ hn10 HOK.out hs1.out).mono ?_; rintro e w2 ⟨g, cap2, rfl, hg, hown, hb2⟩; have HO2 := Lib.hid hown; clear hown)
      | (go_at_call 60; refine (pwSwings_any (winB q ws n) n k g cap2 _ hn10 hkn HO2.out).mono ?_; rintro e w3 ⟨A5, cap5, rfl, hown3, hb3⟩))
    rw [natsL_len] at hown3 ⊢
    have g3 := bfrom (bfrom g1 b1a) (bfrom hb2 hb3)
    have b13 := bfrom b1a (bfrom hb2 hb3)
    have HO3 := Lib.hid ((HO1.out.now' hb2).now' hb3)
    have hg2 : w1.heap.size + 1 ≤ w2.heap.size := by have := hb2.size; simpa using this
    obtain ⟨L, hL⟩ : ∃ L, swL (winB q ws n) k (2^n) = L := ⟨_, rfl⟩
    rw [hL] at hown3 HSL2 HG hll ⊢
    clear hL
    have HRD3 := Lib.hid (show 0 < L.length → ∃ gl, A5 = some ⟨gl, 0, none⟩ ∧ w1.heap.size + 1 ≤ gl ∧ Own w3 gl 3 L.length (fun i => .int .i64 (L.getD i 0 : Nat)) from fun h => by
      obtain ⟨gl, cp, hv, hgl2, _, _⟩ := owns_head hown3 h
      injection hv with hA _ hc
      subst hA
      exact ⟨gl, rfl, by omega, Own.of_own hown3 (fun i hi => by simp [natsL, List.getD_eq_getElem?_getD, hi])⟩)
    clear hown3 HO1 HO2 hmk hc0 hc1 hb hb2 hb3 hx1 hx
    go_wp2_with fail
    go_loopw [8, 22] (fun _ i wr => ∃ j : Nat, j ≤ L.length ∧ i = .int .i64 j ∧ Own wr w1.heap.size 3 n (fun z => .int .i64 (sizL (L.take j) z : Nat)) ∧ (0 < L.length → ∃ gl, A5 = some ⟨gl, 0, none⟩ ∧ w1.heap.size + 1 ≤ gl ∧ Own wr gl 3 L.length (fun i => .int .i64 (L.getD i 0 : Nat))) ∧ Below w1.heap.size w1 wr) (fun _ i _ => L.length - (intOf i).toNat)
    case atStart => exact ⟨0, Nat.zero_le _, rfl, HO3.out.congr fun i _ => by simp [sizL], HRD3.out, b13⟩
    case round =>
      obtain ⟨j, hj, rfl, hown, hrd, hbr⟩ := hrel
      have HO := Lib.hid hown
      have HRD := Lib.hid hrd
      clear hown hrd
      by_cases hlt : j < L.length
      · obtain ⟨gl, hA, hgl, hol⟩ := HRD.out (by omega)
        have HOL := Lib.hid hol
        subst hA
        have hcell := hol.cell hlt
        have hgll := hol.lt
        obtain ⟨hs512, hsz⟩ := HG.out j hlt
        have HST := Lib.hid (fun z => sizL_take z hlt)
        have hle := sizL_le L j (sz (L.getD j 0))
        clear hol
        generalize L.getD j 0 = s at *
        have HZ := Lib.hid (show (mem s 9).length = sz s from rfl)
        obtain ⟨z, hz⟩ : ∃ z, z = sz s := ⟨_, rfl⟩
        rw [← hz] at HZ hsz hle
        have HZE := Lib.hid hz
        clear hz
        go_wp2_with (first
          | (go_at_call 61; refine (voList_any s _ hs512).mono ?_; rintro e w6 ⟨A6, cap6, rfl, hown6, hb6⟩; rw [HZ.out]; have HO6 := Lib.hid (HO.out.now' hb6); have hold := HO6.out.cell hsz; have hfr := HO6.out.frozen z; have hgl6 := HO6.out.lt; clear hown6))
        have HSET := Lib.hid (HO6.out.set z (.int .i64 ((sizL (L.take j) z : Nat) + 1)))
        have b7 := (hbr.trans (hb6.mono hbr.size)).setCell (p := ⟨w1.heap.size, z, none⟩) (Nat.le_refl _) (.int .i64 ((sizL (L.take j) z : Nat) + 1))
        have HOL7 := Lib.hid ((HOL.out.now' hb6).far (p := ⟨w1.heap.size, z, none⟩) (show gl ≠ w1.heap.size by omega) (.int .i64 ((sizL (L.take j) z : Nat) + 1)))
        go_roundw
        case rel =>
          refine ⟨j + 1, by omega, by go_num, HSET.out.congr fun i hi => ?_, fun _ => ⟨gl, rfl, hgl, HOL7.out⟩, b7⟩
          rw [HST.out i, ← HZE.out]
          by_cases e : i = z
          · subst e; rw [if_pos rfl, if_pos rfl]; simp
          · rw [if_neg e, if_neg (fun h => e h.symm)]; simp
        case measure => simp [intOf]; omega
      · obtain rfl : j = L.length := by omega
        have hgl := HO.out.lt
        go_wp2
        go_ret2
        rw [HE.out]
        have hl := perL_len (sizN (winB q ws n) k (2^n)) n
        refine ⟨_, rfl, RS.lies ⟨_, n, by rw [hl]; rfl, Or.inr ⟨w1.heap.size, rfl, by omega, hgl, ?_⟩⟩ (Nat.le_refl _), bfrom g1 hbr⟩
        rw [hl]
        exact HO.out.congr fun i hi => by rw [perL_get hi, List.take_length, HSL2.out]
  | false =>
    have HE := Lib.hid (show bySizeL q ws n x = [] from okL_no hok)
    have HM := Lib.hid hok
    clear hok
    go_enter Try.func26, Try.ntmps26
    go_wp2_with fail
    refine (pwMember_any q _ n cap ws x _ hm (HK.out.now hb0)).mono ?_
    rintro e w1 ⟨rfl, hb⟩
    rw [HM.out]
    go_wp2
    go_ret2
    rw [HE.out]
    exact Ans.none_ (bfrom hb0 hb)
end Go.Proofs.Ytlnlkfldlgchhaa
