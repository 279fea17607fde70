/- The order of worth, the program's: the stable sort of a few, OrderOfWorth. -/
import Derived.Test.YtgilbenbaefgfaaGreatDg
import Derived.BigQuiet
import Derived.Outline
namespace Go.Proofs.YtgilbenbaefgfaaGreat
open Go.RowKit Vo

theorem own_drewN {w : World} {g : Nat} {t : TypeId} {n : Nat} {f : Nat → Value} (h : Own w g t n f) (k : Nat) : Own (w.drewN k) g t n f := h
/-- A comparison of numbers that only reads. -/
structure CmpI (c : Nat → Nat → Int) (k : Nat) (cap : Array Value) (n : Nat) (w : World) : Prop where
  enters : ∀ args W, (callFunc k args).run Tryz.prog W = .ok (.enter k args) W
  gives : ∀ (W : World) (i j : Nat), i < n → j < n → Below w.heap.size w W → Calls Tryz.prog k (#[.int .i64 i, .int .i64 j] ++ cap) W fun e W' => e = .returned (.int .i64 (c i j)) ∧ ∃ m, W' = W.drewN m

set_option maxRecDepth 20000 in
set_option maxHeartbeats 8000000 in
theorem insertion_any (c : Nat → Nat → Int) (gr : Nat → Nat → Bool) (k : Nat) (cap : Array Value) (n r cp : Nat) (w0 w : World) (hn : n ≤ 9) (hn1 : 1 ≤ n) (hc : CmpI c k cap n w0) (hgr : ∀ i j, i < n → j < n → decide (c i j < 0) = gr i j) (hb : Below w0.heap.size w0 w) (hr : w0.heap.size ≤ r) (ho : Own w r 3 n (fun t => .int .i64 (t : Nat))) :
    Calls Tryz.prog 95 #[.slice (some ⟨r, 0, none⟩) n cp, .int .i64 0, .int .i64 n, .func (.func k) #[] cap] w fun e w' => e = .returned (.tuple #[]) ∧ Own w' r 3 n (fun t => .int .i64 ((ordL gr n).getD t 0 : Nat)) ∧ Below w0.heap.size w0 w' := by
  have HC := Lib.hid hc
  have eg := hc.enters
  have HGR := Lib.hid hgr
  have HO := Lib.hid (show Own w r 3 n (fun t => .int .i64 (outV (ordL gr 1) 1 t : Nat)) from ho.congr fun t _ => by
    unfold outV
    by_cases h : t < 1
    · have e : t = 0 := by omega
      subst e; rfl
    · rw [if_neg h])
  clear hc hgr ho
  go_enter Tryz.func95, Tryz.ntmps95
  go_wp2
  go_loopw [8, 9] (fun x _ wr => ∃ i : Nat, 1 ≤ i ∧ i ≤ n ∧ x = .int .i64 i ∧ Own wr r 3 n (fun t => .int .i64 (outV (ordL gr i) i t : Nat)) ∧ Below w0.heap.size w0 wr) (fun x _ _ => n - (intOf x).toNat)
  case atStart => exact ⟨1, Nat.le_refl _, hn1, rfl, HO.out, hb⟩
  case round =>
    obtain ⟨i, hi1, hi, rfl, hown, hbr⟩ := hrel
    have HI := Lib.hid hown
    clear hown
    by_cases hlt : i < n
    · have hlen := ordL_len gr i
      have HLT := Lib.hid (ordL_lt gr i)
      have HEND := Lib.hid (dV_end gr i)
      have HPK := Lib.hid (show ∀ j, posK (fun t => gr i ((ordL gr i).getD t 0)) (j+1) = if gr i ((ordL gr i).getD j 0) then posK (fun t => gr i ((ordL gr i).getD t 0)) j else j + 1 from fun _ => rfl)
      have HP0 := Lib.hid (show posK (fun t => gr i ((ordL gr i).getD t 0)) 0 = 0 from rfl)
      obtain ⟨L, hL⟩ : ∃ L, L = ordL gr i := ⟨_, rfl⟩
      simp only [← hL] at HLT HEND HPK HP0 HI hlen
      have HLEN := Lib.hid hlen
      have HD0 := Lib.hid (fun t => dV_start L i t)
      clear hL hlen
      obtain ⟨pk, hpk⟩ : ∃ pk, pk = posK (fun t => gr i (L.getD t 0)) := ⟨_, rfl⟩
      simp only [← hpk] at HEND HPK HP0
      clear hpk
      go_wp2
      go_loopw [9] (fun x wi => ∃ j : Nat, j ≤ i ∧ x = .int .i64 j ∧ pk i = pk j ∧ Own wi r 3 n (fun t => .int .i64 (dV L i j t : Nat)) ∧ Below w0.heap.size w0 wi) (fun x _ => (intOf x).toNat)
      case atStart => exact ⟨i, Nat.le_refl _, rfl, rfl, HI.out.congr fun t _ => by rw [HD0.out], hbr⟩
      case round =>
        obtain ⟨j, hj, rfl, hpj, hown2, hb2⟩ := hrel
        have HO2 := Lib.hid hown2
        have HPJ := Lib.hid hpj
        clear hown2 hpj
        rcases j with _ | j
        · have HR := Lib.hid (show Own wr r 3 n (fun t => .int .i64 (outV (ordL gr (i+1)) (i+1) t : Nat)) from HO2.out.congr fun t _ => by rw [← HEND.out t, HPJ.out, HP0.out])
          go_wp2_with fail
          go_quiet (fail)
          go_wp2
          go_roundw
          case rel => exact ⟨i + 1, by omega, by omega, by go_num, own_drewN HR.out _, below_drewN hb2 _⟩
          case measure => simp [intOf]; omega
        · have hl9 : L.getD j 0 < i := HLT.out _ (getD_mem (by rw [HLEN.out]; omega))
          have hcj := HO2.out.cell (show j + 1 < n by omega)
          have hcj2 := HO2.out.cell (show j < n by omega)
          rw [dV_at] at hcj
          rw [dV_below] at hcj2
          have HG := Lib.hid (HGR.out i (L.getD j 0) hlt (by omega))
          have HPKJ := Lib.hid (HPK.out j)
          have HCG := Lib.hid (fun W hb' => HC.out.gives W i (L.getD j 0) hlt (by omega) hb')
          have HSW := Lib.hid (fun t => dV_swap L i j t hj)
          obtain ⟨l, hl⟩ : ∃ l, l = L.getD j 0 := ⟨_, rfl⟩
          rw [← hl] at hl9 hcj2 HG HPKJ HCG
          have HLJ := Lib.hid hl
          clear hl
          have hsub : ((j + 1 : Nat) : Int) - 1 = (j : Int) := by omega
          have hpos : (0 : Int) < ((j + 1 : Nat) : Int) := by omega
          have hjn : (j : Int) < n := by omega
          have hj1n : ((j + 1 : Nat) : Int) < n := by omega
          obtain ⟨cv, hcv⟩ : ∃ cv, cv = c i l := ⟨_, rfl⟩
          rw [← hcv] at HG HCG
          clear hcv
          cases hg : gr i l
          · rw [hg] at HG HPKJ
            have hc0 : ¬ cv < 0 := by have := HG.out; simpa using this
            have HR := Lib.hid (show Own wr r 3 n (fun t => .int .i64 (outV (ordL gr (i+1)) (i+1) t : Nat)) from HO2.out.congr fun t _ => by rw [← HEND.out t, HPJ.out, HPKJ.out]; rfl)
            clear hg
            go_wp2_with fail
            go_quiet ((go_at_fn k; exact Calls.quiet_of (HCG.out _ (below_drewN hb2 _))))
            go_wp2
            go_roundw
            case rel => exact ⟨i + 1, by omega, by omega, by go_num, own_drewN HR.out _, below_drewN hb2 _⟩
            case measure => simp [intOf]; omega
          · rw [hg] at HG HPKJ
            have hc0 : cv < 0 := by have := HG.out; simpa using this
            clear hg
            go_wp2_with fail
            go_quiet ((go_at_fn k; exact Calls.quiet_of (HCG.out _ (below_drewN hb2 _))))
            have HO3 := Lib.hid (own_drewN HO2.out nq)
            have HB3 := Lib.hid (below_drewN hb2 nq)
            have k1 := HO3.out.cell (show j + 1 < n by omega)
            have k2 := HO3.out.cell (show j < n by omega)
            rw [dV_at] at k1
            rw [dV_below, ← HLJ.out] at k2
            have kf1 := HO3.out.frozen (j+1)
            have kf2 := HO3.out.frozen j
            have HSET := Lib.hid (show Own (((wr.drewN nq).setCell ⟨r, j + 1, none⟩ (.int .i64 l)).setCell ⟨r, j, none⟩ (.int .i64 i)) r 3 n (fun t => .int .i64 (dV L i j t : Nat)) from ((HO3.out.set (j+1) (.int .i64 l)).set j (.int .i64 i)).congr fun t _ => by
              rw [HSW.out t]
              by_cases e : t = j
              · subst e; simp
              · by_cases e2 : t = j + 1
                · subst e2; simp [HLJ.out]
                · simp [e, e2])
            have HPS := Lib.hid (show pk i = pk j from by rw [HPJ.out, HPKJ.out]; rfl)
            have HB4 := Lib.hid ((HB3.out.setCell (p := ⟨r, j + 1, none⟩) hr (.int .i64 l)).setCell (p := ⟨r, j, none⟩) hr (.int .i64 i))
            obtain ⟨wd, hwd⟩ : ∃ wd, wd = wr.drewN nq := ⟨_, rfl⟩
            rw [← hwd] at HSET HB4 k1 k2 kf1 kf2 ⊢
            clear hwd HO3 HB3 hcj hcj2 HO2 hb2
            go_wp2_with fail
            go_region
            all_goals
              go_wp2
              go_roundw
              case rel => exact ⟨j, by omega, by go_num, HPS.out, HSET.out, by first | exact HB4.out | exact HB4.out.drew⟩
              case measure => simp [intOf]
    · obtain rfl : i = n := by omega
      have HE := Lib.hid (show Own wr r 3 i (fun t => .int .i64 ((ordL gr i).getD t 0 : Nat)) from HI.out.congr fun t ht => by unfold outV; rw [if_pos ht])
      go_wp2
      refine bodyPost_end (v := .tuple #[]) (by simp [results, Tryz.results95, go_sem]) rfl ⟨rfl, HE.out, hbr⟩

set_option maxRecDepth 20000 in
set_option maxHeartbeats 4000000 in
theorem stable_any (c : Nat → Nat → Int) (gr : Nat → Nat → Bool) (k : Nat) (cap : Array Value) (n r cp : Nat) (w0 w : World) (hn : n ≤ 9) (hn1 : 1 ≤ n) (hc : CmpI c k cap n w0) (hgr : ∀ i j, i < n → j < n → decide (c i j < 0) = gr i j) (hb : Below w0.heap.size w0 w) (hr : w0.heap.size ≤ r) (ho : Own w r 3 n (fun t => .int .i64 (t : Nat))) :
    Calls Tryz.prog 80 #[.slice (some ⟨r, 0, none⟩) n cp, .int .i64 n, .func (.func k) #[] cap] w fun e w' => e = .returned (.tuple #[]) ∧ Own w' r 3 n (fun t => .int .i64 ((ordL gr n).getD t 0 : Nat)) ∧ Below w0.heap.size w0 w' := by
  have HI := Lib.hid (insertion_any c gr k cap n r cp w0 w hn hn1 hc hgr hb hr ho)
  have h20 : ¬ (20 : Int) ≤ (n : Int) := by omega
  have h20' : ¬ (20 : Int) < (n : Int) := by omega
  clear hc hgr ho
  go_enter Tryz.func80, Tryz.ntmps80
  go_wp2
  refine wp_loop_rounds 1 ?_
  rw [rounds_succ]
  go_wp2_with fail
  refine HI.out.mono ?_
  rintro e w1 ⟨rfl, hown, hb1⟩
  have HO := Lib.hid hown
  clear hown
  go_wp2
  refine wp_loop_rounds 1 ?_
  rw [rounds_succ]
  go_wp2
  refine bodyPost_end (v := .tuple #[]) (by simp [results, Tryz.results80, go_sem]) rfl ⟨rfl, HO.out, hb1⟩

set_option maxHeartbeats 1000000 in
theorem sortStable_any (c : Nat → Nat → Int) (gr : Nat → Nat → Bool) (k : Nat) (cap : Array Value) (n r cp : Nat) (w0 w : World) (hn : n ≤ 9) (hn1 : 1 ≤ n) (hc : CmpI c k cap n w0) (hgr : ∀ i j, i < n → j < n → decide (c i j < 0) = gr i j) (hb : Below w0.heap.size w0 w) (hr : w0.heap.size ≤ r) (ho : Own w r 3 n (fun t => .int .i64 (t : Nat))) :
    Calls Tryz.prog 57 #[.slice (some ⟨r, 0, none⟩) n cp, .func (.func k) #[] cap] w fun e w' => e = .returned (.tuple #[]) ∧ Own w' r 3 n (fun t => .int .i64 ((ordL gr n).getD t 0 : Nat)) ∧ Below w0.heap.size w0 w' := by
  have HI := Lib.hid (stable_any c gr k cap n r cp w0 w hn hn1 hc hgr hb hr ho)
  clear hc hgr ho
  go_enter Tryz.func57, Tryz.ntmps57
  go_wp2_with fail
  refine HI.out.mono ?_
  rintro e w1 ⟨rfl, hown, hb1⟩
  have HO := Lib.hid hown
  clear hown
  go_wp2
  refine bodyPost_end (v := .tuple #[]) (by simp [results, Tryz.results57, go_sem]) rfl ⟨rfl, HO.out, hb1⟩

def sizeD (f : Nat → Nat → Bool) (n i j : Nat) : Int := (cnt (f j) n : Nat) - (cnt (f i) n : Nat)
set_option maxRecDepth 20000 in
set_option maxHeartbeats 4000000 in
theorem order1_any (f : Nat → Nat → Bool) (n i j g gb cp : Nat) (w : World) (hn : n ≤ 9) (hi : i < n) (hj : j < n) (ho : Own w g 68 n (fun t => .int .u64 (selK (f t) n : Nat))) (hg : Box1 45 w gb (.slice (some ⟨g, 0, none⟩) n cp)) :
    Calls Tryz.prog 58 #[.int .i64 i, .int .i64 j, .pointer (some ⟨gb, 0, none⟩)] w fun e w' => e = .returned (.int .i64 (sizeD f n i j)) ∧ ∃ m, w' = w.drewN m := by
  have hci := ho.cell hi
  have hcj := ho.cell hj
  have hcb := hg.cell
  have HI := Lib.hid (fun W => size_any (selK (f i) n) W (selK_512 _ hn))
  have HJ := Lib.hid (fun W => size_any (selK (f j) n) W (selK_512 _ hn))
  rw [selK_size _ hn] at HI HJ
  have hiz : (i : Int) < n := by omega
  have hjz : (j : Int) < n := by omega
  have h1 := cnt_le (f i) n
  have h2 := cnt_le (f j) n
  have HS := Lib.hid (show sizeD f n i j = ((cnt (f j) n : Nat) : Int) - ((cnt (f i) n : Nat) : Int) from rfl)
  generalize cnt (f i) n = a at *
  generalize cnt (f j) n = b at *
  have hw : IntKind.i64.wrap ((b : Int) - (a : Int)) = (b : Int) - a := IntWalk.i64_in _ (by omega)
  clear ho hg
  generalize selK (f i) n = s at *
  generalize selK (f j) n = t at *
  go_enter Tryz.func58, Tryz.ntmps58
  go_wp2_with fail
  go_quiet (first
    | (go_at_call 59; exact Calls.quiet_of_same ((HJ.out _).mono fun _ _ h => ⟨h.1, h.2.symm⟩))
    | (go_at_call 59; exact Calls.quiet_of_same ((HI.out _).mono fun _ _ h => ⟨h.1, h.2.symm⟩)))
  go_wp2
  go_ret
  exact ⟨by rw [HS.out]; first | rfl | simp [hw], nq, rfl⟩

set_option maxRecDepth 20000 in
set_option maxHeartbeats 4000000 in
theorem tOrder_any (f : Nat → Nat → Bool) (n g cp : Nat) (w : World) (hn : n ≤ 9) (hn1 : 1 ≤ n) (hd : Desire f n) (hc : compB f n = true) (ho : Own w g 68 n (fun t => .int .u64 (selK (f t) n : Nat))) :
    Calls Tryz.prog 34 #[.slice (some ⟨g, 0, none⟩) n cp] w fun e w' => ∃ r cp2, e = .returned (.slice (some ⟨r, 0, none⟩) n cp2) ∧ w.heap.size ≤ r ∧ r < w'.heap.size ∧ Ints w' r n (natsI (ordL (grK f) n)) ∧ Below w.heap.size w w' := by
  have b1 := below1 w (.cells #[.slice (some ⟨g, 0, none⟩) n cp] 45)
  have x1 := Box1.new 45 w (.slice (some ⟨g, 0, none⟩) n cp)
  have hgl := ho.lt
  have HCM := Lib.hid (show CmpI (sizeD f n) 58 #[.pointer (some ⟨w.heap.size, 0, none⟩)] n (w.alloc (.cells #[.slice (some ⟨g, 0, none⟩) n cp] 45)) from
    ⟨enters_of Tryz.func58 (by kernel_rfl) rfl, fun W i j hi hj hb => order1_any f n i j g w.heap.size cp W hn hi hj ((ho.below b1 hgl).below hb (by simp; omega)) (x1.now hb)⟩)
  have HGR := Lib.hid (show ∀ i j, i < n → j < n → decide (sizeD f n i j < 0) = grK f i j from fun i j hi hj => by
    rw [← great_size hd hc hi hj]
    unfold sizeD
    congr 1
    apply propext
    constructor <;> intro h <;> omega)
  have h512 := pow_lt hn
  have HAL := Lib.hid (all_list n hn)
  have hpos := Nat.two_pow_pos n
  have hc1 := x1.cell
  have h5 : 2^n - 1 < 512 := by omega
  have HZ := Lib.hid (show (w.alloc (.cells #[.slice (some ⟨g, 0, none⟩) n cp] 45)).heap.size = w.heap.size + 1 from by simp)
  clear ho hd hc x1
  obtain ⟨s, hs⟩ : ∃ s, s = 2^n - 1 := ⟨_, rfl⟩
  have HAM := Lib.hid (fun W => allMembers_any n W (by omega))
  simp only [← hs] at HAM HAL h5
  clear hs hpos h512
  have hlen : (mem s 9).length = n := (HAL.out 0 (by omega)).2
  obtain ⟨w1, hw1⟩ : ∃ w1, w1 = w.alloc (.cells #[.slice (some ⟨g, 0, none⟩) n cp] 45) := ⟨_, rfl⟩
  rw [← hw1] at b1 HCM HZ hc1
  have HLE := Lib.hid hlen
  go_enter Tryz.func34, Tryz.ntmps34
  go_wp2_with fail
  rw [← hw1]
  clear hw1
  refine (HAM.out _).mono ?_
  rintro e w2 ⟨rfl, rfl⟩
  go_wp2_with fail
  refine (list_any s _ h5).mono ?_
  rintro e w3 ⟨A, cp3, rfl, hown, hb3⟩
  rw [HLE.out] at hown ⊢
  obtain ⟨r, cp', hv, hrb, _, _⟩ := owns_head hown (by omega)
  obtain ⟨rfl, rfl⟩ : A = some ⟨r, 0, none⟩ ∧ cp3 = cp' := by simpa using hv
  have HO := Lib.hid (show Own w3 r 3 n (fun t => .int .i64 (t : Nat)) from (Own.of_own (f := fun t => .int .i64 (t : Nat)) hown fun i hi => by
    have h1 := (HAL.out i hi).1
    have h2 : i < (mem s 9).length := by rw [HLE.out]; exact hi
    rw [List.getElem?_map, List.getElem?_eq_getElem h2]
    rw [List.getD_eq_getElem?_getD, List.getElem?_eq_getElem h2] at h1
    simp only [Option.getD_some] at h1
    rw [h1]; rfl))
  clear hown
  have HSO := Lib.hid (sortStable_any (sizeD f n) (grK f) _ _ n r cp3 _ w3 hn hn1 HCM.out HGR.out hb3 hrb HO.out)
  have hc3 : w3.cell? ⟨w.heap.size, 0, none⟩ = _ := (hb3.cell (p := ⟨w.heap.size, 0, none⟩) (by rw [HZ.out]; simp)).trans hc1
  go_wp2_with fail
  refine HSO.out.mono ?_
  rintro e w4 ⟨rfl, hown4, hb4⟩
  have HI4 := Lib.hid (show Ints w4 r n (natsI (ordL (grK f) n)) from hown4.congr fun t ht => by rw [natsI_getD])
  have hrl := hown4.lt
  clear hown4
  go_wp2
  go_ret
  refine ⟨r, cp3, rfl, ?_, hrl, HI4.out, bfrom b1 hb4⟩
  have := HZ.out
  omega
