/- Contracts of SmallestWin and LargestLoss, the program's and the model's. -/
import Derived.Test.YtldpdjnedoflcabZ8
import Derived.Test.YtldpdjnedoflcabZ2
import Derived.Outline
namespace Go.Proofs.Ytldpdjnedoflcab
open Go.RowKit Vo

theorem natsL_get (L : List Nat) (j : Nat) : (natsL L).getD j 0 = ((L.getD j 0 : Nat) : Int) := by
  simp only [natsL, List.getD_eq_getElem?_getD, List.getElem?_map]
  cases L[j]? <;> rfl
set_option maxHeartbeats 1000000 in
theorem maxS_any (f : Nat → Nat) (g n cap : Nat) (w : World) (h1 : 1 ≤ n) (hn : n ≤ 1048576) (hf : ∀ k, f k ≤ 1000000) (_hgl : g < w.heap.size) (hr : ∀ j, j < n → w.cell? ⟨g, j, none⟩ = some (.int .i64 (f j : Nat))) :
    Calls Try.prog 86 #[.slice (some ⟨g, 0, none⟩) n cap] w fun e w' => e = .returned (.int .i64 (maxF f n : Nat)) ∧ w = w' := by
  have HR := Lib.hid hr
  have HF := Lib.hid hf
  have hc0 := hr 0 (by omega)
  have H1 := Lib.hid (show maxF f 1 = f 0 from by simp [maxF])
  have h0 : ¬ (n : Int) < 1 := by omega
  have hf0 := hf 0
  clear hr hf
  go_enter Try.func86, Try.ntmps86
  go_wp2
  go_loop [3, 4] (fun m i => ∃ k : Nat, 1 ≤ k ∧ k ≤ n ∧ i = .int .i64 k ∧ m = .int .i64 (maxF f k : Nat)) (fun _ i => n - (intOf i).toNat)
  case atStart => exact ⟨1, by omega, h1, rfl, by rw [H1.out]⟩
  case round =>
    obtain ⟨k, hk1, hk, rfl, rfl⟩ := hrel
    by_cases hlt : k < n
    · have hcell := HR.out k hlt
      have hfk := HF.out k
      have hmk := maxF_le (k := k) HF.out
      have HS := Lib.hid (show maxF f (k+1) = max (maxF f k) (f k) from rfl)
      generalize maxF f k = m at *
      generalize f k = x at *
      go_wp2
      go_round
      case rel => exact ⟨k + 1, by omega, by omega, by go_num, by rw [HS.out]; first | (congr 1; omega) | (simp; omega)⟩
      case measure => simp [intOf]; omega
    · obtain rfl : n = k := by omega
      go_wp2
      go_ret
      exact ⟨rfl, rfl⟩

set_option maxRecDepth 20000 in
set_option maxHeartbeats 4000000 in
theorem sizesOf_any (P : Nat → Bool) (k : Nat) (first cap2 : Array Value) (q : Int) (A : Option Addr) (n cap : Nat) (w : World) (hn : n < 10) (ha : Asks P k first cap2 n w) :
    Calls Try.prog 87 #[.agg #[.int .i64 q, .slice A n cap], .func (.func k) first cap2] w fun e w' => IntsAt (natsL (kindS P (2^n))) w w' e := by
  obtain ⟨i0, hi0, hz0, hz1, hz2⟩ := infoIntParts
  have HA := Lib.hid ha
  have eg := ha.enters
  have hb0 := below1 w (.cells #[.int .i64 q, .slice A n cap] 29)
  have hx := Box.new w (.int .i64 q) (.slice A n cap)
  have h512 := pow_lt (n := n) (by omega)
  have hpos := Nat.two_pow_pos n
  have HLT := Lib.hid (show ∀ s, s < 2^n → s < 2^n from fun _ h => h)
  have HLE := Lib.hid (natsL_len (kindS P (2^n)))
  clear ha
  obtain ⟨N, hN⟩ : ∃ N, N = 2^n := ⟨_, rfl⟩
  have HP := Lib.hid (show (((2^n - 1 : Nat) : Int) + 1) = (N : Int) from by omega)
  have HNN := Lib.hid hN
  rw [← hN] at h512 hpos HLE ⊢
  have HG := Lib.hid (show ∀ W s, s < N → Below w.heap.size w W → _ from fun W s hs hb => HA.out.gives W s (by rw [← HNN.out]; exact hs) hb)
  clear hN
  go_enter Try.func87, Try.ntmps87
  go_wp2_with (go_at_call 94; refine (everybody_any _ _ n cap _ hn).mono ?_; rintro e w1 ⟨rfl, hb1⟩)
  rw [HP.out, IntWalk.u64_in (N : Int) (by omega)]
  have g1 := bfrom hb0 hb1
  have hz1' := g1.size
  go_loopw [5, 6, 10] (fun v _ i wr => ∃ (j : Nat) (A : Option Addr) (cap : Nat), j ≤ N ∧ i = .int .u64 j ∧ v = .slice A (kindS P j).length cap ∧ wr.ownsRow w.heap.size 3 1 (.slice A (kindS P j).length cap) (kindS P j).length ((natsL (kindS P j)).map (Value.int .i64)) ∧ Below w.heap.size w wr) (fun _ _ i _ => N - (intOf i).toNat)
  case atStart => exact ⟨0, none, 0, Nat.zero_le _, rfl, rfl, World.ownsRow_nil _ _ _ _, g1⟩
  case round =>
    obtain ⟨j, A2, cap3, hj, rfl, rfl, hown, hbr⟩ := hrel
    have HO := Lib.hid hown
    have hszr := hbr.size
    have hlen := kindS_len P j
    clear hown
    by_cases hlt : j < N
    · have hs512 : j < 512 := by omega
      have HG2 := Lib.hid (fun W hb => HG.out W j hlt hb)
      obtain ⟨L, hL⟩ : ∃ L, L = kindS P j := ⟨_, rfl⟩
      rw [← hL] at HO hlen ⊢
      have HL := Lib.hid hL
      obtain ⟨m, hm⟩ : ∃ m, m = L.length := ⟨_, rfl⟩
      rw [← hm] at HO hlen ⊢
      have HM := Lib.hid hm
      clear hL hm
      cases hp : P j
      · have HPJ := Lib.hid hp
        have HS := Lib.hid (show kindS P (j+1) = L from by rw [HL.out]; exact kindS_no hp)
        clear hp
        go_wp2_with (go_at_fn k; refine (HG2.out _ hbr).mono ?_; rintro e w' ⟨rfl, hb'⟩; rw [HPJ.out])
        go_roundw
        case rel => exact ⟨j + 1, A2, cap3, by omega, by go_num, by rw [HS.out, HM.out], by rw [HS.out, ← HM.out]; exact owns_now HO.out hb', bfrom hbr hb'⟩
        case measure => simp [intOf]; omega
      · have HPJ := Lib.hid hp
        have HS := Lib.hid (show kindS P (j+1) = L ++ [sz j] from by rw [HL.out]; exact kindS_yes hp)
        have HZ := Lib.hid (show (mem j 9).length = sz j from rfl)
        clear hp
        generalize sz j = z at *
        go_wp2_with (first
          | (go_at_fn k; refine (HG2.out _ hbr).mono ?_; rintro e w' ⟨rfl, hb'⟩; rw [HPJ.out]; have HO2 := Lib.hid (owns_now HO.out hb'); have b2 := bfrom hbr hb'; have hsz2 := b2.size)
          | (go_at_call 99; refine (size_any j _ hs512).mono ?_; rintro e w3 ⟨rfl, rfl⟩; rw [HZ.out])
          | (at_builtin; refine wpList_append_lies _ rfl _ _ _ rfl w.heap.size 3 i0 _ 1 8 Try.underlying22 hi0 hz0 hz1 hz2 rfl (by decide) (.slice A2 m cap3) m ((natsL L).map (Value.int .i64)) rfl (HO2.out.alloc _) ⟨w'.heap.size, 0, none⟩ 1 1 [.int .i64 z] rfl rfl (World.news_of_block (cs := #[.int .i64 z]) (t := 3) (fr := (0, 0)) (heap_alloc_new w' _)) (by simp [Value.oneCell']) (by omega) (by unfold maxLen; omega) (by omega) (by simp; omega) (w'.heap.size + 1) (by simp) ?_; intro gg cap4 w6 hown6 hgrow6 hat hlt6))
        have b6 : Below w.heap.size w w6 := (b2.alloc hsz2 (.cells #[.int .i64 z] 3)).grown hgrow6 (by simp; omega) fun i hi => owns_le HO2.out hi
        go_roundw
        case rel => exact ⟨j + 1, some ⟨gg, 0, none⟩, cap4, by omega, by go_num, by rw [HS.out, HM.out]; simp, by rw [HS.out]; simpa [HM.out, natsL] using hown6, b6⟩
        case measure => simp [intOf]; omega
    · obtain rfl : N = j := by omega
      go_wp2
      go_ret
      exact ⟨A2, cap3, by rw [HLE.out]; rfl, by rw [HLE.out]; exact HO.out, hbr⟩

theorem winB_full {q : Int} {ws : List Int} {n : Nat} (hg : Vo.Good q ws n) : winB q ws n (2^n - 1) = true := by unfold winB; rw [hg.all]; exact decide_eq_true hg.q2
theorem winB_none {q : Int} {ws : List Int} {n : Nat} (hg : Vo.Good q ws n) : winB q ws n 0 = false := by
  unfold winB; rw [wtK_none]; have := hg.q1; simp; omega

def numB (ok : Bool) (x : Nat) : Int := if ok then (x : Int) else 0
theorem numB_yes {ok : Bool} {x : Nat} (h : ok = true) : numB ok x = (x : Int) := if_pos h
theorem numB_no {ok : Bool} {x : Nat} (h : ok = false) : numB ok x = 0 := if_neg (by rw [h]; simp)
def smallW (q : Int) (ws : List Int) (n : Nat) : Int := numB (goodB q ws n) (minK (winB q ws n) n (2^n))
def largeL (q : Int) (ws : List Int) (n : Nat) : Int := numB (goodB q ws n) (maxK (fun s => !winB q ws n s) (2^n))

set_option maxHeartbeats 1000000 in
theorem largestLoss_any (q : Int) (A : Option Addr) (n cap : Nat) (ws : List Int) (w : World) (hm : n ≤ 9223372036854775807) (hk : Known w A n ws) :
    Calls Try.prog 50 #[.agg #[.int .i64 q, .slice A n cap]] w fun e w' =>
      e = .returned (.tuple #[.int .i64 (largeL q ws n), .bool (goodB q ws n)]) ∧ Below w.heap.size w w' := by
  have HK := Lib.hid hk
  clear hk
  have hx := Box.new w (.int .i64 q) (.slice A n cap)
  have hb0 := below1 w (.cells #[.int .i64 q, .slice A n cap] 29)
  by_cases hg : Vo.Good q ws n
  · obtain ⟨b, off, rfl, hsl⟩ := HK.out.get hg.lo
    have HSL := Lib.hid hsl
    have HOK := Lib.hid hg.ok
    have HGB := Lib.hid (goodB_true hg)
    have hn9 := hg.hi
    have hn10 : n < 10 := by omega
    have h512 := pow_lt hn9
    have hpos := Nat.two_pow_pos n
    obtain ⟨P, hP⟩ : ∃ P : Nat → Bool, P = fun s => !winB q ws n s := ⟨_, rfl⟩
    have hlen : 1 ≤ (kindS P (2^n)).length := by
      obtain ⟨j, hj, _⟩ := kindS_at (P := P) (N := 2^n) (s := 0) hpos (by rw [hP]; simp only [winB_none hg]; rfl)
      omega
    have hlen2 := kindS_len P (2^n)
    have HMAX := Lib.hid (show maxF (fun j => (kindS P (2^n)).getD j 0) (kindS P (2^n)).length = maxK P (2^n) from maxF_kind P (2^n))
    have HV := Lib.hid (show largeL q ws n = ((maxK P (2^n) : Nat) : Int) from by rw [hP]; exact numB_yes HGB.out)
    have HWA := Lib.hid (fun W h => by have := loses_asks2 q b off n cap ws W hn10 HOK.out h; rw [← hP] at this; exact this)
    have HF9 := Lib.hid (fun j => kindS_le9 P (2^n) j)
    clear hg hsl hP
    obtain ⟨S, hS⟩ : ∃ S, S = kindS P (2^n) := ⟨_, rfl⟩
    have HSE := Lib.hid hS
    rw [← hS] at hlen hlen2 HMAX HF9
    clear hS
    go_enter Try.func50, Try.ntmps50
    go_wp2_with fail
    refine (isCommittee_any q _ n cap ws _ hm (HK.out.now hb0)).mono ?_
    rintro e w1 ⟨rfl, hb⟩
    rw [HGB.out]
    have g1 := bfrom hb0 hb
    have hs1 := Lib.hid (HSL.out.now g1)
    obtain ⟨hc0, hc1⟩ := (hx.now hb).cells
    go_wp2_with fail
    refine (sizesOf_any P _ _ _ q _ n cap _ hn10 (HWA.out _ hs1.out)).mono ?_
    rintro e w2 ⟨A2, cap2, rfl, hown, hb2⟩
    rw [natsL_len, ← HSE.out] at hown ⊢
    obtain ⟨g, cp', hv, hg2, _, _⟩ := owns_head hown (by omega)
    obtain ⟨rfl, rfl⟩ : A2 = some ⟨g, 0, none⟩ ∧ cap2 = cp' := by simpa using hv
    have hO : Own w2 g 3 S.length (fun i => .int .i64 (S.getD i 0 : Nat)) := Own.of_own hown fun i hi => by simp [natsL, List.getD_eq_getElem?_getD, hi]
    have HO := Lib.hid hO
    have hgl := hO.lt
    clear hown hv hO
    obtain ⟨m, hm1⟩ : ∃ m, m = S.length := ⟨_, rfl⟩
    rw [← hm1] at hlen hlen2 HMAX HO ⊢
    clear hm1
    go_wp2_with (go_at_call 86; refine (maxS_any (fun j => S.getD j 0) g m cap2 _ hlen (by omega) (fun k => Nat.le_trans (HF9.out k) (by omega)) hgl (fun j hj => HO.out.cell hj)).mono ?_; rintro e w3 ⟨rfl, rfl⟩; rw [HMAX.out])
    go_ret2
    exact ⟨by rw [HV.out, HGB.out]; rfl, bfrom g1 hb2⟩
  · have HGB := Lib.hid (goodB_false hg)
    clear hg
    go_enter Try.func50, Try.ntmps50
    go_wp2_with fail
    refine (isCommittee_any q A n cap ws _ hm (HK.out.now hb0)).mono ?_
    rintro e w1 ⟨rfl, hb⟩
    rw [HGB.out]
    go_wp2
    go_ret2
    exact ⟨by rw [show largeL q ws n = 0 from numB_no HGB.out, HGB.out]; rfl, bfrom hb0 hb⟩
end Go.Proofs.Ytldpdjnedoflcab
