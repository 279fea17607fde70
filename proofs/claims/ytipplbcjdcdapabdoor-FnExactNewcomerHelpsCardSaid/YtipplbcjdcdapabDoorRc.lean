/- Contract of the program's NewcomerHelps. For the seats of tied cards. -/
import Derived.Test.YtipplbcjdcdapabDoorRa
import Derived.Test.YtipplbcjdcdapabDoorPw
import Derived.Test.YtipplbcjdcdapabDoorP1
import Derived.Test.YtipplbcjdcdapabDoorPd
import Derived.Outline
namespace Go.Proofs.YtipplbcjdcdapabDoor.Vo
theorem first_one_all : ∀ j : Fin 9, firstN (2^j.val) = j.val := by decide +kernel
theorem first_one {j : Nat} (h : j < 9) : firstN (2^j) = j := first_one_all ⟨j, h⟩
end Go.Proofs.YtipplbcjdcdapabDoor.Vo
namespace Go.Proofs.YtipplbcjdcdapabDoor
open Go.RowKit Vo

/-- The function value (k, first, cap), asked of a member alone, answers p. -/
structure Asks1 (p : Nat → Bool) (k : Nat) (first cap : Array Value) (n : Nat) (w : World) : Prop where
  enters : ∀ args W, (callFunc k args).run Tryd.prog W = .ok (.enter k args) W
  gives : ∀ (W : World) (j : Nat), j < n → Below w.heap.size w W → Calls Tryd.prog k (first.push (.int .u64 (2^j : Nat)) ++ cap) W fun e W' => e = .returned (.bool (p (2^j))) ∧ Below W.heap.size W W'

set_option maxRecDepth 20000 in
set_option maxHeartbeats 2000000 in
theorem membersThat1_any (p : Nat → Bool) (k : Nat) (first cap2 : Array Value) (v : Value) (A : Option Addr) (n cap : Nat) (w : World) (hn : n < 10) (ha : Asks1 p k first cap2 n w) :
    Calls Tryd.prog 25 #[.agg #[v, .slice A n cap], .func (.func k) first cap2] w fun e w' => IntsAt (aloneL p n) w w' e := by
  have HA := Lib.hid ha
  have eg := ha.enters
  clear ha
  have hb0 := below1 w (.cells #[v, .slice A n cap] 28)
  have h512 := pow_lt (n := n) (by omega)
  have HE := Lib.hid (aloneL_eq p n 9 (by omega))
  go_enter Tryd.func25, Tryd.ntmps25
  go_wp2_with fail
  refine (members_any _ _ n cap _).mono ?_
  rintro e w1 ⟨rfl, hb1⟩
  go_wp2_with fail
  go_loopw [5, 6, 9] (fun s _ i wr => ∃ j : Nat, j ≤ n ∧ i = .int .i64 j ∧ s = .int .u64 (alone p j : Nat) ∧ Below w.heap.size w wr) (fun _ _ i _ => n - (intOf i).toNat)
  case atStart => exact ⟨0, Nat.zero_le _, rfl, rfl, bfrom hb0 hb1⟩
  case round =>
    obtain ⟨j, hj, rfl, rfl, hb⟩ := hrel
    have hal := alone_lt p j
    have hal2 := pow_lt (n := j) (by omega)
    by_cases hlt : j < n
    · have HJ := Lib.hid (show (0 ||| 2 ^ j : Nat) = 2 ^ j from by simp)
      have hpow := pow_lt (n := j) (by omega)
      have HPL := Lib.hid (show 2 ^ j < 2 ^ n from Nat.pow_lt_pow_right (by omega) hlt)
      cases hp : p (2 ^ j)
      · have HP := Lib.hid hp
        have HS := Lib.hid (show alone p (j+1) = alone p j from by simp [alone, hp])
        clear hp
        generalize alone p j = s at *
        go_wp2_with fail
        refine (with_any 0 j _ (by omega) (by omega)).mono ?_
        rintro e w2 ⟨rfl, rfl⟩
        rw [HJ.out]
        go_wp2_with (go_at_fn k; refine (HA.out.gives _ j hlt hb).mono ?_; rintro e w' ⟨rfl, hb'⟩; rw [HP.out])
        go_roundw
        case rel => exact ⟨j + 1, by omega, by go_num, by rw [HS.out], bfrom hb hb'⟩
        case measure => simp [intOf]; omega
      · have HP := Lib.hid hp
        have HS := Lib.hid (show alone p (j+1) = alone p j ||| 2 ^ j from by simp [alone, hp])
        clear hp
        generalize alone p j = s at *
        go_wp2_with fail
        refine (with_any 0 j _ (by omega) (by omega)).mono ?_
        rintro e w2 ⟨rfl, rfl⟩
        rw [HJ.out]
        go_wp2_with (first | (go_at_fn k; refine (HA.out.gives _ j hlt hb).mono ?_; rintro e w' ⟨rfl, hb'⟩; rw [HP.out]) | (go_at_call 38; refine (with_any s j _ (by omega) (by omega)).mono ?_; rintro e w3 ⟨rfl, rfl⟩))
        go_roundw
        case rel => exact ⟨j + 1, by omega, by go_num, by rw [HS.out], bfrom hb hb'⟩
        case measure => simp [intOf]; omega
    · obtain rfl : j = n := by omega
      go_wp2_with fail
      refine (list_any (alone p j) _ (by omega)).mono ?_
      rintro e w5 ⟨A5, cap5, rfl, hown5, hb5⟩
      go_wp2
      go_ret
      refine ⟨A5, cap5, by rw [← HE.out]; rfl, ?_, bfrom hb hb5⟩
      rw [← HE.out]
      exact owns_less hown5 hb.size

/-- Does the newcomer help the first member of s? -/
def helpB (q : Int) (ws : List Int) (n : Nat) (x : Int) (s : Nat) : Bool := decide (0 < gainV q ws n (2^firstN s) q (addL ws n x) (n + 1) (2^firstN s))
def nhL (q : Int) (ws : List Int) (n : Nat) (x : Int) : List Int := okL (addOk q q ws n x) (aloneL (helpB q ws n x) n)
theorem aloneB_len (p : Nat → Bool) (k : Nat) : (aloneL p k).length ≤ k := by
  induction k with
  | zero => exact Nat.le_refl _
  | succ k ih => simp only [aloneL]; split <;> simp <;> omega
theorem addOk_parts {q ws n x} (h : addOk q q ws n x = true) : Vo.Good q ws n ∧ Vo.Good q (addL ws n x) (n + 1) := by
  unfold addOk moreOk goodB at h
  simp only [Bool.and_eq_true, decide_eq_true_eq] at h
  exact h
theorem nhL_len (q : Int) (ws : List Int) (n : Nat) (x : Int) : (nhL q ws n x).length ≤ 1048576 := by
  cases h : addOk q q ws n x with
  | true => exact okL_len (Nat.le_trans (aloneB_len _ _) (by have := (addOk_parts h).1.hi; omega))
  | false => unfold nhL; rw [okL_no h]; simp

set_option maxRecDepth 20000 in
set_option maxHeartbeats 2000000 in
theorem helps1_any (q : Int) (A A1 : Option Addr) (n cap cap1 j g g2 : Nat) (ws L : List Int) (w : World) (hg : Vo.Good q ws n) (hg' : Vo.Good q L (n + 1)) (hj : j < n) (hk : Known w A n ws) (hk1 : Known w A1 (n + 1) L) (hx : Box w g (.int .i64 q) (.slice A n cap)) (hx1 : Box w g2 (.int .i64 q) (.slice A1 (n + 1) cap1)) (hT : Tab w) :
    Calls Tryd.prog 20 #[.int .u64 (2^j : Nat), .pointer (some ⟨g, 0, none⟩), .pointer (some ⟨g2, 0, none⟩)] w fun e w' => e = .returned (.bool (decide (0 < gainV q ws n (2^j) q L (n + 1) (2^j)))) ∧ Below w.heap.size w w' := by
  have HK := Lib.hid hk
  have HK1 := Lib.hid hk1
  have hn9 := hg.hi
  have hj9 : j < 9 := by omega
  have hj5 : 2^j < 512 := Nat.pow_lt_pow_right (n := 9) (by omega) hj9
  have HF := Lib.hid (show Calls Tryd.prog 21 #[.int .u64 (2^j : Nat)] w fun e w' => e = .returned (.int .i64 j) ∧ w = w' from by
    have h := first_any (2^j) hj5 (Nat.pow_pos (by omega)) w hT
    rw [first_one hj9] at h
    exact h)
  have HGN := Lib.hid (fun W (h : Known W A n ws) (h' : Known W A1 (n + 1) L) => gainSwings_any q q A A1 n cap (n + 1) cap1 (2^j) (2^j) ws L W hg hg' hj5 hj5 h h')
  have HM := Lib.hid (fun (A : Option Addr) (n cap : Nat) W => member_any q A n cap j W hj9)
  obtain ⟨v, hv⟩ : ∃ v, v = gainV q ws n (2^j) q L (n + 1) (2^j) := ⟨_, rfl⟩
  rw [← hv] at HGN ⊢
  obtain ⟨s, hs⟩ : ∃ s, s = 2^j := ⟨_, rfl⟩
  rw [← hs] at HGN HM HF ⊢
  clear hv hs hg hg' hk hk1 hj5
  obtain ⟨c0, c1⟩ := hx.cells
  obtain ⟨d0, d1⟩ := hx1.cells
  go_enter Tryd.func20, Tryd.ntmps20
  go_wp2_with fail
  refine HF.out.mono ?_
  rintro e w2 ⟨rfl, rfl⟩
  go_wp2_with fail
  go_region_held3 (fun w' => w'.cell? ⟨g, 0, none⟩ = some (.int .i64 q) ∧ w'.cell? ⟨g, 1, none⟩ = some (.slice A n cap) ∧ w'.cell? ⟨g2, 0, none⟩ = some (.int .i64 q) ∧ w'.cell? ⟨g2, 1, none⟩ = some (.slice A1 (n + 1) cap1))
    (first | with_reducible exact ⟨c0, c1, d0, d1⟩ | with_reducible exact ⟨e0, e1, e2, e3⟩ | with_reducible exact ⟨f0, f1, f2, f3⟩ | with_reducible exact ⟨k0, k1, k2, k3⟩ | go_keep)
    (first
      | (go_at_call 22; refine (HGN.out _ (HK.out.now (bfrom (bfrom (Below.refl _ _).drew hb3) hb4)) (HK1.out.now (bfrom (bfrom (Below.refl _ _).drew hb3) hb4))).mono ?_; rintro e w5 ⟨rfl, hb5⟩; obtain ⟨k0, k1⟩ := (((hx.drew.now hb3).now hb4).now hb5).cells; obtain ⟨k2, k3⟩ := (((hx1.drew.now hb3).now hb4).now hb5).cells)
      | (go_at_call 23; (with_reducible refine (HM.out A1 (n + 1) cap1 w3).mono ?_); rintro e w4 ⟨rfl, hb4⟩; obtain ⟨f0, f1⟩ := ((hx.drew.now hb3).now hb4).cells; obtain ⟨f2, f3⟩ := ((hx1.drew.now hb3).now hb4).cells)
      | (go_at_call 23; (with_reducible refine (HM.out A n cap w.drew).mono ?_); rintro e w3 ⟨rfl, hb3⟩; obtain ⟨e0, e1⟩ := (hx.drew.now hb3).cells; obtain ⟨e2, e3⟩ := (hx1.drew.now hb3).cells)
      | fail)
  all_goals
    go_wp2
    go_ret
    exact ⟨rfl, bfrom (Below.refl _ _).drew (bfrom (bfrom hb3 hb4) hb5)⟩

set_option maxRecDepth 20000 in
set_option maxHeartbeats 2000000 in
theorem newcomerHelps_any (q : Int) (A : Option Addr) (n cap : Nat) (ws : List Int) (x : Int) (w : World) (hm : n ≤ 9223372036854775807) (hk : Known w A n ws) (hxw : (Lit.int .i64 x).wf = true) (hT : Tab w) :
    Calls Tryd.prog 7 #[.agg #[.int .i64 q, .slice A n cap], .int .i64 x] w fun e w' => PairAt (nhL q ws n x) (addOk q q ws n x) w w' e := by
  have HK := Lib.hid hk
  have HT := Lib.hid hT
  clear hk hT
  have hb0 := below1 w (.cells #[.int .i64 q, .slice A n cap] 28)
  have hx := Box.new w (.int .i64 q) (.slice A n cap)
  have HAD := Lib.hid (fun W (h : Known W A n ws) => addMember_any q A n cap ws x W hm h hxw)
  obtain ⟨c0, c1⟩ := hx.cells
  cases hok : addOk q q ws n x with
  | false =>
    have HV := Lib.hid (show nhL q ws n x = [] from okL_no hok)
    rw [hok] at HAD
    clear hok
    go_enter Tryd.func7, Tryd.ntmps7
    go_wp2_with fail
    refine (HAD.out _ (HK.out.now hb0)).mono ?_
    rintro e w1 ⟨A1, cap1, rfl, _, hb1⟩
    have g1 := bfrom hb0 hb1
    have g2 := bfrom g1 (below1 w1 (.cells #[.int .i64 (addQ q q ws n x), .slice A1 (addN q q ws n x) cap1] 28))
    go_wp2
    go_ret2
    rw [HV.out]
    exact PairAt.none_ g2
  | true =>
    obtain ⟨hg, hg'⟩ := addOk_parts hok
    have HV := Lib.hid (show nhL q ws n x = aloneL (helpB q ws n x) n from okL_yes hok)
    rw [hok, show addQ q q ws n x = q from if_pos hok, show addN q q ws n x = n + 1 from if_pos hok] at HAD
    have hn9 := hg.hi
    have hn1 := hg.lo
    have HMT := Lib.hid (fun A1 cap1 g g2 W (h : Known W A n ws) (h1 : Known W A1 (n + 1) (addL ws n x)) (h2 : Box W g (.int .i64 q) (.slice A n cap)) (h3 : Box W g2 (.int .i64 q) (.slice A1 (n + 1) cap1)) (h4 : Tab W) =>
      membersThat1_any (helpB q ws n x) 20 #[] #[.pointer (some ⟨g, 0, none⟩), .pointer (some ⟨g2, 0, none⟩)] (.int .i64 q) A n cap W (by omega)
        ⟨enters_of Tryd.func20 (by kernel_rfl) rfl, fun W' j hj hb => by
          have h := helps1_any q A A1 n cap cap1 j g g2 ws (addL ws n x) W' hg hg' hj (h.now hb) (h1.now hb) (h2.now hb) (h3.now hb) (h4.now hb)
          unfold helpB
          rw [first_one (by omega)]
          exact h⟩)
    obtain ⟨L, hL⟩ : ∃ L, L = addL ws n x := ⟨_, rfl⟩
    rw [← hL] at HAD HMT
    obtain ⟨R, hR⟩ : ∃ R, R = aloneL (helpB q ws n x) n := ⟨_, rfl⟩
    rw [← hR] at HV HMT
    clear hok hg hg' hL hR
    go_enter Tryd.func7, Tryd.ntmps7
    go_wp2_with fail
    refine (HAD.out _ (HK.out.now hb0)).mono ?_
    rintro e w1 ⟨A1, cap1, rfl, hh1, hb1⟩
    have g1 := bfrom hb0 hb1
    have b2 := below1 w1 (.cells #[.int .i64 q, .slice A1 (n + 1) cap1] 28)
    have g2 := bfrom g1 b2
    have hx2 := (hx.now hb1).alloc (.cells #[.int .i64 q, .slice A1 (n + 1) cap1] 28)
    have hm2 := Box.new w1 (.int .i64 q) (.slice A1 (n + 1) cap1)
    have HK1 := Lib.hid (hh1.known.now b2)
    clear hh1 c0 c1
    obtain ⟨c0, c1⟩ := hx2.cells
    go_wp2_with fail
    refine (HMT.out A1 cap1 _ _ _ (HK.out.now g2) HK1.out hx2 hm2 (HT.out.now g2)).mono ?_
    rintro e w4 ⟨A4, cap4, rfl, hown4, hb4⟩
    have HO4 := Lib.hid hown4
    have hz2 := g2.size
    clear hown4
    go_wp2
    go_ret2
    exact ⟨A4, cap4, by rw [HV.out]; rfl, by rw [HV.out]; exact owns_less HO4.out hz2, bfrom g2 hb4⟩
theorem newcomerHelps_ans (q : Int) (A : Option Addr) (n cap : Nat) (ws : List Int) (x : Int) (w : World) (hm : n ≤ 9223372036854775807) (hk : Known w A n ws) (hxw : (Lit.int .i64 x).wf = true) (hT : Tab w) :
    Calls Tryd.prog 7 #[.agg #[.int .i64 q, .slice A n cap], .int .i64 x] w fun e w' => Ans (RS (nhL q ws n x)) (addOk q q ws n x) w w' e := (newcomerHelps_any q A n cap ws x w hm hk hxw hT).mono fun _ _ h => h.ans
end Go.Proofs.YtipplbcjdcdapabDoor
