/- Is it a trade, the program's isTrade. -/
import Derived.Test.YtpcijgdpinmcmaaDu
import Derived.Test.YtpcijgdpinmcmaaDv
import Derived.Test.YtpcijgdpinmcmaaEb
namespace Go.Proofs.Ytpcijgdpinmcmaa
open Go.RowKit Vo

/-- Have two lists of sets the same tally? -/
def tlE (S T : List Nat) : Bool := (List.range 9).all fun k => tlN S S.length k == tlN T T.length k
theorem tlE_all (S T : List Nat) : ([0, 1, 2, 3, 4, 5, 6, 7, 8] : List Nat).all (fun i => ((tlN S S.length i : Nat) : Int) == ((tlN T T.length i : Nat) : Int)) = tlE S T := by
  unfold tlE
  rw [show List.range 9 = [0, 1, 2, 3, 4, 5, 6, 7, 8] from rfl]
  congr 1
  funext i
  rw [Bool.eq_iff_iff, beq_iff_eq, beq_iff_eq]
  omega

set_option maxHeartbeats 1000000 in
theorem eq_tally (S T : List Nat) (w : World) : (binOp .eql 112 (tlV S) (tlV T)).run Try.prog w = .ok (.bool (tlE S T)) w := by
  have hz := Try.sizeOf3
  have hu := run_underlying Try.underlying112
  have hl := eq_list #[.int .i64 (tlN S S.length 0 : Nat), .int .i64 (tlN S S.length 1 : Nat), .int .i64 (tlN S S.length 2 : Nat), .int .i64 (tlN S S.length 3 : Nat), .int .i64 (tlN S S.length 4 : Nat), .int .i64 (tlN S S.length 5 : Nat), .int .i64 (tlN S S.length 6 : Nat), .int .i64 (tlN S S.length 7 : Nat), .int .i64 (tlN S S.length 8 : Nat)] #[.int .i64 (tlN T T.length 0 : Nat), .int .i64 (tlN T T.length 1 : Nat), .int .i64 (tlN T T.length 2 : Nat), .int .i64 (tlN T T.length 3 : Nat), .int .i64 (tlN T T.length 4 : Nat), .int .i64 (tlN T T.length 5 : Nat), .int .i64 (tlN T T.length 6 : Nat), .int .i64 (tlN T T.length 7 : Nat), .int .i64 (tlN T T.length 8 : Nat)] (fun i => (tlN S S.length i : Nat)) (fun i => (tlN T T.length i : Nat)) w [0, 1, 2, 3, 4, 5, 6, 7, 8] (fun i hi => by
      simp at hi
      rcases hi with rfl | rfl | rfl | rfl | rfl | rfl | rfl | rfl | rfl <;> exact ⟨rfl, rfl⟩)
  rw [tlE_all S T] at hl
  unfold tlV
  rw [run_eql_struct]
  rw [show (10000 : Nat) = 9999 + 1 from rfl]
  unfold Op.equalIn
  simp only [Sem.run_bind, hu, Result.andThen_ok, hz]
  simp only [Std.Legacy.Range.forIn_eq_forIn_range', Std.Legacy.Range.size, List.range']
  refine (congrArg (fun r => Result.andThen (Result.andThen r _) _) hl).trans ?_
  cases tlE S T <;> rfl
theorem guard_tally (S T : List Nat) (x y : Operand) (w : World) : (eqGuard .eql 112 x y (tlV S) (tlV T)).run Try.prog w = .ok () w := by
  unfold tlV
  exact run_eqGuard_agg w _ _ _ _ _ _ (by kernel_rfl)
/-- Is it a trade of a game of n members whose least winning sets are S? -/
def trCount (n1 n2 : Nat) : Bool := decide (2 ≤ n1 ∧ n1 ≤ 3 ∧ n2 = n1)
def tradeB (S : List Nat) (n : Nat) (L1 L2 : List (List Int)) : Bool :=
  trCount L1.length L2.length && (sideB (fun s => !winS S s) n L1 && (sideB (winS S) n L2 && tlE (setsN L1) (setsN L2)))
theorem SideAt.yes {p : Nat → Bool} {n : Nat} {L : List (List Int)} {w w' : World} {e : Ending} (h : SideAt p n L w w' e) (hs : sideB p n L = true) : Below w.heap.size w w' ∧ ∃ B cp, e = .returned (.tuple #[.slice B L.length cp, .bool true]) ∧ w'.ownsRow w.heap.size 94 1 (.slice B L.length cp) L.length (setsV (setsN L)) := by
  rcases h with ⟨hb, ⟨_, h⟩ | ⟨h, _⟩⟩
  · exact ⟨hb, h⟩
  · rw [hs] at h; cases h
theorem SideAt.no {p : Nat → Bool} {n : Nat} {L : List (List Int)} {w w' : World} {e : Ending} (h : SideAt p n L w w' e) (hs : sideB p n L = false) : Below w.heap.size w w' ∧ e = .returned (.tuple #[.slice none 0 0, .bool false]) := by
  rcases h with ⟨hb, ⟨h, _⟩ | ⟨_, h⟩⟩
  · rw [hs] at h; cases h
  · exact ⟨hb, h⟩
theorem sideB_rise {p : Nat → Bool} {n : Nat} {L : List (List Int)} (h : sideB p n L = true) : riseRows n L = true := by unfold sideB at h; simp only [Bool.and_eq_true] at h; exact h.1

set_option maxRecDepth 20000 in
set_option maxHeartbeats 4000000 in
theorem gIsTrade_any (S : List Nat) (n base k cap : Nat) (G : Option Addr) (A1 : Option Addr) (n1 c1 : Nat) (L1 : List (List Int)) (A2 : Option Addr) (n2 c2 : Nat) (L2 : List (List Int)) (w : World) (hn : n ≤ 9) (hk : k = S.length) (hs : k ≤ 1048576) (hS : ∀ t ∈ S, t < 512) (hown : w.ownsRow base 94 1 (.slice G k cap) k (setsV S))
    (hl1 : n1 ≤ 1048576) (hl2 : n2 ≤ 1048576) (h1 : Lists w A1 n1 L1) (h2 : Lists w A2 n2 L2) :
    Calls Try.prog 48 #[.agg #[.int .i64 n, .slice G k cap], .agg #[.slice A1 n1 c1, .slice A2 n2 c2]] w fun e w' => e = .returned (.bool (tradeB S n L1 L2)) ∧ Below w.heap.size w w' := by
  have b1 := below1 w (.cells #[.int .i64 n, .slice G k cap] 81)
  have x1 := (BoxT.new 81 w (.int .i64 n) (.slice G k cap)).now (below1 _ (.cells #[.slice A1 n1 c1, .slice A2 n2 c2] 33))
  have x2 := BoxT.new 33 (w.alloc (.cells #[.int .i64 n, .slice G k cap] 81)) (.slice A1 n1 c1) (.slice A2 n2 c2)
  have b2 := b1.alloc (by simp) (.cells #[.slice A1 n1 c1, .slice A2 n2 c2] 33)
  simp only [World.size_alloc] at x2
  have e1 : L1.length = n1 := h1.1
  have e2 : L2.length = n2 := h2.1
  have HTB := Lib.hid (show tradeB S n L1 L2 = (trCount n1 n2 && (sideB (fun s => !winS S s) n L1 && (sideB (winS S) n L2 && tlE (setsN L1) (setsN L2)))) from by unfold tradeB; rw [e1, e2])
  have HY1 := Lib.hid (fun W (hb : Below w.heap.size w W) (hp : 1 ≤ n1) => readSide_any _ _ _ _ n (.slice G k cap) A1 n1 c1 L1 W hn hl1 hp (h1.now hb) (gLoses_asks S n base k cap 9 G W (by omega) hk hs hS (owns_now hown hb)))
  have HY2 := Lib.hid (fun W (hb : Below w.heap.size w W) (hp : 1 ≤ n2) => readSide_any _ _ _ _ n (.slice G k cap) A2 n2 c2 L2 W hn hl2 hp (h2.now hb) (gWins_asks S n base k cap 9 G W (by omega) hk hs hS (owns_now hown hb)))
  have HU1 := Lib.hid (fun W base cp B (hr : riseRows n L1 = true) h => tally_any (setsN L1) base n1 cp B W (by rw [← e1]; unfold setsN; simp) hl1 (riseRows_512 hn hr) h)
  have HU2 := Lib.hid (fun W base cp B (hr : riseRows n L2 = true) h => tally_any (setsN L2) base n2 cp B W (by rw [← e2]; unfold setsN; simp) hl2 (riseRows_512 hn hr) h)
  obtain ⟨ca, cb⟩ := x1.cells
  obtain ⟨cc, cd⟩ := x2.cells
  have X1 := Lib.hid x1
  have X2 := Lib.hid x2
  clear x1 x2 h1 h2 hown hS hk b1
  cases hct : trCount n1 n2 with
  | false =>
    have HN := Lib.hid (show tradeB S n L1 L2 = false from by rw [HTB.out, hct]; rfl)
    have hcc : (n1 : Int) < 2 ∨ (3 < (n1 : Int)) ∨ ((n2 : Int) ≠ (n1 : Int)) := by
      unfold trCount at hct
      have := of_decide_eq_false hct
      omega
    clear hct
    by_cases ha : (n1 : Int) < 2
    · go_enter Try.func48, Try.ntmps48
      go_wp2
      go_ret
      exact ⟨by rw [HN.out]; rfl, b2⟩
    · by_cases hb : 3 < (n1 : Int)
      · go_enter Try.func48, Try.ntmps48
        go_wp2
        go_ret
        exact ⟨by rw [HN.out]; rfl, b2⟩
      · have hc : ((n2 : Int) ≠ (n1 : Int)) := by omega
        have hc' : ((n2 : Int) != (n1 : Int)) = true := by rw [bne_iff_ne]; exact hc
        go_enter Try.func48, Try.ntmps48
        go_wp2
        go_ret
        exact ⟨by rw [HN.out]; rfl, b2⟩
  | true =>
    obtain ⟨h2n, h3n, rfl⟩ : 2 ≤ n1 ∧ n1 ≤ 3 ∧ n2 = n1 := of_decide_eq_true hct
    have HNT := Lib.hid (show tradeB S n L1 L2 = (sideB (fun s => !winS S s) n L1 && (sideB (winS S) n L2 && tlE (setsN L1) (setsN L2))) from by rw [HTB.out, hct]; rfl)
    have i2 : ¬ (n2 : Int) < 2 := by omega
    have i3 : ¬ 3 < (n2 : Int) := by omega
    have i4 : ((n2 : Int) != (n2 : Int)) = false := by simp
    clear hct HTB
    cases hs1 : sideB (fun s => !winS S s) n L1 with
    | false =>
      have HN := Lib.hid (show tradeB S n L1 L2 = false from by rw [HNT.out, hs1]; rfl)
      go_enter Try.func48, Try.ntmps48
      go_wp2_with fail
      refine (HY1.out _ b2 (by omega)).mono ?_
      rintro e w1 h
      obtain ⟨hb1, rfl⟩ := h.no hs1
      have g1 := bfrom b2 hb1
      obtain ⟨da, db⟩ := (X1.out.now hb1).cells
      obtain ⟨dc, dd⟩ := (X2.out.now hb1).cells
      clear ca cb cc cd hs1
      go_wp2_with fail
      refine (HY2.out _ g1 (by omega)).mono ?_
      rintro e w2 h2
      cases hs2 : sideB (winS S) n L2 with
      | false =>
        obtain ⟨hb2, rfl⟩ := h2.no hs2
        go_wp2
        go_ret
        exact ⟨by rw [HN.out]; rfl, bfrom g1 hb2⟩
      | true =>
        obtain ⟨hb2, B, cp, rfl, _⟩ := h2.yes hs2
        go_wp2
        go_ret
        exact ⟨by rw [HN.out]; rfl, bfrom g1 hb2⟩
    | true =>
      have hr1 := sideB_rise hs1
      go_enter Try.func48, Try.ntmps48
      go_wp2_with fail
      refine (HY1.out _ b2 (by omega)).mono ?_
      rintro e w1 h
      obtain ⟨hb1, B, cp, rfl, hown1⟩ := h.yes hs1
      rw [e1] at hown1 ⊢
      have HO1 := Lib.hid hown1
      have g1 := bfrom b2 hb1
      obtain ⟨da, db⟩ := (X1.out.now hb1).cells
      obtain ⟨dc, dd⟩ := (X2.out.now hb1).cells
      clear ca cb cc cd hown1
      go_wp2_with fail
      refine (HY2.out _ g1 (by omega)).mono ?_
      rintro e w2 h2
      cases hs2 : sideB (winS S) n L2 with
      | false =>
        have HN := Lib.hid (show tradeB S n L1 L2 = false from by rw [HNT.out, hs1, hs2]; rfl)
        obtain ⟨hb2, rfl⟩ := h2.no hs2
        clear hs1 hs2
        go_wp2
        go_ret
        exact ⟨by rw [HN.out]; rfl, bfrom g1 hb2⟩
      | true =>
        have HN := Lib.hid (show tradeB S n L1 L2 = tlE (setsN L1) (setsN L2) from by rw [HNT.out, hs1, hs2]; rfl)
        have hr2 := sideB_rise hs2
        obtain ⟨hb2, B2, cp2, rfl, hown2⟩ := h2.yes hs2
        rw [e2] at hown2 ⊢
        have g2 := bfrom g1 hb2
        have HT1 := Lib.hid (HU1.out w2 _ _ _ hr1 (owns_now HO1.out hb2))
        have HT2 := Lib.hid (fun W (hb : Below w2.heap.size w2 W) => HU2.out W _ _ _ hr2 (owns_now hown2 hb))
        clear hs1 hs2 hown2
        obtain ⟨P, hP⟩ : ∃ P, P = setsN L1 := ⟨_, rfl⟩
        obtain ⟨Q, hQ⟩ : ∃ Q, Q = setsN L2 := ⟨_, rfl⟩
        rw [← hP] at HT1
        rw [← hP, ← hQ] at HN
        simp only [← hQ] at HT2
        clear hP hQ
        have heg := guard_tally P Q
        have heq := eq_tally P Q
        go_wp2_with fail
        refine HT1.out.mono ?_
        rintro e w3 ⟨rfl, hb3⟩
        go_wp2_with fail
        refine (HT2.out _ hb3).mono ?_
        rintro e w4 ⟨rfl, hb4⟩
        have g4 := bfrom (bfrom g2 hb3) hb4
        go_wp2
        go_ret
        exact ⟨by rw [HN.out]; rfl, g4⟩
end Go.Proofs.Ytpcijgdpinmcmaa
