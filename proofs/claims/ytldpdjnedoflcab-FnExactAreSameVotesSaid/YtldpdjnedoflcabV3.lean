/- The walk of the exact law of AreSameVotes. -/
import Derived.Test.YtldpdjnedoflcabL1
import Derived.Test.YtldpdjnedoflcabV2
import Derived.Test.YtldpdjnedoflcabV4
namespace Go.Proofs.Ytldpdjnedoflcab
open Go.RowKit Vo

set_option maxHeartbeats 400000 in
theorem szCommittee_yes2 (v : Value) (A : Option Addr) (n cap : Nat) (l : Int) (w : World) (h0 : (n : Int) ≤ l) (h1 : l ≤ 1048576) :
    Calls Try.prog 15 #[.agg #[v, .slice A n cap], .int .i64 l] w fun e w' => e = .returned (.int .i64 (l - n)) ∧ Below w.heap.size w w' := by
  go_enter Try.func15, Try.ntmps15
  go_wp2_with fail
  refine (szIntS_yes A n cap l _ h0 h1).mono ?_
  rintro e w1 ⟨rfl, rfl⟩
  go_wp2
  go_ret
  exact ⟨rfl, below1 _ _⟩
set_option maxHeartbeats 400000 in
theorem szCommittee_no2 (v : Value) (A : Option Addr) (n cap : Nat) (l : Int) (w : World) (hm : n ≤ 9223372036854775807) (hl : 0 ≤ l) (h0 : l < (n : Int)) (h1 : l ≤ 1048576) :
    Calls Try.prog 15 #[.agg #[v, .slice A n cap], .int .i64 l] w fun e w' => e = .returned (.int .i64 (-1)) ∧ Below w.heap.size w w' := by
  go_enter Try.func15, Try.ntmps15
  go_wp2_with fail
  refine (szIntS_no A n cap l _ hm hl h0 h1).mono ?_
  rintro e w1 ⟨rfl, rfl⟩
  go_wp2
  go_ret
  exact ⟨rfl, below1 _ _⟩

set_option maxHeartbeats 4000000 in
theorem lawAreSameVotes (q : Int) (A : Option Addr) (n cap : Nat) (ws : List Int) (q2 : Int) (A2 : Option Addr) (n2 cap2 : Nat) (ws2 : List Int) (w : World) (hm : n ≤ 9223372036854775807) (hk : Known w A n ws) (hm2 : n2 ≤ 9223372036854775807) (hk2 : Known w A2 n2 ws2) :
    Calls Try.prog 9 #[.agg #[.int .i64 q, .slice A n cap], .agg #[.int .i64 q2, .slice A2 n2 cap2]] w fun e w' => e = .returned (.bool true) ∧ Below w.heap.size w w' := by
  have HK := Lib.hid hk
  have HK2 := Lib.hid hk2
  clear hk hk2
  have hx0 := (BoxT.new 24 w (.int .i64 q) (.slice A n cap)).alloc (.cells #[.int .i64 q2, .slice A2 n2 cap2] 24)
  have hy0 := BoxT.new 24 (w.alloc (.cells #[.int .i64 q, .slice A n cap] 24)) (.int .i64 q2) (.slice A2 n2 cap2)
  simp only [World.size_alloc] at hy0
  have hb0 : Below w.heap.size w ((w.alloc (.cells #[.int .i64 q, .slice A n cap] 24)).alloc (.cells #[.int .i64 q2, .slice A2 n2 cap2] 24)) := (below1 w _).alloc (by simp) _
  by_cases hn : 1048576 < n
  · go_enter Try.func9, Try.ntmps9
    go_wp2_with fail
    refine (szCommittee_no _ A n cap _ hm hn).mono ?_
    rintro e w1 ⟨rfl, hb1⟩
    go_wp2
    go_ret
    exact ⟨rfl, bfrom hb0 hb1⟩
  have hn' : n ≤ 1048576 := by omega
  by_cases hnb : (1048576 : Int) - n < n2
  · go_enter Try.func9, Try.ntmps9
    go_wp2_with fail
    refine (szCommittee_yes _ A n cap _ hn').mono ?_
    rintro e w1 ⟨rfl, hb1⟩
    obtain ⟨d0, d1⟩ := (hy0.now hb1).cells
    go_wp2_with fail
    refine (szCommittee_no2 _ A2 n2 cap2 _ _ hm2 (by omega) hnb (by omega)).mono ?_
    rintro e w2 ⟨rfl, hb2⟩
    go_wp2
    go_ret
    exact ⟨rfl, bfrom (bfrom hb0 hb1) hb2⟩
  have hn2' : n2 ≤ 1048576 := by omega
  have hnb' : (n2 : Int) ≤ 1048576 - n := by omega
  have hl1 : (1048576 : Int) - n ≤ 1048576 := by omega
  have hpos : (0 : Int) ≤ 1048576 - n - n2 := by omega
  go_enter Try.func9, Try.ntmps9
  go_wp2_with fail
  refine (szCommittee_yes _ A n cap _ hn').mono ?_
  rintro e w1 ⟨rfl, hb1⟩
  have hx1 := hx0.now hb1
  have hy1 := hy0.now hb1
  have g1 := bfrom hb0 hb1
  obtain ⟨c0, c1⟩ := hx1.cells
  obtain ⟨d0, d1⟩ := hy1.cells
  go_wp2_with fail
  refine (szCommittee_yes2 _ A2 n2 cap2 _ _ hnb' hl1).mono ?_
  rintro e w2 ⟨rfl, hb2⟩
  have hx2 := hx1.now hb2
  have hy2 := hy1.now hb2
  have g2 := bfrom g1 hb2
  clear c0 c1 d0 d1 hx0 hy0 hx1 hy1 hb0 hb1 hb2 g1
  have K := Lib.hid (show ∀ W, Below w2.heap.size w2 W → (W.cell? ⟨w.heap.size, 0, none⟩ = some (.int .i64 q) ∧ W.cell? ⟨w.heap.size, 1, none⟩ = some (.slice A n cap) ∧ W.cell? ⟨w.heap.size + 1, 0, none⟩ = some (.int .i64 q2) ∧ W.cell? ⟨w.heap.size + 1, 1, none⟩ = some (.slice A2 n2 cap2)) from fun W hb => ⟨(hx2.now hb).cells.1, (hx2.now hb).cells.2, (hy2.now hb).cells.1, (hy2.now hb).cells.2⟩)
  obtain ⟨c0, c1⟩ := hx2.cells
  obtain ⟨d0, d1⟩ := hy2.cells
  go_wp2_with fail
  go_region_held3 (fun w' => w'.cell? ⟨w.heap.size, 0, none⟩ = some (.int .i64 q) ∧ w'.cell? ⟨w.heap.size, 1, none⟩ = some (.slice A n cap) ∧ w'.cell? ⟨w.heap.size + 1, 0, none⟩ = some (.int .i64 q2) ∧ w'.cell? ⟨w.heap.size + 1, 1, none⟩ = some (.slice A2 n2 cap2))
    (first | go_keep | exact K.out _ gA | exact K.out _ gB | exact K.out _ gC)
    (first
      | (go_at_call 17; ((with_reducible refine (toCommittee_any q A n cap ws _ hn' (HK.out.now g2.drew)).mono ?_)); rintro e wA ⟨rfl, hiA, hbA⟩; have hiA' := Lib.hid hiA.sl; clear hiA; have gA := bfrom (Below.refl _ _).drew hbA)
      | (go_at_call 17; ((with_reducible refine (toCommittee_any q2 A2 n2 cap2 ws2 _ hn2' (HK2.out.now (bfrom g2 gA))).mono ?_)); rintro e wB ⟨rfl, hiB, hbB⟩; have hiB' := Lib.hid hiB.sl; clear hiB; have gB := bfrom gA hbB)
      | (go_at_call 39; refine (sAreSameVotes_any q _ n n ws q2 _ n2 n2 ws2 _ hm (Known.of (hiA'.out.now hbB)) hm2 (Known.of hiB'.out)).mono ?_; rintro e wC ⟨rfl, hbC⟩; have gC := bfrom gB hbC))
  have g3 := bfrom g2 gC
  have hx3 := hx2.now gC
  have hy3 := hy2.now gC
  clear c0 c1 d0 d1 hx2 hy2 K gA gB gC hbA hbB hbC hiA' hiB' g2
  obtain ⟨c0, c1⟩ := hx3.cells
  go_wp2_with fail
  refine (toCommittee_any q A n cap ws _ hn' (HK.out.now g3)).mono ?_
  rintro e w4 ⟨rfl, hi4, hb4⟩
  have g4 := bfrom g3 hb4
  have b4 := below1 w4 (.cells #[.int .i64 q, .slice (some ⟨wC.heap.size + 3, 0, none⟩) n n] 29)
  have hp4 := Box.new w4 (.int .i64 q) (.slice (some ⟨wC.heap.size + 3, 0, none⟩) n n)
  have hs4 := Lib.hid (hi4.sl.now b4)
  have g4a := bfrom g4 b4
  have hx4 := (hx3.now hb4).now b4
  have hy4 := (hy3.now hb4).now b4
  clear hi4 c0 c1
  obtain ⟨d0, d1⟩ := hy4.cells
  go_wp2_with fail
  refine (toCommittee_any q2 A2 n2 cap2 ws2 _ hn2' (HK2.out.now g4a)).mono ?_
  rintro e w5 ⟨rfl, hi5, hb5⟩
  simp only [World.size_alloc] at hi5
  have g5 := bfrom g4a hb5
  have b5 := below1 w5 (.cells #[.int .i64 q2, .slice (some ⟨w4.heap.size + 1 + 3, 0, none⟩) n2 n2] 29)
  have hp5 := (hp4.now hb5).now b5
  have hr5 := Box.new w5 (.int .i64 q2) (.slice (some ⟨w4.heap.size + 1 + 3, 0, none⟩) n2 n2)
  have hs5 := Lib.hid ((hs4.out.now hb5).now b5)
  have ht5 := Lib.hid (hi5.sl.now b5)
  have g5a := bfrom g5 b5
  have hx5 := (hx4.now hb5).now b5
  have hy5 := (hy4.now hb5).now b5
  clear hi5 d0 d1
  obtain ⟨p0, p1⟩ := hp5.cells
  go_wp2_with fail
  refine (areSameVotes_any q _ n n ws q2 _ n2 n2 ws2 _ hm (Known.of hs5.out) hm2 (Known.of ht5.out)).mono ?_
  rintro e w6 ⟨rfl, hb6⟩
  generalize votesB q ws n q2 ws2 n2 = r0
  generalize bothB q ws n q2 ws2 n2 = r1
  have g6 := bfrom g5a hb6
  have hx6 := hx5.now hb6
  have hy6 := hy5.now hb6
  have hp6 := hp5.now hb6
  have hr6 := hr5.now hb6
  have hs6 := Lib.hid (hs5.out.now hb6)
  have ht6 := Lib.hid (ht5.out.now hb6)
  clear p0 p1 hx3 hy3 hb4 g3 g4 g4a b4 hp4 hs4 hx4 hy4 hb5 g5 b5 hp5 hr5 hs5 ht5 g5a hx5 hy5 hb6
  obtain ⟨c0, c1⟩ := hx6.cells
  obtain ⟨p0, p1⟩ := hp6.cells
  go_wp2_with fail
  go_region_held3 (fun w' => w'.cell? ⟨w.heap.size, 0, none⟩ = some (.int .i64 q) ∧ w'.cell? ⟨w.heap.size, 1, none⟩ = some (.slice A n cap) ∧ w'.cell? ⟨w4.heap.size, 0, none⟩ = some (.int .i64 q) ∧ w'.cell? ⟨w4.heap.size, 1, none⟩ = some (.slice (some ⟨wC.heap.size + 3, 0, none⟩) n n))
    (first | go_keep | exact ⟨c80, c81, d80, d81⟩ | exact ⟨c90, c91, d90, d91⟩)
    (first
      | (go_at_call 17; refine (toCommittee_any q A n cap ws _ hn' (HK.out.now g6.drew)).mono ?_; rintro e w8 ⟨rfl, hi8, hb8⟩; have hi8' := Lib.hid hi8; clear hi8; obtain ⟨c80, c81⟩ := (hx6.drew.now hb8).cells; obtain ⟨d80, d81⟩ := (hp6.drew.now hb8).cells)
      | (go_at_call 20; refine (eqCommittee_same q _ _ n n _ _ n ws _ hm (hs6.out.drew.now hb8) hi8'.out.sl).mono ?_; rintro e w9 ⟨rfl, hb9⟩; obtain ⟨c90, c91⟩ := ((hx6.drew.now hb8).now hb9).cells; obtain ⟨d90, d91⟩ := ((hp6.drew.now hb8).now hb9).cells))
  have b69 := bfrom hb8 hb9
  have g9 := bfrom g6.drew b69
  have hy9 := hy6.drew.now b69
  have hr9 := hr6.drew.now b69
  have ht9 := Lib.hid (ht6.out.drew.now b69)
  clear c0 c1 p0 p1 c80 c81 d80 d81 c90 c91 d90 d91 hx6 hy6 hp6 hr6 hs6 ht6 hi8' hb8 hb9 b69 g6
  obtain ⟨c0, c1⟩ := hy9.cells
  obtain ⟨p0, p1⟩ := hr9.cells
  go_wp2_with fail
  go_region_held3 (fun w' => w'.cell? ⟨w.heap.size + 1, 0, none⟩ = some (.int .i64 q2) ∧ w'.cell? ⟨w.heap.size + 1, 1, none⟩ = some (.slice A2 n2 cap2) ∧ w'.cell? ⟨w5.heap.size, 0, none⟩ = some (.int .i64 q2) ∧ w'.cell? ⟨w5.heap.size, 1, none⟩ = some (.slice (some ⟨w4.heap.size + 1 + 3, 0, none⟩) n2 n2))
    (first | go_keep | exact ⟨c80, c81, d80, d81⟩ | exact ⟨c90, c91, d90, d91⟩)
    (first
      | (go_at_call 17; refine (toCommittee_any q2 A2 n2 cap2 ws2 _ hn2' (HK2.out.now g9.drew)).mono ?_; rintro e w10 ⟨rfl, hi8, hb8⟩; have hi8' := Lib.hid hi8; clear hi8; obtain ⟨c80, c81⟩ := (hy9.drew.now hb8).cells; obtain ⟨d80, d81⟩ := (hr9.drew.now hb8).cells)
      | (go_at_call 20; refine (eqCommittee_same q2 _ _ n2 n2 _ _ n2 ws2 _ hm2 (ht9.out.drew.now hb8) hi8'.out.sl).mono ?_; rintro e w11 ⟨rfl, hb9⟩; obtain ⟨c90, c91⟩ := ((hy9.drew.now hb8).now hb9).cells; obtain ⟨d90, d91⟩ := ((hr9.drew.now hb8).now hb9).cells))
  go_wp2
  go_ret
  exact ⟨rfl, bfrom g9.drew (bfrom hb8 hb9)⟩
end Go.Proofs.Ytldpdjnedoflcab
