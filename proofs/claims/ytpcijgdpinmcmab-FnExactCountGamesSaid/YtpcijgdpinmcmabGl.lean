/- The program's list of all games, and how many there are. -/
import Derived.Test.YtpcijgdpinmcmabGk
import Derived.Test.YtpcijgdpinmcmabJ5
import Derived.Outline
namespace Go.Proofs.Ytpcijgdpinmcmab
open Go.RowKit Vo

def gamesK (m : Nat) : List (List Nat) := deepK 16 [] ((inOrder m).drop 1)
theorem gamesK_le : ∀ m, 1 ≤ m → m ≤ 4 → (gamesK m).length ≤ 1000 := by
  intro m h1 h2
  obtain rfl | rfl | rfl | rfl : m = 1 ∨ m = 2 ∨ m = 3 ∨ m = 4 := by omega
  all_goals (unfold gamesK; decide +kernel)
theorem gamesK_512 : ∀ m, 1 ≤ m → m ≤ 4 → ((gamesK m).all fun S => decide (S.length ≤ 16) && S.all fun s => decide (s < 2^m)) = true := by
  intro m h1 h2
  obtain rfl | rfl | rfl | rfl : m = 1 ∨ m = 2 ∨ m = 3 ∨ m = 4 := by omega
  all_goals (unfold gamesK; decide +kernel)
theorem gamesK_get {m i : Nat} (h1 : 1 ≤ m) (h2 : m ≤ 4) (hi : i < (gamesK m).length) : ((gamesK m).getD i []).length ≤ 16 ∧ ∀ s ∈ (gamesK m).getD i [], s < 2^m := by
  have h := List.all_eq_true.1 (gamesK_512 m h1 h2) ((gamesK m).getD i []) (by rw [List.getD_eq_getElem?_getD, List.getElem?_eq_getElem hi]; exact List.getElem_mem hi)
  simp only [Bool.and_eq_true, decide_eq_true_eq, List.all_eq_true] at h
  exact h

set_option maxRecDepth 20000 in
set_option maxHeartbeats 4000000 in
theorem gamesOf_any (m : Nat) (w : World) (hm : 1 ≤ m ∧ m ≤ 4) :
    Calls Try.prog 86 #[.int .i64 m] w fun e w' => ∃ v', e = .returned v' ∧ GSb w.heap.size m (gamesK m) v' w' ∧ Below w.heap.size w w' := by
  have hlen := inOrder_len m
  have hpow : 2 ≤ 2^m ∧ 2^m ≤ 16 := by
    obtain rfl | rfl | rfl | rfl : m = 1 ∨ m = 2 ∨ m = 3 ∨ m = 4 := by omega
    all_goals decide
  have HLT := Lib.hid (show ∀ t ∈ (inOrder m).drop 1, t < 512 from fun t ht => by
    have := mem_inOrder.1 (List.mem_of_mem_drop ht)
    omega)
  have HLE := Lib.hid (gamesK_le m hm.1 hm.2)
  obtain ⟨L, hL⟩ : ∃ L, L = inOrder m := ⟨_, rfl⟩
  obtain ⟨N, hN⟩ : ∃ N : Nat, N = L.length := ⟨_, rfl⟩
  have HL := Lib.hid hL
  have HN := Lib.hid hN
  rw [← hL, ← hN] at hlen
  have hN2 : 2 ≤ N ∧ N ≤ 16 := by omega
  clear hL hN hlen hpow
  go_enter Try.func86, Try.ntmps86
  go_wp2_with fail
  refine (setsInOrder_any m _ (by omega)).mono ?_
  rintro e w1 ⟨A, cp, rfl, hown, hb⟩
  rw [← HL.out, ← HN.out] at hown ⊢
  obtain ⟨g, cp', hv, hg, hc1, hc2⟩ := owns_head hown (by omega)
  obtain ⟨rfl, rfl⟩ : A = some ⟨g, 0, none⟩ ∧ cp = cp' := by simpa using hv
  have hgl := (hown.lt g rfl).2
  have hsz := hb.size
  have HA := Lib.hid (appendGames_any m w.heap.size 16 [] [] (L.drop 1) (.slice none 0 0) none 0 0 g 1 (N - 1) (cp - 1) w1 (by rw [List.length_drop, ← HN.out]; omega) (by rw [List.length_drop, ← HN.out]) (by omega) (by unfold maxLen at hc2; omega) rfl (by omega) (by rw [HL.out]; exact HLT.out) (Or.inl ⟨rfl, rfl⟩) hgl (by simp [Value.ownBlock])
    (fun i hi => by
      rw [hown.cellAt (1 + i) (by omega)]
      unfold setsV
      have h1 : 1 + i < L.length := by rw [← HN.out]; omega
      rw [List.getElem?_map, List.getElem?_eq_getElem h1, Option.map_some, List.getD_eq_getElem?_getD, List.getElem?_drop, List.getElem?_eq_getElem h1]
      rfl)
    (by have := HLE.out; unfold gamesK at this; rw [HL.out]; simp only [List.length_nil]; omega) (GSb.nil _ _ _) hsz)
  rw [HL.out] at HA
  go_wp2_with fail
  refine HA.out.mono ?_
  rintro e w2 ⟨v', rfl, hgs, hgr, _⟩
  have HG := Lib.hid hgs
  clear hgs
  go_wp2
  go_ret
  refine ⟨_, rfl, HG.out, hb.trans ⟨hgr.os, hgr.tape, hgr.output, by have := hgr.size; omega, fun k hk => hgr.block k (by omega) (by simp [Value.ownBlock])⟩⟩

theorem owns_headS {w : World} {base : Nat} {e : TypeId} {size : Nat} {v : Value} {n : Nat} {xs : List Value} (h : w.ownsRow base e size v n xs) (hn : 0 < n) : ∃ g cap, v = .slice (some ⟨g, 0, none⟩) n cap ∧ base ≤ g ∧ n ≤ cap ∧ cap ≤ maxLen := by
  obtain ⟨h1, h2⟩ := h
  rcases h2 with ⟨_, h2⟩ | ⟨g', cap, cur, hv, hg', hh, h3, h4, r⟩
  · omega
  · exact ⟨g', cap, hv, hg', h3, h4⟩
/-- A question about games of m members, as a function value. -/
structure KindG (p : List Nat → Bool) (k m : Nat) : Prop where
  enters : ∀ args W, (callFunc k args).run Try.prog W = .ok (.enter k args) W
  gives : ∀ (W : World) (base : Nat) (L : List Nat) (A : Option Addr) (n cap : Nat), n = L.length → n ≤ 16 → (∀ t ∈ L, t < 512) → W.ownsRow base 111 1 (.slice A n cap) n (setsV L) → Calls Try.prog k #[.agg #[.int .i64 m, .slice A n cap]] W fun e W' => e = .returned (.bool (p L)) ∧ Below W.heap.size W W'

theorem countP_succ {p : List Nat → Bool} {Ls : List (List Nat)} {j : Nat} (h : j < Ls.length) : (Ls.take (j+1)).countP p = (Ls.take j).countP p + (if p (Ls.getD j []) then 1 else 0) := by
  rw [List.take_add_one, List.countP_append, List.getD_eq_getElem?_getD, List.getElem?_eq_getElem h]
  simp [List.countP_cons]

set_option maxRecDepth 20000 in
set_option maxHeartbeats 4000000 in
theorem countGames_any (p : List Nat → Bool) (k m : Nat) (w : World) (hm : 1 ≤ m ∧ m ≤ 4) (hp : KindG p k m) :
    Calls Try.prog 77 #[.int .i64 m, .func (.func k) #[] #[]] w fun e w' => e = .returned (.tuple #[.int .i64 ((gamesK m).countP p : Nat), .bool true]) ∧ Below w.heap.size w w' := by
  have HP := Lib.hid hp
  have eg := hp.enters
  have HLE := Lib.hid (gamesK_le m hm.1 hm.2)
  have HGET := Lib.hid (fun i hi => gamesK_get (m := m) (i := i) hm.1 hm.2 hi)
  have hpow : 2^m ≤ 512 := by
    obtain rfl | rfl | rfl | rfl : m = 1 ∨ m = 2 ∨ m = 3 ∨ m = 4 := by omega
    all_goals decide
  have HG := Lib.hid (gamesOf_any m · hm)
  obtain ⟨Ls, hLs⟩ : ∃ Ls, Ls = gamesK m := ⟨_, rfl⟩
  rw [← hLs] at HLE HGET HG ⊢
  clear hLs hp
  obtain ⟨N, hN⟩ : ∃ N : Nat, N = Ls.length := ⟨_, rfl⟩
  rw [← hN] at HLE
  have hN9 : N ≤ 1000 := HLE.out
  have HN := Lib.hid hN
  have HCL := Lib.hid (show ∀ j, (Ls.take j).countP p ≤ j from fun j => Nat.le_trans List.countP_le_length (by rw [List.length_take]; omega))
  clear hN
  go_enter Try.func77, Try.ntmps77
  go_wp2_with fail
  refine (HG.out _).mono ?_
  rintro e w1 ⟨v', rfl, hgs, hb⟩
  obtain ⟨xs, G, C, hown, hgs⟩ := hgs
  rw [← HN.out] at hown
  have hnn := hown.1
  obtain ⟨A, cap, rfl⟩ : ∃ A cap, v' = .slice A N cap := by
    rcases hown.2 with ⟨h, hz⟩ | ⟨q, cp', cur, hv, _⟩
    · exact ⟨none, 0, by rw [h, hz]⟩
    · exact ⟨_, _, hv⟩
  have HO := Lib.hid hown
  have HGS := Lib.hid hgs
  clear hgs
  go_wp2_with fail
  go_loopw [6, 18] (fun c i wr => ∃ j : Nat, j ≤ N ∧ i = .int .i64 j ∧ c = .int .i64 ((Ls.take j).countP p : Nat) ∧ Below w1.heap.size w1 wr) (fun _ i _ => N - (intOf i).toNat)
  case atStart => exact ⟨0, Nat.zero_le _, rfl, by simp, Below.refl _ _⟩
  case round =>
    obtain ⟨j, hj, rfl, rfl, hbr⟩ := hrel
    have HB := Lib.hid hbr
    clear hbr
    have hcj := HCL.out j
    by_cases hlt : j < N
    · obtain ⟨g, cp', hv, hg, hc1, hc2⟩ := owns_headS hown (by omega)
      obtain ⟨rfl, rfl⟩ : A = some ⟨g, 0, none⟩ ∧ cap = cp' := by simpa using hv
      obtain ⟨x0, x1, _, ho⟩ := HGS.out j (by rw [← HN.out]; exact hlt)
      obtain ⟨h16, h512⟩ := HGET.out j (by rw [← HN.out]; exact hlt)
      have HS := Lib.hid (countP_succ (p := p) (Ls := Ls) (j := j) (by rw [← HN.out]; exact hlt))
      have hlo := owns_now HO.out HB.out
      have hc0 : wr.cell? ⟨g, j * 2, none⟩ = some (.int .i64 m) := by rw [hlo.cellAt (j*2) (by omega)]; exact x0
      have hc1' : wr.cell? ⟨g, j * 2 + 1, none⟩ = some (.slice (some ⟨G j, 0, none⟩) (Ls.getD j []).length (C j)) := by rw [hlo.cellAt (j*2+1) (by omega)]; exact x1
      obtain ⟨S, hS⟩ : ∃ S, S = Ls.getD j [] := ⟨_, rfl⟩
      rw [← hS] at hc1' ho h16 h512 HS
      obtain ⟨kk, hkk⟩ : ∃ kk, kk = S.length := ⟨_, rfl⟩
      rw [← hkk] at hc1' ho h16
      have HF := Lib.hid (show ∀ W, Below wr.heap.size wr W → Calls Try.prog k #[.agg #[.int .i64 m, .slice (some ⟨G j, 0, none⟩) kk (C j)]] W fun e W' => e = .returned (.bool (p S)) ∧ Below W.heap.size W W' from fun W hW => HP.out.gives W _ S _ kk _ hkk h16 (fun t ht => by have := h512 t ht; omega) (owns_now (owns_now ho HB.out) hW))
      clear x0 x1 ho hlo hv hS hkk h512
      have HB1 := Lib.hid (fun u v => (below1 wr (.cells #[u, v] 73)))
      have HBW := Lib.hid (show ∀ (u v : Value) W, Below (wr.alloc (.cells #[u, v] 73)).heap.size (wr.alloc (.cells #[u, v] 73)) W → Below w1.heap.size w1 W from fun u v W h => HB.out.trans ((bfrom (below1 wr _) h).mono HB.out.size))
      cases hps : p S
      · rw [hps] at HS HF
        have HS2 := Lib.hid (show (Ls.take (j+1)).countP p = (Ls.take j).countP p from by rw [HS.out]; rfl)
        clear hps HS
        go_wp2_with (go_at_fn k; refine (HF.out _ (below1 wr _)).mono ?_; rintro e w' ⟨rfl, hb'⟩)
        go_roundw
        case rel => exact ⟨j + 1, by omega, by go_num, by rw [HS2.out], HBW.out _ _ _ hb'⟩
        case measure => simp [intOf]; omega
      · rw [hps] at HS HF
        have HS2 := Lib.hid (show (Ls.take (j+1)).countP p = (Ls.take j).countP p + 1 from by rw [HS.out]; rfl)
        clear hps HS
        go_wp2_with (go_at_fn k; refine (HF.out _ (below1 wr _)).mono ?_; rintro e w' ⟨rfl, hb'⟩)
        go_roundw
        case rel => exact ⟨j + 1, by omega, by go_num, by rw [HS2.out]; first | rfl | (simp; done) | go_num, HBW.out _ _ _ hb'⟩
        case measure => simp [intOf]; omega
    · obtain rfl : j = N := by omega
      go_wp2
      go_ret2
      exact ⟨by rw [HN.out, List.take_length]; rfl, bfrom hb HB.out⟩

theorem kindAny (m : Nat) : KindG (fun _ => true) 78 m := by
  refine ⟨enters_of Try.func78 (by kernel_rfl) rfl, fun W base L A n cap hn h16 hL ho => ?_⟩
  have hb := below1 W (.cells #[.int .i64 m, .slice A n cap] 73)
  clear ho hL hn
  go_enter Try.func78, Try.ntmps78
  go_wp2
  go_ret
  exact ⟨rfl, hb⟩
theorem kindProper (m : Nat) (hm : m ≤ 4) : KindG (fun L => allK (properS (winS L) m) (2^m)) 79 m :=
  ⟨enters_of Try.func79 (by kernel_rfl) rfl, fun W base L A n cap hn h16 hL ho => gProper_any L m base n cap A W (by omega) hn (by omega) hL ho⟩

theorem gamesK_any : ∀ m, 1 ≤ m → m ≤ 4 → (gamesK m).countP (fun _ => true) = gamesC false (m : Int) := by
  intro m h1 h2
  obtain rfl | rfl | rfl | rfl : m = 1 ∨ m = 2 ∨ m = 3 ∨ m = 4 := by omega
  all_goals decide +kernel
theorem gamesK_proper : ∀ m, 1 ≤ m → m ≤ 4 → (gamesK m).countP (fun L => allK (properS (winS L) m) (2^m)) = gamesC true (m : Int) := by
  intro m h1 h2
  obtain rfl | rfl | rfl | rfl : m = 1 ∨ m = 2 ∨ m = 3 ∨ m = 4 := by omega
  all_goals decide +kernel
theorem gamesC_le (b : Bool) (z : Int) : gamesC b z ≤ 1000 := by
  cases h : inB z 1 4 with
  | false => unfold gamesC; rw [h]; simp
  | true =>
    simp [inB] at h
    obtain rfl | rfl | rfl | rfl : z = 1 ∨ z = 2 ∨ z = 3 ∨ z = 4 := by omega
    all_goals (cases b <;> decide +kernel)

set_option maxRecDepth 20000 in
set_option maxHeartbeats 2000000 in
theorem iCountGames_any (z : Int) (w : World) :
    Calls Try.prog 50 #[.int .i64 z] w fun e w' => e = .returned (.tuple #[.int .i64 (gamesC false z), .bool (inB z 1 4)]) ∧ Below w.heap.size w w' := by
  cases hz : inB z 1 4 with
  | false =>
    have HG := Lib.hid (show gamesC false z = 0 from by unfold gamesC; rw [hz]; rfl)
    have HZ := Lib.hid hz
    have hzz : z < 1 ∨ 4 < z := by simp [inB] at hz; omega
    clear hz
    have HC := Lib.hid (show Calls Try.prog 77 #[.int .i64 z, .func (.func 78) #[] #[]] w fun e w' => e = .returned (.tuple #[.int .i64 0, .bool false]) ∧ Below w.heap.size w w' from by
      rcases hzz with h | h
      · go_enter Try.func77, Try.ntmps77
        go_wp2
        go_ret2
        exact ⟨rfl, Below.refl _ _⟩
      · have h1 : ¬ z < 1 := by omega
        go_enter Try.func77, Try.ntmps77
        go_wp2
        go_ret2
        exact ⟨rfl, Below.refl _ _⟩)
    clear hzz
    go_enter Try.func50, Try.ntmps50
    go_wp2_with fail
    refine HC.out.mono ?_
    rintro e w1 ⟨rfl, hb⟩
    go_wp2
    go_ret2
    exact ⟨by rw [HG.out]; rfl, hb⟩
  | true =>
    obtain ⟨m, rfl⟩ : ∃ m : Nat, z = m := ⟨z.toNat, by simp [inB] at hz; omega⟩
    have hm : 1 ≤ m ∧ m ≤ 4 := by simp [inB] at hz; omega
    have HC := Lib.hid (countGames_any _ _ m w hm (kindAny m))
    rw [gamesK_any m hm.1 hm.2] at HC
    generalize gamesC false (m : Int) = r at *
    clear hz
    go_enter Try.func50, Try.ntmps50
    go_wp2_with fail
    refine HC.out.mono ?_
    rintro e w1 ⟨rfl, hb⟩
    go_wp2
    go_ret2
    exact ⟨rfl, hb⟩
set_option maxRecDepth 20000 in
set_option maxHeartbeats 2000000 in
theorem lawCountGames (z : Int) (w : World) (_hz : (Lit.int .i64 z).wf = true) :
    Calls Try.prog 12 #[.int .i64 z] w fun e w' => e = .returned (.bool true) ∧ Below w.heap.size w w' := by
  have HS := Lib.hid (fun W => sCountGames_any z W)
  have HI := Lib.hid (fun W => iCountGames_any z W)
  generalize gamesC false z = r at *
  generalize inB z 1 4 = ok at *
  go_enter Try.func12, Try.ntmps12
  go_wp2_with fail
  refine (HS.out _).mono ?_
  rintro e w1 ⟨rfl, hb1⟩
  go_wp2_with fail
  refine (HI.out _).mono ?_
  rintro e w2 ⟨rfl, hb2⟩
  have g2 := bfrom hb1 hb2
  clear hb1 hb2
  cases ok
  · go_wp2
    go_ret
    exact ⟨rfl, g2⟩
  · go_wp2
    go_ret
    exact ⟨rfl, g2⟩
set_option maxRecDepth 20000 in
set_option maxHeartbeats 2000000 in
theorem iCountProperGames_any (z : Int) (w : World) :
    Calls Try.prog 52 #[.int .i64 z] w fun e w' => e = .returned (.tuple #[.int .i64 (gamesC true z), .bool (inB z 1 4)]) ∧ Below w.heap.size w w' := by
  cases hz : inB z 1 4 with
  | false =>
    have HG := Lib.hid (show gamesC true z = 0 from by unfold gamesC; rw [hz]; rfl)
    have HZ := Lib.hid hz
    have hzz : z < 1 ∨ 4 < z := by simp [inB] at hz; omega
    clear hz
    have HC := Lib.hid (show Calls Try.prog 77 #[.int .i64 z, .func (.func 79) #[] #[]] w fun e w' => e = .returned (.tuple #[.int .i64 0, .bool false]) ∧ Below w.heap.size w w' from by
      rcases hzz with h | h
      · go_enter Try.func77, Try.ntmps77
        go_wp2
        go_ret2
        exact ⟨rfl, Below.refl _ _⟩
      · have h1 : ¬ z < 1 := by omega
        go_enter Try.func77, Try.ntmps77
        go_wp2
        go_ret2
        exact ⟨rfl, Below.refl _ _⟩)
    clear hzz
    go_enter Try.func52, Try.ntmps52
    go_wp2_with fail
    refine HC.out.mono ?_
    rintro e w1 ⟨rfl, hb⟩
    go_wp2
    go_ret2
    exact ⟨by rw [HG.out]; rfl, hb⟩
  | true =>
    obtain ⟨m, rfl⟩ : ∃ m : Nat, z = m := ⟨z.toNat, by simp [inB] at hz; omega⟩
    have hm : 1 ≤ m ∧ m ≤ 4 := by simp [inB] at hz; omega
    have HC := Lib.hid (countGames_any _ _ m w hm (kindProper m hm.2))
    rw [gamesK_proper m hm.1 hm.2] at HC
    generalize gamesC true (m : Int) = r at *
    clear hz
    go_enter Try.func52, Try.ntmps52
    go_wp2_with fail
    refine HC.out.mono ?_
    rintro e w1 ⟨rfl, hb⟩
    go_wp2
    go_ret2
    exact ⟨rfl, hb⟩
set_option maxRecDepth 20000 in
set_option maxHeartbeats 2000000 in
theorem lawCountProperGames (z : Int) (w : World) (_hz : (Lit.int .i64 z).wf = true) :
    Calls Try.prog 13 #[.int .i64 z] w fun e w' => e = .returned (.bool true) ∧ Below w.heap.size w w' := by
  have HS := Lib.hid (fun W => sCountProperGames_any z W)
  have HI := Lib.hid (fun W => iCountProperGames_any z W)
  generalize gamesC true z = r at *
  generalize inB z 1 4 = ok at *
  go_enter Try.func13, Try.ntmps13
  go_wp2_with fail
  refine (HS.out _).mono ?_
  rintro e w1 ⟨rfl, hb1⟩
  go_wp2_with fail
  refine (HI.out _).mono ?_
  rintro e w2 ⟨rfl, hb2⟩
  have g2 := bfrom hb1 hb2
  clear hb1 hb2
  cases ok
  · go_wp2
    go_ret
    exact ⟨rfl, g2⟩
  · go_wp2
    go_ret
    exact ⟨rfl, g2⟩
end Go.Proofs.Ytpcijgdpinmcmab
