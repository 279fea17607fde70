/- Texts of Gy. -/
import Derived.Test.YtnldodnpakpeeaaPkQ40
import Derived.Test.YtnldodnpakpeeaaPkQ41
namespace Go.Proofs.Ytnldodnpakpeeaa
open Go.RowKit Vo

/-- Whether a code's game fits all clues. -/
def fitC (n : Nat) (C : List Clu) (c : Nat) : Bool := !anyU (fun q => !fitP (fun s => c.testBit s) n q) C C.length
theorem okC_codes (n : Nat) (C : List Clu) : (codesL (2^n) 0 0).filter (okC n C) = (codesN n).filter (fitC n C) := by
  unfold codesN
  rw [List.filter_filter]
  congr 1
  funext c
  unfold okC fitC
  rw [Bool.and_comm]
/-- All games that fit, by their codes, in a list of the call's own. -/
def AllQ (n : Nat) (C : List Clu) (w w' : World) (e : Ending) : Prop :=
  ∃ (Q : GP) (v : Value), e = .returned v ∧ Q.map Prod.fst = (codesK n).filter (fitC n C) ∧ GL w.heap.size n Q v w' ∧ Below w.heap.size w w'
theorem take_getD {α : Type} (l : List α) (j : Nat) (d : α) (h : j < l.length) : l.take (j+1) = l.take j ++ [l.getD j d] := by
  rw [List.take_add_one, List.getElem?_eq_getElem h, List.getD_eq_getElem?_getD, List.getElem?_eq_getElem h]; rfl
theorem one_slice {A : Option Addr} {n c : Nat} : (Value.slice A n c).oneCell' = true := rfl
theorem GpAt.one {base n : Nat} {own : Option Nat} {w : World} {p : Nat × Value} (h : GpAt base n own w p) : p.2.oneCell' = true := by
  obtain ⟨_, _, A, cp, _, _, hp, _⟩ := h
  rw [hp]; rfl
theorem leastC_few {n : Nat} (hn : n ≤ 9) (c : Nat) : tot (setsL (leastC n c)) + (setsL (leastC n c)).length ≤ 1048576 :=
  setsL_few (Nat.le_trans (List.length_filter_le _ _) (by have h1 := inOrder_len n; have h2 := pow_lt hn; omega))
theorem GpAt.lists {n : Nat} (hn4 : n ≤ 9) {base : Nat} {own : Option Nat} {w : World} {p : Nat × Value} (h : GpAt base n own w p) : ∃ A cp, p.2 = .slice A (leastC n p.1).length cp ∧ ListsR w A (leastC n p.1).length (setsL (leastC n p.1)) := by
  obtain ⟨lo, hi, A, cp, _, _, hp, hl⟩ := h
  have h2 := hl.here
  rw [hp] at h2
  exact ⟨A, cp, hp, RSS0.listsR (setsL_len _) (leastC_few hn4 p.1) hl.1 h2⟩
theorem gpV_ins (n : Nat) (A B : GP) (c : Nat) (x : Value) : gpV n (A ++ (c, x) :: B) = (gpV n A ++ [.int .i64 n, x]) ++ gpV n B := by rw [gpV_append]; simp [gpV]
theorem GpAt.other {base base' n : Nat} {own own' : Option Nat} {w w' : World} {p : Nat × Value} (h : GpAt base n own w p) (hb : base' ≤ base) (hw : Below w.heap.size w w') (ho : ∀ k, own' = some k → w.heap.size ≤ k) : GpAt base' n own' w' p := by
  obtain ⟨lo, hi, A, cp, h1, _, hp, hl⟩ := h
  exact ⟨lo, hi, A, cp, Nat.le_trans hb h1, fun k hk => Or.inr (Nat.le_trans hl.1 (ho k hk)), hp, hl.now hw⟩
theorem own_someN {w : World} {base : Nat} {e : TypeId} {size : Nat} {a : Addr} {n c : Nat} {xs : List Value} (h : w.ownsRow base e size (.slice (some a) n c) n xs) : ∃ g, a = ⟨g, 0, none⟩ ∧ n ≤ c ∧ c ≤ maxLen := by
  rcases h.2 with ⟨h', _⟩ | ⟨g, cap, cur, hv, hg, hh, h3, h4, r⟩
  · cases h'
  · injection hv with h1 h2 h5
    injection h1 with h1
    subst h1 h5
    exact ⟨g, rfl, h3, h4⟩
theorem own_noneN {w : World} {base : Nat} {e : TypeId} {size : Nat} {n c : Nat} {xs : List Value} (h : w.ownsRow base e size (.slice none n c) n xs) : n = 0 ∧ c = 0 := by
  rcases h.2 with ⟨h', hz⟩ | ⟨g, cap, cur, hv, hg, hh, h3, h4, r⟩
  · injection h' with _ _ h3
    exact ⟨hz, h3⟩
  · cases hv
theorem sortP_len (n : Nat) (P : GP) : (sortP n P).length = P.length := by
  have hi : ∀ (x : Nat × Value) (Q : GP), (insB (rP n) x Q).length = Q.length + 1 := by
    intro x Q
    induction Q with
    | nil => rfl
    | cons y Q ih => unfold insB; split <;> simp [ih]
  have : ∀ (P Q : GP), (P.foldl (fun out x => insB (rP n) x out) Q).length = P.length + Q.length := by
    intro P
    induction P with
    | nil => intro Q; simp
    | cons x P ih => intro Q; rw [List.foldl_cons, ih, hi, List.length_cons]; omega
  rw [sortP, this]; simp

set_option maxRecDepth 20000 in
set_option maxHeartbeats 8000000 in
theorem pzAll_any (n k : Nat) (A : Option Addr) (cap : Nat) (C : List Clu) (w : World) (hn1 : 1 ≤ n) (hn4 : n ≤ 4) (hk8 : k ≤ 1048576) (hK : KCl w A k C) (hask : ∀ j, j < k → AskK n (cAt C j)) :
    Calls Try.prog 57 #[.int .i64 n, .slice A k cap] w fun e w' => AllQ n C w w' e := by
  obtain ⟨i0, hi0, hz0, hz1, hz2⟩ := info_parts infoGm
  have hN16 : 2^n ≤ 16 := Nat.pow_le_pow_right (n := 2) (by omega) hn4
  have hpos := Nat.two_pow_pos n
  have hpc : (2 : Int)^n = ((2^n : Nat) : Int) := by simp
  have HD := Lib.hid (okC_codes n C)
  have HLOOK := Lib.hid (fun (W : World) g o base hw0 hw1 ho0 ho1 hgo f P v hb hbase hown hbx hG hP => pzLook_any (2^n) n k A cap C g o base (2^n) w rfl hn1 hn4 hk8 hK hask hw0 hw1 ho0 ho1 hgo (2^n) 0 0 f P v W (by omega) (by omega) hb hbase hown (fun s h => by omega) hbx hG hP)
  have HSRT := Lib.hid (codes_sorted n hn1 hn4 (fitC n C))
  obtain ⟨N, hN⟩ : ∃ N, N = 2^n := ⟨_, rfl⟩
  rw [← hN] at hpc HLOOK hN16 hpos HD
  clear hN hK hask
  have hmk := run_make_row' (P := Try.prog) 113 4 (.bool false) 1 Try.underlying113 infoBool rfl .i64 .i64 N (by omega) (by omega)
  have hx0 := (Box1.new 47 w (.slice none 0 0)).alloc (.cells (madeCells #[.bool false] N) 4)
  have b0 : Below w.heap.size w ((w.alloc (.cells #[.slice none 0 0] 47)).alloc (.cells (madeCells #[.bool false] N) 4)) := (below1 w _).alloc (by simp) _
  have HO1 := (show Own ((w.alloc (.cells #[.slice none 0 0] 47)).alloc (.cells (madeCells #[.bool false] N) 4)) (w.heap.size + 1) 4 N (fun _ => .bool false) from by have h := Own.of_row (World.rowIs_made (w.alloc (.cells #[.slice none 0 0] 47)) (.bool false) N 4); rw [World.size_alloc] at h; exact h)
  have HL0 := Lib.hid (HLOOK.out _ (w.heap.size + 1) w.heap.size (w.heap.size + 2) (Nat.le_succ _) (by omega) (Nat.le_refl _) (by omega) (by omega) (fun _ => false) [] (.slice none 0 0) b0 (by simp) HO1 hx0 (GL.nil _ _ _) (Nat.le_trans (by rw [List.length_nil, Nat.zero_add]; exact Nat.pow_le_pow_right (by omega) hN16) (by decide : 2^16 ≤ 1000000)))
  clear hx0 b0 HO1 HLOOK
  go_enter Try.func57, Try.ntmps57
  go_wp2_with (first
    | (go_at_call 98; refine HL0.out.mono ?_; rintro e w1 ⟨rfl, hq1⟩; have HQ1 := Lib.hid hq1; clear hq1; obtain ⟨f1, P0, v0, hB1, hz1w, hO1, hf1, hX1, hG1, hD1⟩ := HQ1.out; rw [List.nil_append] at hG1; have HB1 := Lib.hid hB1; have HX1 := Lib.hid hX1; have HG1 := Lib.hid hG1; have HD1 := Lib.hid hD1; have kx1 := hX1.cell; clear hB1 hO1 hf1 hX1 hG1 hD1 f1; obtain ⟨A0, cp0, hv0⟩ := owns_sliceN HG1.out.1; subst hv0; have hm16 : P0.length ≤ 65536 := (by
        have h1 := congrArg List.length HD1.out
        rw [List.length_map] at h1
        rw [h1]
        exact Nat.le_trans (List.length_filter_le _ _) (Nat.le_trans (codesL_le _ _ _) (Nat.le_trans (Nat.pow_le_pow_right (by omega) hN16) (by decide : 2^16 ≤ 65536)))); obtain ⟨m, hm⟩ : ∃ m, m = P0.length := ⟨_, rfl⟩; have HM := Lib.hid hm; rw [← hm] at hm16 kx1; have HROW := Lib.hid (show w1.ownsRow (w.heap.size + 2) 55 2 (.slice A0 m cp0) m (gpV n P0) from by rw [hm]; exact HG1.out.1); clear hm)
    | fail)
  go_loopw [6, 9, 10, 19] (fun vo _ _ i wr => ∃ j : Nat, j ≤ m ∧ i = .int .i64 j ∧ wr.ownsRow w1.heap.size 55 2 vo (sortP n (P0.take j)).length (gpV n (sortP n (P0.take j))) ∧ Below w1.heap.size w1 wr) (fun _ _ _ i _ => m - (intOf i).toNat)
  case atStart => exact ⟨0, Nat.zero_le _, rfl, World.ownsRow_nil _ _ _ _, Below.refl _ _⟩
  case round =>
    obtain ⟨j, hj, rfl, hown, hbr⟩ := hrel
    obtain ⟨BO, cpO, hvo⟩ := owns_sliceN hown
    subst hvo
    have hszr := hbr.size
    by_cases hlt : j < m
    · obtain ⟨gA, cpA, hvA, _, _, _⟩ := owns_headN HROW.out (by omega)
      obtain ⟨rfl, rfl⟩ : A0 = some ⟨gA, 0, none⟩ ∧ cp0 = cpA := by simpa using hvA
      have hrowA := owns_now HROW.out hbr
      have hltP : j < P0.length := by rw [← HM.out]; exact hlt
      obtain ⟨x0, x1⟩ := gpV_pair n P0 j hltP
      have hstep := take_getD P0 j (0, .slice none 0 0) hltP
      have hmem : P0.getD j (0, .slice none 0 0) ∈ P0 := by rw [List.getD_eq_getElem?_getD, List.getElem?_eq_getElem hltP]; exact List.getElem_mem hltP
      have e0 : wr.cell? ⟨gA, j * 2, none⟩ = some (.int .i64 n) := by rw [hrowA.cellAt (j*2) (by omega)]; exact x0
      have e1 : wr.cell? ⟨gA, j * 2 + 1, none⟩ = some (P0.getD j (0, .slice none 0 0)).2 := by rw [hrowA.cellAt (j*2+1) (by omega)]; exact x1
      obtain ⟨xx, hxx⟩ : ∃ xx, xx = P0.getD j (0, .slice none 0 0) := ⟨_, rfl⟩
      rw [← hxx] at hstep hmem e1
      obtain ⟨AX, cX, hX, hXL⟩ := (HG1.out.2 xx hmem).lists (by omega)
      obtain ⟨cx, sx⟩ := xx
      simp only at hX hXL e1
      have HSX := Lib.hid hX
      rw [hX] at e1
      have HXL := Lib.hid hXL
      obtain ⟨Q, hQ⟩ : ∃ Q, Q = sortP n (P0.take j) := ⟨_, rfl⟩
      have hql : Q.length = j := by rw [hQ, sortP_len, List.length_take]; omega
      have HSTEP := Lib.hid (show sortP n (P0.take (j+1)) = Q.take (befB (rP n) (cx, sx) Q) ++ (cx, sx) :: Q.drop (befB (rP n) (cx, sx) Q) from by rw [hstep, sortP_snoc, ← hQ, insB_bef])
      have HQS := Lib.hid (show ∀ p ∈ Q, p ∈ P0 from fun p hp => by rw [hQ] at hp; exact List.mem_of_mem_take ((sortP_mem n _ p).1 hp))
      have HONE := Lib.hid (show ∀ (R : GP), (∀ p ∈ R, p ∈ Q) → ∀ u ∈ gpV n R, u.oneCell' = true from fun R h => gpV_one (fun p hp => (HG1.out.2 p (HQS.out p (h p hp))).one))
      rw [← hQ] at hown ⊢
      have HOW := Lib.hid hown
      obtain ⟨lq, hlq⟩ : ∃ lq, lq = Q.length := ⟨_, rfl⟩
      have HQL := Lib.hid hlq.symm
      have hlqm : lq ≤ 65536 := by rw [hlq, hql]; omega
      obtain ⟨lx, hlx⟩ : ∃ lx, lx = (leastC n cx).length := ⟨_, rfl⟩
      rw [← hlx] at e1 HXL HSX
      have HLX := Lib.hid hlx
      have HBR := Lib.hid hbr
      clear hown hQ hql hstep hmem hX hXL x0 x1 hrowA hvA hxx hlx
      rw [← hlq] at HOW ⊢
      clear hlq
      obtain ⟨wr1, hwr1⟩ : ∃ wr1, wr1 = wr.alloc (.cells #[.int .i64 n, .slice AX lx cX] 55) := ⟨_, rfl⟩
      have hxg := BoxT.new 55 wr (.int .i64 n) (.slice AX lx cX)
      have hbg := hbr.alloc hbr.size (.cells #[.int .i64 n, .slice AX lx cX] 55)
      rw [← hwr1] at hxg hbg
      obtain ⟨wr0, hwr0⟩ : ∃ wr0, wr0 = wr := ⟨_, rfl⟩
      have HWR := Lib.hid (show Below wr0.heap.size wr0 wr1 from by rw [hwr0, hwr1]; exact below1 wr _)
      rw [← hwr0] at HOW
      obtain ⟨gb, hgb⟩ : ∃ gb, gb = wr.heap.size := ⟨_, rfl⟩
      rw [← hgb] at hxg
      cases BO with
      | none =>
        obtain ⟨rfl, hcp⟩ := own_noneN HOW.out
        go_wp2_with fail
        rw [← hwr1, ← hgb]
        clear hwr1 hgb hwr0
        obtain ⟨c0, c1⟩ := hxg.cells
        go_loopw [9] (fun kk wi => kk = .int .i64 0 ∧ wr1 = wi) (fun _ _ => 0)
        case atStart => exact ⟨rfl, rfl⟩
        case round =>
          obtain ⟨rfl, rfl⟩ := hrel
          go_wp2_with fail
          first
            | (go_region_with fail)
            | fail
          all_goals
            go_wp2_with fail
            obtain ⟨wE, hwE⟩ : ∃ wE, wE = wr1.drew := ⟨_, rfl⟩
            rw [← hwE]
            have hE : Below wr1.heap.size wr1 wE := by rw [hwE]; exact (Below.refl _ _).drew
            have hxE := hxg.now hE
            clear hwE c0 c1
            have K := Lib.hid (show ∀ W, Below wE.heap.size wE W → W.cell? ⟨gb, 0, none⟩ = some (.int .i64 n) ∧ W.cell? ⟨gb, 1, none⟩ = some (.slice AX lx cX) from fun W hb => (hxE.now hb).cells)
            have KS := Lib.hid K.out
            have B1 := Lib.hid ((Below.refl wE.heap.size wE)).drew
            have B2 := Lib.hid ((Below.refl wE.heap.size wE)).alloc (by first | exact Nat.le_refl _ | (show wE.heap.size ≤ (wE.alloc _).heap.size; simp)) (.cells #[] 55)
            have B3 := Lib.hid ((Below.refl wE.heap.size wE)).alloc (by first | exact Nat.le_refl _ | (show wE.heap.size ≤ (wE.alloc _).heap.size; simp)) (.cells #[.int .i64 n, .slice AX lx cX] 55)
            have B4 := Lib.hid (((Below.refl wE.heap.size wE)).drew).alloc (by first | exact Nat.le_refl _ | (show wE.heap.size ≤ (wE.alloc _).heap.size; simp)) (.cells #[] 55)
            have B5 := Lib.hid (((Below.refl wE.heap.size wE)).drew).alloc (by first | exact Nat.le_refl _ | (show wE.heap.size ≤ (wE.alloc _).heap.size; simp)) (.cells #[.int .i64 n, .slice AX lx cX] 55)
            have B6 := Lib.hid (((Below.refl wE.heap.size wE)).alloc (by first | exact Nat.le_refl _ | (show wE.heap.size ≤ (wE.alloc _).heap.size; simp)) (.cells #[] 55)).drew
            have B7 := Lib.hid (((Below.refl wE.heap.size wE)).alloc (by first | exact Nat.le_refl _ | (show wE.heap.size ≤ (wE.alloc _).heap.size; simp)) (.cells #[] 55)).alloc (by first | exact Nat.le_refl _ | (show wE.heap.size ≤ (wE.alloc _).heap.size; simp)) (.cells #[.int .i64 n, .slice AX lx cX] 55)
            have B8 := Lib.hid (((Below.refl wE.heap.size wE)).alloc (by first | exact Nat.le_refl _ | (show wE.heap.size ≤ (wE.alloc _).heap.size; simp)) (.cells #[.int .i64 n, .slice AX lx cX] 55)).drew
            have B9 := Lib.hid (((Below.refl wE.heap.size wE)).alloc (by first | exact Nat.le_refl _ | (show wE.heap.size ≤ (wE.alloc _).heap.size; simp)) (.cells #[.int .i64 n, .slice AX lx cX] 55)).alloc (by first | exact Nat.le_refl _ | (show wE.heap.size ≤ (wE.alloc _).heap.size; simp)) (.cells #[] 55)
            have B10 := Lib.hid ((((Below.refl wE.heap.size wE)).drew).alloc (by first | exact Nat.le_refl _ | (show wE.heap.size ≤ (wE.alloc _).heap.size; simp)) (.cells #[] 55)).alloc (by first | exact Nat.le_refl _ | (show wE.heap.size ≤ (wE.alloc _).heap.size; simp)) (.cells #[.int .i64 n, .slice AX lx cX] 55)
            have B11 := Lib.hid ((((Below.refl wE.heap.size wE)).drew).alloc (by first | exact Nat.le_refl _ | (show wE.heap.size ≤ (wE.alloc _).heap.size; simp)) (.cells #[.int .i64 n, .slice AX lx cX] 55)).alloc (by first | exact Nat.le_refl _ | (show wE.heap.size ≤ (wE.alloc _).heap.size; simp)) (.cells #[] 55)
            have B12 := Lib.hid ((((Below.refl wE.heap.size wE)).alloc (by first | exact Nat.le_refl _ | (show wE.heap.size ≤ (wE.alloc _).heap.size; simp)) (.cells #[] 55)).drew).alloc (by first | exact Nat.le_refl _ | (show wE.heap.size ≤ (wE.alloc _).heap.size; simp)) (.cells #[.int .i64 n, .slice AX lx cX] 55)
            have B13 := Lib.hid ((((Below.refl wE.heap.size wE)).alloc (by first | exact Nat.le_refl _ | (show wE.heap.size ≤ (wE.alloc _).heap.size; simp)) (.cells #[] 55)).alloc (by first | exact Nat.le_refl _ | (show wE.heap.size ≤ (wE.alloc _).heap.size; simp)) (.cells #[.int .i64 n, .slice AX lx cX] 55)).drew
            have B14 := Lib.hid ((((Below.refl wE.heap.size wE)).alloc (by first | exact Nat.le_refl _ | (show wE.heap.size ≤ (wE.alloc _).heap.size; simp)) (.cells #[.int .i64 n, .slice AX lx cX] 55)).drew).alloc (by first | exact Nat.le_refl _ | (show wE.heap.size ≤ (wE.alloc _).heap.size; simp)) (.cells #[] 55)
            have B15 := Lib.hid ((((Below.refl wE.heap.size wE)).alloc (by first | exact Nat.le_refl _ | (show wE.heap.size ≤ (wE.alloc _).heap.size; simp)) (.cells #[.int .i64 n, .slice AX lx cX] 55)).alloc (by first | exact Nat.le_refl _ | (show wE.heap.size ≤ (wE.alloc _).heap.size; simp)) (.cells #[] 55)).drew
            have hAa : (wE.alloc (.cells #[] 55)).heap[wE.heap.size]? = some (.cells #[] 55) := heap_alloc_new wE _
            have hAb : ((wE.alloc (.cells #[] 55)).alloc (.cells #[.int .i64 n, .slice AX lx cX] 55)).heap[wE.heap.size]? = some (.cells #[] 55) := (Below.heap_alloc (wE.alloc (.cells #[] 55)) (.cells #[.int .i64 n, .slice AX lx cX] 55) wE.heap.size (by simp)).trans (heap_alloc_new wE _)
            have hCb : ((wE.alloc (.cells #[] 55)).alloc (.cells #[.int .i64 n, .slice AX lx cX] 55)).heap[wE.heap.size + 1]? = some (.cells #[.int .i64 n, .slice AX lx cX] 55) := by have h := heap_alloc_new (wE.alloc (.cells #[] 55)) (.cells #[.int .i64 n, .slice AX lx cX] 55); rw [World.size_alloc] at h; exact h
            have hAc : ((wE.alloc (.cells #[.int .i64 n, .slice AX lx cX] 55)).alloc (.cells #[] 55)).heap[wE.heap.size + 1]? = some (.cells #[] 55) := by have h := heap_alloc_new (wE.alloc (.cells #[.int .i64 n, .slice AX lx cX] 55)) (.cells #[] 55); rw [World.size_alloc] at h; exact h
            have hCc : ((wE.alloc (.cells #[.int .i64 n, .slice AX lx cX] 55)).alloc (.cells #[] 55)).heap[wE.heap.size]? = some (.cells #[.int .i64 n, .slice AX lx cX] 55) := (Below.heap_alloc (wE.alloc (.cells #[.int .i64 n, .slice AX lx cX] 55)) (.cells #[] 55) wE.heap.size (by simp)).trans (heap_alloc_new wE _)
            have hLb : wE.heap.size + 1 < ((wE.alloc (.cells #[] 55)).alloc (.cells #[.int .i64 n, .slice AX lx cX] 55)).heap.size := by simp
            have hLc : wE.heap.size < ((wE.alloc (.cells #[.int .i64 n, .slice AX lx cX] 55)).alloc (.cells #[] 55)).heap.size := by simp; omega
            obtain ⟨c0, c1⟩ := K.out _ (Below.refl _ _)
            go_region_held3 (fun w' => w'.cell? ⟨gb, 0, none⟩ = some (.int .i64 n) ∧ w'.cell? ⟨gb, 1, none⟩ = some (.slice AX lx cX))
              (first | exact KS.out _ (Below.refl _ _) | exact KS.out _ B1.out | exact KS.out _ B2.out | exact KS.out _ B3.out | exact KS.out _ B4.out | exact KS.out _ B5.out | exact KS.out _ B6.out | exact KS.out _ B7.out | exact KS.out _ B8.out | exact KS.out _ B9.out | exact KS.out _ B10.out | exact KS.out _ B11.out | exact KS.out _ B12.out | exact KS.out _ B13.out | exact KS.out _ B14.out | exact KS.out _ B15.out | exact KS.out _ b5 | exact KS.out _ (b5.alloc b5.size _) | exact KS.out _ b7 | exact ⟨c0, c1⟩ | go_keep)
              (first
                | (refine step_append_noneG _ ?_ (.tmp 37) (.tmp 40) _ ?_ wE.heap.size 55 i0 2 Try.underlying47 hi0 (.slice (some ⟨wE.heap.size, 0, none⟩) 0 0) 0 [] ?_ (own_emptyG (Nat.le_refl _) hAa) ?_ ?_; (rfl); (rfl); (rfl); (rfl))
                | (refine step_append_noneG _ ?_ (.tmp 37) (.tmp 40) _ ?_ wE.heap.size 55 i0 2 Try.underlying47 hi0 (.slice (some ⟨wE.heap.size, 0, none⟩) 0 0) 0 [] ?_ (own_emptyG (Nat.le_refl _) hAb) ?_ ?_; (rfl); (rfl); (rfl); (rfl))
                | (refine step_append_noneG _ ?_ (.tmp 37) (.tmp 40) _ ?_ wE.heap.size 55 i0 2 Try.underlying47 hi0 (.slice (some ⟨wE.heap.size + 1, 0, none⟩) 0 0) 0 [] ?_ (own_emptyG (Nat.le_succ _) hAc) ?_ ?_; (rfl); (rfl); (rfl); (rfl))
                | (refine step_append_newN _ ?_ (.tmp 41) (.tmp 43) _ ?_ wE.heap.size 55 i0 (.agg #[.int .i64 0, .slice none 0 0]) 2 32 Try.underlying47 hi0 hz0 hz1 hz2 rfl ?_ (.slice (some ⟨wE.heap.size, 0, none⟩) 0 0) ?_ (own_emptyG (Nat.le_refl _) hAb) ⟨wE.heap.size + 1, 0, none⟩ 1 1 [.int .i64 n, .slice AX lx cX] ?_ rfl (World.news_of_block (cs := #[.int .i64 n, .slice AX lx cX]) (t := 55) (fr := (0, 0)) hCb) ?_ ?_ ?_ (Below.size (B := wE.heap.size) (w := wE) (by first | exact B1.out | exact B2.out | exact B3.out | exact B4.out | exact B5.out | exact B6.out | exact B7.out | exact B8.out | exact B9.out | exact B10.out | exact B11.out | exact B12.out | exact B13.out | exact B14.out | exact B15.out)) ?_; (rfl); (rfl); (omega); (rfl); (rfl); (simp [Value.oneCell']); (unfold maxLen; omega); (omega); intro B7 cp7 w7 hown7 hgrow7 hob7; have b7 : Below wE.heap.size wE w7 := Below.grown (by first | exact B1.out | exact B2.out | exact B3.out | exact B4.out | exact B5.out | exact B6.out | exact B7.out | exact B8.out | exact B9.out | exact B10.out | exact B11.out | exact B12.out | exact B13.out | exact B14.out | exact B15.out) hgrow7 (Below.size (B := wE.heap.size) (w := wE) (by first | exact B1.out | exact B2.out | exact B3.out | exact B4.out | exact B5.out | exact B6.out | exact B7.out | exact B8.out | exact B9.out | exact B10.out | exact B11.out | exact B12.out | exact B13.out | exact B14.out | exact B15.out)) (fun j hj => by have : wE.heap.size = j := (by simpa [Value.ownBlock] using hj); omega); obtain ⟨d0, d1⟩ := K.out _ b7)
                | (refine step_append_newN _ ?_ (.tmp 41) (.tmp 43) _ ?_ wE.heap.size 55 i0 (.agg #[.int .i64 0, .slice none 0 0]) 2 32 Try.underlying47 hi0 hz0 hz1 hz2 rfl ?_ (.slice (some ⟨wE.heap.size + 1, 0, none⟩) 0 0) ?_ (own_emptyG (Nat.le_succ _) hAc) ⟨wE.heap.size, 0, none⟩ 1 1 [.int .i64 n, .slice AX lx cX] ?_ rfl (World.news_of_block (cs := #[.int .i64 n, .slice AX lx cX]) (t := 55) (fr := (0, 0)) hCc) ?_ ?_ ?_ (Below.size (B := wE.heap.size) (w := wE) (by first | exact B1.out | exact B2.out | exact B3.out | exact B4.out | exact B5.out | exact B6.out | exact B7.out | exact B8.out | exact B9.out | exact B10.out | exact B11.out | exact B12.out | exact B13.out | exact B14.out | exact B15.out)) ?_; (rfl); (rfl); (omega); (rfl); (rfl); (simp [Value.oneCell']); (unfold maxLen; omega); (omega); intro B7 cp7 w7 hown7 hgrow7 hob7; have b7 : Below wE.heap.size wE w7 := Below.grown (by first | exact B1.out | exact B2.out | exact B3.out | exact B4.out | exact B5.out | exact B6.out | exact B7.out | exact B8.out | exact B9.out | exact B10.out | exact B11.out | exact B12.out | exact B13.out | exact B14.out | exact B15.out) hgrow7 (Below.size (B := wE.heap.size) (w := wE) (by first | exact B1.out | exact B2.out | exact B3.out | exact B4.out | exact B5.out | exact B6.out | exact B7.out | exact B8.out | exact B9.out | exact B10.out | exact B11.out | exact B12.out | exact B13.out | exact B14.out | exact B15.out)) (fun j hj => by have : wE.heap.size + 1 = j := (by simpa [Value.ownBlock] using hj); omega); obtain ⟨d0, d1⟩ := K.out _ b7)
                | fail)
            all_goals
              obtain ⟨gg, cp', hv, hge, _, _⟩ := owns_headN hown7 (by omega)
              obtain ⟨rfl, rfl⟩ : B7 = some ⟨gg, 0, none⟩ ∧ cp7 = cp' := by simpa using hv
              have HO7 := Lib.hid hown7
              have G7 := Lib.hid ((hbg.trans (hE.mono hbg.size)).trans (b7.mono (hbg.trans (hE.mono hbg.size)).size))
              have hzE := (hbg.trans (hE.mono hbg.size)).size
              clear hown7 hgrow7 hob7 c0 c1 d0 d1 hAa hAb hCb hAc hCc hLb hLc
              go_wp2_with fail
              go_roundw
              case rel =>
                refine ⟨j + 1, by omega, by go_num, ?_, G7.out⟩
                have hQ0 : Q = [] := List.length_eq_zero_iff.1 HQL.out
                rw [HSTEP.out, hQ0, HSX.out]
                exact owns_less HO7.out hzE
              case measure => simp [intOf]; omega
      | some aO =>
        obtain ⟨gO, rfl, hqc, hcm⟩ := own_someN HOW.out
        go_wp2_with fail
        rw [← hwr1, ← hgb]
        clear hwr1 hgb hwr0
        obtain ⟨c0, c1⟩ := hxg.cells
        have HXG := Lib.hid hxg
        have HBG := Lib.hid hbg
        go_loopw [9] (fun kk wi => ∃ q : Nat, q ≤ befB (rP n) (cx, sx) Q ∧ kk = .int .i64 q ∧ Below wr1.heap.size wr1 wi) (fun kk _ => lq - (intOf kk).toNat)
        case atStart => exact ⟨0, Nat.zero_le _, rfl, Below.refl _ _⟩
        case round =>
          obtain ⟨q, hqb, rfl, hbi⟩ := hrel
          have HBI := Lib.hid hbi
          have hszi := hbi.size
          have hsz1 := HBG.out.size
          have HBW := Lib.hid (HBG.out.trans (hbi.mono HBG.out.size))
          have hql : q ≤ lq := by have := befB_le (rP n) (cx, sx) Q; rw [HQL.out] at this; omega
          have HOWi := Lib.hid (owns_now HOW.out (show Below wr0.heap.size wr0 wr from (HWR.out.trans (hbi.mono HWR.out.size))))
          have hxi := HXG.out.now hbi
          obtain ⟨c2, c3⟩ := hxi.cells
          clear hxi
          by_cases hlt2 : q < lq
          · have hltQ : q < Q.length := by rw [HQL.out]; exact hlt2
            obtain ⟨y0, y1⟩ := gpV_pair n Q q hltQ
            have hmem2 : Q.getD q (0, .slice none 0 0) ∈ Q := by rw [List.getD_eq_getElem?_getD, List.getElem?_eq_getElem hltQ]; exact List.getElem_mem hltQ
            have hsb := befB_step (rP n) (cx, sx) Q q (0, .slice none 0 0) hqb hltQ
            have e2 : wr.cell? ⟨gO, q * 2, none⟩ = some (.int .i64 n) := by rw [HOWi.out.cellAt (q*2) (by omega)]; exact y0
            have e3 : wr.cell? ⟨gO, q * 2 + 1, none⟩ = some (Q.getD q (0, .slice none 0 0)).2 := by rw [HOWi.out.cellAt (q*2+1) (by omega)]; exact y1
            obtain ⟨yy, hyy⟩ : ∃ yy, yy = Q.getD q (0, .slice none 0 0) := ⟨_, rfl⟩
            rw [← hyy] at hmem2 hsb e3
            obtain ⟨AY, cY, hY, hYL⟩ := (HG1.out.2 yy (HQS.out yy hmem2)).lists (by omega)
            have hr : rP n yy (cx, sx) = gmB (setsL (leastC n yy.1)) (setsL (leastC n cx)) := rfl
            obtain ⟨LY, hLY⟩ : ∃ LY, LY = setsL (leastC n yy.1) := ⟨_, rfl⟩
            obtain ⟨ly, hly⟩ : ∃ ly, ly = (leastC n yy.1).length := ⟨_, rfl⟩
            rw [← hLY] at hYL hr
            rw [← hly] at hYL hY
            rw [hY] at e3
            have hlym : ly ≤ 1048576 := by have h1 := leastC_few (n := n) (by omega) yy.1; rw [setsL_len] at h1; omega
            have hlxm : lx ≤ 1048576 := by have h1 := leastC_few (n := n) (by omega) cx; rw [setsL_len] at h1; rw [HLX.out]; omega
            have HGB := Lib.hid (fun W (hW : Below w1.heap.size w1 W) => gmBefore_any n n AY AX ly cY lx cX LY (setsL (leastC n cx)) W hlym hlxm (hYL.now hW) (HXL.out.now hW))
            have d2 : wr.drew.cell? ⟨gO, q * 2, none⟩ = some (.int .i64 n) := e2
            have d3 : wr.drew.cell? ⟨gO, q * 2 + 1, none⟩ = some (.slice AY ly cY) := e3
            have d4 : wr.drew.cell? ⟨gb, 0, none⟩ = some (.int .i64 n) := c2
            have d5 : wr.drew.cell? ⟨gb, 1, none⟩ = some (.slice AX lx cX) := c3
            rw [← hr] at HGB
            clear y0 y1 hmem2 hY hYL hr hLY hly hyy
            generalize rP n yy (cx, sx) = r at *
            cases r with
            | true =>
              rw [if_pos rfl] at hsb
              go_wp2_with fail
              first
                | (go_region_with (first
                  | (go_at_call 71; refine (HGB.out _ HBW.out.drew).mono ?_; rintro e w9 ⟨rfl, hb9⟩)
                  | fail))
                | fail
              all_goals
                have b9 := bfrom (Below.refl _ wr).drew hb9
                go_wp2
                go_roundw
                case rel => exact ⟨q + 1, hsb, by go_num, HBI.out.trans (b9.mono HBI.out.size)⟩
                case measure => simp [intOf]; omega
            | false =>
              rw [if_neg (by simp)] at hsb
              go_wp2_with fail
              first
                | (go_region_with (first
                  | (go_at_call 71; refine (HGB.out _ HBW.out.drew).mono ?_; rintro e w9 ⟨rfl, hb9⟩)
                  | fail))
                | fail
              all_goals
                have b9 := bfrom (Below.refl _ wr).drew hb9
                go_wp2_with fail
                obtain ⟨wE, hwE⟩ : ∃ wE, wE = w9 := ⟨_, rfl⟩
                rw [← hwE] at b9 ⊢
                clear hwE hb9 c0 c1 c2 c3 d2 d3 d4 d5 e2 e3
                have hE := HBI.out.trans (b9.mono HBI.out.size)
                have hxE := HXG.out.now hE
                have hqle : q ≤ lq := hql
                have hk0 : (0 : Int) ≤ (q : Int) := by omega
                have hk1 : (q : Int) ≤ (cpO : Int) := by omega
                have hk2 : (q : Int) ≤ (lq : Int) := by omega
                have HOE := Lib.hid (owns_now HOWi.out b9)
                have GE9 := Lib.hid (HBW.out.trans (b9.mono HBW.out.size))
                have K := Lib.hid (show ∀ W, Below wE.heap.size wE W → W.cell? ⟨gb, 0, none⟩ = some (.int .i64 n) ∧ W.cell? ⟨gb, 1, none⟩ = some (.slice AX lx cX) from fun W hb => (hxE.now hb).cells)
                have KS := Lib.hid K.out
                have B1 := Lib.hid ((Below.refl wE.heap.size wE)).drew
                have B2 := Lib.hid ((Below.refl wE.heap.size wE)).alloc (by first | exact Nat.le_refl _ | (show wE.heap.size ≤ (wE.alloc _).heap.size; simp)) (.cells #[] 55)
                have B3 := Lib.hid ((Below.refl wE.heap.size wE)).alloc (by first | exact Nat.le_refl _ | (show wE.heap.size ≤ (wE.alloc _).heap.size; simp)) (.cells #[.int .i64 n, .slice AX lx cX] 55)
                have B4 := Lib.hid (((Below.refl wE.heap.size wE)).drew).alloc (by first | exact Nat.le_refl _ | (show wE.heap.size ≤ (wE.alloc _).heap.size; simp)) (.cells #[] 55)
                have B5 := Lib.hid (((Below.refl wE.heap.size wE)).drew).alloc (by first | exact Nat.le_refl _ | (show wE.heap.size ≤ (wE.alloc _).heap.size; simp)) (.cells #[.int .i64 n, .slice AX lx cX] 55)
                have B6 := Lib.hid (((Below.refl wE.heap.size wE)).alloc (by first | exact Nat.le_refl _ | (show wE.heap.size ≤ (wE.alloc _).heap.size; simp)) (.cells #[] 55)).drew
                have B7 := Lib.hid (((Below.refl wE.heap.size wE)).alloc (by first | exact Nat.le_refl _ | (show wE.heap.size ≤ (wE.alloc _).heap.size; simp)) (.cells #[] 55)).alloc (by first | exact Nat.le_refl _ | (show wE.heap.size ≤ (wE.alloc _).heap.size; simp)) (.cells #[.int .i64 n, .slice AX lx cX] 55)
                have B8 := Lib.hid (((Below.refl wE.heap.size wE)).alloc (by first | exact Nat.le_refl _ | (show wE.heap.size ≤ (wE.alloc _).heap.size; simp)) (.cells #[.int .i64 n, .slice AX lx cX] 55)).drew
                have B9 := Lib.hid (((Below.refl wE.heap.size wE)).alloc (by first | exact Nat.le_refl _ | (show wE.heap.size ≤ (wE.alloc _).heap.size; simp)) (.cells #[.int .i64 n, .slice AX lx cX] 55)).alloc (by first | exact Nat.le_refl _ | (show wE.heap.size ≤ (wE.alloc _).heap.size; simp)) (.cells #[] 55)
                have B10 := Lib.hid ((((Below.refl wE.heap.size wE)).drew).alloc (by first | exact Nat.le_refl _ | (show wE.heap.size ≤ (wE.alloc _).heap.size; simp)) (.cells #[] 55)).alloc (by first | exact Nat.le_refl _ | (show wE.heap.size ≤ (wE.alloc _).heap.size; simp)) (.cells #[.int .i64 n, .slice AX lx cX] 55)
                have B11 := Lib.hid ((((Below.refl wE.heap.size wE)).drew).alloc (by first | exact Nat.le_refl _ | (show wE.heap.size ≤ (wE.alloc _).heap.size; simp)) (.cells #[.int .i64 n, .slice AX lx cX] 55)).alloc (by first | exact Nat.le_refl _ | (show wE.heap.size ≤ (wE.alloc _).heap.size; simp)) (.cells #[] 55)
                have B12 := Lib.hid ((((Below.refl wE.heap.size wE)).alloc (by first | exact Nat.le_refl _ | (show wE.heap.size ≤ (wE.alloc _).heap.size; simp)) (.cells #[] 55)).drew).alloc (by first | exact Nat.le_refl _ | (show wE.heap.size ≤ (wE.alloc _).heap.size; simp)) (.cells #[.int .i64 n, .slice AX lx cX] 55)
                have B13 := Lib.hid ((((Below.refl wE.heap.size wE)).alloc (by first | exact Nat.le_refl _ | (show wE.heap.size ≤ (wE.alloc _).heap.size; simp)) (.cells #[] 55)).alloc (by first | exact Nat.le_refl _ | (show wE.heap.size ≤ (wE.alloc _).heap.size; simp)) (.cells #[.int .i64 n, .slice AX lx cX] 55)).drew
                have B14 := Lib.hid ((((Below.refl wE.heap.size wE)).alloc (by first | exact Nat.le_refl _ | (show wE.heap.size ≤ (wE.alloc _).heap.size; simp)) (.cells #[.int .i64 n, .slice AX lx cX] 55)).drew).alloc (by first | exact Nat.le_refl _ | (show wE.heap.size ≤ (wE.alloc _).heap.size; simp)) (.cells #[] 55)
                have B15 := Lib.hid ((((Below.refl wE.heap.size wE)).alloc (by first | exact Nat.le_refl _ | (show wE.heap.size ≤ (wE.alloc _).heap.size; simp)) (.cells #[.int .i64 n, .slice AX lx cX] 55)).alloc (by first | exact Nat.le_refl _ | (show wE.heap.size ≤ (wE.alloc _).heap.size; simp)) (.cells #[] 55)).drew
                have hAa : (wE.alloc (.cells #[] 55)).heap[wE.heap.size]? = some (.cells #[] 55) := heap_alloc_new wE _
                have hAb : ((wE.alloc (.cells #[] 55)).alloc (.cells #[.int .i64 n, .slice AX lx cX] 55)).heap[wE.heap.size]? = some (.cells #[] 55) := (Below.heap_alloc (wE.alloc (.cells #[] 55)) (.cells #[.int .i64 n, .slice AX lx cX] 55) wE.heap.size (by simp)).trans (heap_alloc_new wE _)
                have hCb : ((wE.alloc (.cells #[] 55)).alloc (.cells #[.int .i64 n, .slice AX lx cX] 55)).heap[wE.heap.size + 1]? = some (.cells #[.int .i64 n, .slice AX lx cX] 55) := by have h := heap_alloc_new (wE.alloc (.cells #[] 55)) (.cells #[.int .i64 n, .slice AX lx cX] 55); rw [World.size_alloc] at h; exact h
                have hAc : ((wE.alloc (.cells #[.int .i64 n, .slice AX lx cX] 55)).alloc (.cells #[] 55)).heap[wE.heap.size + 1]? = some (.cells #[] 55) := by have h := heap_alloc_new (wE.alloc (.cells #[.int .i64 n, .slice AX lx cX] 55)) (.cells #[] 55); rw [World.size_alloc] at h; exact h
                have hCc : ((wE.alloc (.cells #[.int .i64 n, .slice AX lx cX] 55)).alloc (.cells #[] 55)).heap[wE.heap.size]? = some (.cells #[.int .i64 n, .slice AX lx cX] 55) := (Below.heap_alloc (wE.alloc (.cells #[.int .i64 n, .slice AX lx cX] 55)) (.cells #[] 55) wE.heap.size (by simp)).trans (heap_alloc_new wE _)
                have hLb : wE.heap.size + 1 < ((wE.alloc (.cells #[] 55)).alloc (.cells #[.int .i64 n, .slice AX lx cX] 55)).heap.size := by simp
                have hLc : wE.heap.size < ((wE.alloc (.cells #[.int .i64 n, .slice AX lx cX] 55)).alloc (.cells #[] 55)).heap.size := by simp; omega
                obtain ⟨c0, c1⟩ := K.out _ (Below.refl _ _)
                go_region_held3 (fun w' => w'.cell? ⟨gb, 0, none⟩ = some (.int .i64 n) ∧ w'.cell? ⟨gb, 1, none⟩ = some (.slice AX lx cX))
                  (first | exact KS.out _ (Below.refl _ _) | exact KS.out _ B1.out | exact KS.out _ B2.out | exact KS.out _ B3.out | exact KS.out _ B4.out | exact KS.out _ B5.out | exact KS.out _ B6.out | exact KS.out _ B7.out | exact KS.out _ B8.out | exact KS.out _ B9.out | exact KS.out _ B10.out | exact KS.out _ B11.out | exact KS.out _ B12.out | exact KS.out _ B13.out | exact KS.out _ B14.out | exact KS.out _ B15.out | exact KS.out _ b5 | exact KS.out _ (b5.alloc b5.size _) | exact KS.out _ b7 | exact ⟨c0, c1⟩ | go_keep)
                  (first
                    | (refine step_append_newN _ ?_ (.tmp 37) (.tmp 40) _ ?_ wE.heap.size 55 i0 (.agg #[.int .i64 0, .slice none 0 0]) 2 32 Try.underlying47 hi0 hz0 hz1 hz2 rfl ?_ (.slice (some ⟨wE.heap.size, 0, none⟩) 0 0) ?_ (own_emptyG (Nat.le_refl _) hAa) ⟨gO, 0, none⟩ q cpO (gpV n (Q.take q)) ?_ ?_ (news_take HQL.out (owns_now HOE.out (by first | exact B1.out | exact B2.out | exact B3.out | exact B4.out | exact B5.out | exact B6.out | exact B7.out | exact B8.out | exact B9.out | exact B10.out | exact B11.out | exact B12.out | exact B13.out | exact B14.out | exact B15.out)) q hqle) (HONE.out _ (fun p h => List.mem_of_mem_take h)) ?_ ?_ (Below.size (B := wE.heap.size) (w := wE) (by first | exact B1.out | exact B2.out | exact B3.out | exact B4.out | exact B5.out | exact B6.out | exact B7.out | exact B8.out | exact B9.out | exact B10.out | exact B11.out | exact B12.out | exact B13.out | exact B14.out | exact B15.out)) ?_; (rfl); (rfl); (omega); (rfl); (rfl); (rw [gpV_len, List.length_take, HQL.out]; omega); (unfold maxLen; omega); (omega); intro B5 cp5 w5 hown5 hgrow5 hob5; have b5 : Below wE.heap.size wE w5 := Below.grown (by first | exact B1.out | exact B2.out | exact B3.out | exact B4.out | exact B5.out | exact B6.out | exact B7.out | exact B8.out | exact B9.out | exact B10.out | exact B11.out | exact B12.out | exact B13.out | exact B14.out | exact B15.out) hgrow5 (Below.size (B := wE.heap.size) (w := wE) (by first | exact B1.out | exact B2.out | exact B3.out | exact B4.out | exact B5.out | exact B6.out | exact B7.out | exact B8.out | exact B9.out | exact B10.out | exact B11.out | exact B12.out | exact B13.out | exact B14.out | exact B15.out)) (fun j hj => by have : wE.heap.size = j := (by simpa [Value.ownBlock] using hj); omega); have hC5 : True := trivial)
                    | (refine step_append_newN _ ?_ (.tmp 37) (.tmp 40) _ ?_ wE.heap.size 55 i0 (.agg #[.int .i64 0, .slice none 0 0]) 2 32 Try.underlying47 hi0 hz0 hz1 hz2 rfl ?_ (.slice (some ⟨wE.heap.size, 0, none⟩) 0 0) ?_ (own_emptyG (Nat.le_refl _) hAb) ⟨gO, 0, none⟩ q cpO (gpV n (Q.take q)) ?_ ?_ (news_take HQL.out (owns_now HOE.out (by first | exact B1.out | exact B2.out | exact B3.out | exact B4.out | exact B5.out | exact B6.out | exact B7.out | exact B8.out | exact B9.out | exact B10.out | exact B11.out | exact B12.out | exact B13.out | exact B14.out | exact B15.out)) q hqle) (HONE.out _ (fun p h => List.mem_of_mem_take h)) ?_ ?_ (Below.size (B := wE.heap.size) (w := wE) (by first | exact B1.out | exact B2.out | exact B3.out | exact B4.out | exact B5.out | exact B6.out | exact B7.out | exact B8.out | exact B9.out | exact B10.out | exact B11.out | exact B12.out | exact B13.out | exact B14.out | exact B15.out)) ?_; (rfl); (rfl); (omega); (rfl); (rfl); (rw [gpV_len, List.length_take, HQL.out]; omega); (unfold maxLen; omega); (omega); intro B5 cp5 w5 hown5 hgrow5 hob5; have b5 : Below wE.heap.size wE w5 := Below.grown (by first | exact B1.out | exact B2.out | exact B3.out | exact B4.out | exact B5.out | exact B6.out | exact B7.out | exact B8.out | exact B9.out | exact B10.out | exact B11.out | exact B12.out | exact B13.out | exact B14.out | exact B15.out) hgrow5 (Below.size (B := wE.heap.size) (w := wE) (by first | exact B1.out | exact B2.out | exact B3.out | exact B4.out | exact B5.out | exact B6.out | exact B7.out | exact B8.out | exact B9.out | exact B10.out | exact B11.out | exact B12.out | exact B13.out | exact B14.out | exact B15.out)) (fun j hj => by have : wE.heap.size = j := (by simpa [Value.ownBlock] using hj); omega); have hC5 : w5.heap[wE.heap.size + 1]? = some (.cells #[.int .i64 n, .slice AX lx cX] 55) := (hgrow5.block (wE.heap.size + 1) hLb (by simp [Value.ownBlock])).trans hCb)
                    | (refine step_append_newN _ ?_ (.tmp 37) (.tmp 40) _ ?_ wE.heap.size 55 i0 (.agg #[.int .i64 0, .slice none 0 0]) 2 32 Try.underlying47 hi0 hz0 hz1 hz2 rfl ?_ (.slice (some ⟨wE.heap.size + 1, 0, none⟩) 0 0) ?_ (own_emptyG (Nat.le_succ _) hAc) ⟨gO, 0, none⟩ q cpO (gpV n (Q.take q)) ?_ ?_ (news_take HQL.out (owns_now HOE.out (by first | exact B1.out | exact B2.out | exact B3.out | exact B4.out | exact B5.out | exact B6.out | exact B7.out | exact B8.out | exact B9.out | exact B10.out | exact B11.out | exact B12.out | exact B13.out | exact B14.out | exact B15.out)) q hqle) (HONE.out _ (fun p h => List.mem_of_mem_take h)) ?_ ?_ (Below.size (B := wE.heap.size) (w := wE) (by first | exact B1.out | exact B2.out | exact B3.out | exact B4.out | exact B5.out | exact B6.out | exact B7.out | exact B8.out | exact B9.out | exact B10.out | exact B11.out | exact B12.out | exact B13.out | exact B14.out | exact B15.out)) ?_; (rfl); (rfl); (omega); (rfl); (rfl); (rw [gpV_len, List.length_take, HQL.out]; omega); (unfold maxLen; omega); (omega); intro B5 cp5 w5 hown5 hgrow5 hob5; have b5 : Below wE.heap.size wE w5 := Below.grown (by first | exact B1.out | exact B2.out | exact B3.out | exact B4.out | exact B5.out | exact B6.out | exact B7.out | exact B8.out | exact B9.out | exact B10.out | exact B11.out | exact B12.out | exact B13.out | exact B14.out | exact B15.out) hgrow5 (Below.size (B := wE.heap.size) (w := wE) (by first | exact B1.out | exact B2.out | exact B3.out | exact B4.out | exact B5.out | exact B6.out | exact B7.out | exact B8.out | exact B9.out | exact B10.out | exact B11.out | exact B12.out | exact B13.out | exact B14.out | exact B15.out)) (fun j hj => by have : wE.heap.size + 1 = j := (by simpa [Value.ownBlock] using hj); omega); have hC5 : w5.heap[wE.heap.size]? = some (.cells #[.int .i64 n, .slice AX lx cX] 55) := (hgrow5.block wE.heap.size hLc (by simp [Value.ownBlock])).trans hCc)
                    | (refine step_append_atN _ ?_ (.tmp 41) (.tmp 43) _ ?_ wE.heap.size 55 i0 (.agg #[.int .i64 0, .slice none 0 0]) 2 32 Try.underlying47 hi0 hz0 hz1 hz2 rfl ?_ (.slice B5 q cp5) q (gpV n (Q.take q)) ?_ hown5 ⟨wE.heap.size + 1, 0, none⟩ 1 1 [.int .i64 n, .slice AX lx cX] ?_ rfl (World.news_of_block (cs := #[.int .i64 n, .slice AX lx cX]) (t := 55) (fr := (0, 0)) hC5) ?_ ?_ ?_ b5.size ?_; (rfl); (rfl); (omega); (rfl); (rfl); (simp [Value.oneCell']); (unfold maxLen; omega); (omega); intro B7 cp7 w7 hown7 hgrow7 hob7; have b7 : Below wE.heap.size wE w7 := Below.grown b5 hgrow7 b5.size (fun j hj => owns_le hown5 hj); obtain ⟨d0, d1⟩ := K.out _ b7)
                    | (refine step_append_atN _ ?_ (.tmp 41) (.tmp 43) _ ?_ wE.heap.size 55 i0 (.agg #[.int .i64 0, .slice none 0 0]) 2 32 Try.underlying47 hi0 hz0 hz1 hz2 rfl ?_ (.slice B5 q cp5) q (gpV n (Q.take q)) ?_ hown5 ⟨wE.heap.size, 0, none⟩ 1 1 [.int .i64 n, .slice AX lx cX] ?_ rfl (World.news_of_block (cs := #[.int .i64 n, .slice AX lx cX]) (t := 55) (fr := (0, 0)) hC5) ?_ ?_ ?_ b5.size ?_; (rfl); (rfl); (omega); (rfl); (rfl); (simp [Value.oneCell']); (unfold maxLen; omega); (omega); intro B7 cp7 w7 hown7 hgrow7 hob7; have b7 : Below wE.heap.size wE w7 := Below.grown b5 hgrow7 b5.size (fun j hj => owns_le hown5 hj); obtain ⟨d0, d1⟩ := K.out _ b7)
                    | (refine step_append_atN _ ?_ (.tmp 41) (.tmp 43) _ ?_ wE.heap.size 55 i0 (.agg #[.int .i64 0, .slice none 0 0]) 2 32 Try.underlying47 hi0 hz0 hz1 hz2 rfl ?_ (.slice B5 q cp5) q (gpV n (Q.take q)) ?_ (hown5.alloc _) ⟨w5.heap.size, 0, none⟩ 1 1 [.int .i64 n, .slice AX lx cX] ?_ rfl (World.news_of_block (cs := #[.int .i64 n, .slice AX lx cX]) (t := 55) (fr := (0, 0)) (heap_alloc_new w5 _)) ?_ ?_ ?_ (b5.alloc b5.size (.cells #[.int .i64 n, .slice AX lx cX] 55)).size ?_; (rfl); (rfl); (omega); (rfl); (rfl); (simp [Value.oneCell']); (unfold maxLen; omega); (omega); intro B7 cp7 w7 hown7 hgrow7 hob7; have b7 : Below wE.heap.size wE w7 := Below.grown (b5.alloc b5.size (.cells #[.int .i64 n, .slice AX lx cX] 55)) hgrow7 (b5.alloc b5.size (.cells #[.int .i64 n, .slice AX lx cX] 55)).size (fun j hj => owns_le hown5 hj); obtain ⟨d0, d1⟩ := K.out _ b7)
                    | fail)
                all_goals
                  obtain ⟨gg, cp', hv, hge9, _, _⟩ := owns_headN hown7 (by omega)
                  obtain ⟨rfl, rfl⟩ : B7 = some ⟨gg, 0, none⟩ ∧ cp7 = cp' := by simpa using hv
                  have HO7 := Lib.hid hown7
                  have HOE7 := Lib.hid (owns_now HOE.out b7)
                  have G7 := Lib.hid (GE9.out.trans (b7.mono GE9.out.size))
                  have hzE := GE9.out.size
                  have hz7 := b7.size
                  clear hown5 hgrow5 hob5 b5 hown7 hgrow7 hob7 c0 c1 d0 d1 hC5 hAa hAb hCb hAc hCc hLb hLc
                  go_wp2_with (first
                    | (at_builtin; refine wpList_append_own_at _ rfl _ _ _ rfl wE.heap.size 55 i0 _ 2 32 Try.underlying47 hi0 hz0 hz1 hz2 rfl (by decide) (.slice (some ⟨gg, 0, none⟩) (q + 1) cp7) (q + 1) (gpV n (Q.take q) ++ [Value.int .i64 n, Value.slice AX lx cX]) rfl HO7.out ⟨gO, q * 2, none⟩ (lq - q) (cpO - q) (gpV n (Q.drop q)) rfl (by rw [gpV_len, List.length_drop, HQL.out]) (news_drop HQL.out HOE7.out q hqle) (HONE.out _ (fun p h => List.mem_of_mem_drop h)) (by unfold maxLen; omega) (by omega) hz7 ?_; intro v8 w8 hown8 hgrow8 hnil8 hat8; have HO8 := Lib.hid hown8; have G8 := Lib.hid (G7.out.grown hgrow8 G7.out.size (fun i hi => by have := (HO7.out.lt i hi).1; omega)); clear hown8 hgrow8 hnil8 hat8)
                    | fail)
                  go_roundw
                  case rel =>
                    refine ⟨j + 1, by omega, by go_num, ?_, G8.out⟩
                    have hlen : (Q.take q ++ (cx, sx) :: Q.drop q).length = q + 1 + (lq - q) := by rw [List.length_append, List.length_cons, List.length_take, List.length_drop, HQL.out]; omega
                    rw [HSTEP.out, hsb, hlen, gpV_ins, HSX.out]
                    exact owns_less HO8.out hzE
                  case measure => simp [intOf]; omega
          · obtain rfl : q = lq := by omega
            have hsb := befB_end (rP n) (cx, sx) Q q hqb (by rw [HQL.out]; omega)
            have hge : ¬ (q : Int) < (q : Int) := by omega
            go_wp2_with fail
            first
              | (go_region_with fail)
              | fail
            all_goals
              go_wp2_with fail
              obtain ⟨wE, hwE⟩ : ∃ wE, wE = wr.drew := ⟨_, rfl⟩
              rw [← hwE]
              have b9 : Below wr.heap.size wr wE := by rw [hwE]; exact (Below.refl _ _).drew
              clear hwE c0 c1 c2 c3
              have hE := HBI.out.trans (b9.mono HBI.out.size)
              have hxE := HXG.out.now hE
              have hqle : q ≤ q := hql
              have hk0 : (0 : Int) ≤ (q : Int) := by omega
              have hk1 : (q : Int) ≤ (cpO : Int) := by omega
              have HOE := Lib.hid (owns_now HOWi.out b9)
              have GE9 := Lib.hid (HBW.out.trans (b9.mono HBW.out.size))
              have K := Lib.hid (show ∀ W, Below wE.heap.size wE W → W.cell? ⟨gb, 0, none⟩ = some (.int .i64 n) ∧ W.cell? ⟨gb, 1, none⟩ = some (.slice AX lx cX) from fun W hb => (hxE.now hb).cells)
              have KS := Lib.hid K.out
              have B1 := Lib.hid ((Below.refl wE.heap.size wE)).drew
              have B2 := Lib.hid ((Below.refl wE.heap.size wE)).alloc (by first | exact Nat.le_refl _ | (show wE.heap.size ≤ (wE.alloc _).heap.size; simp)) (.cells #[] 55)
              have B3 := Lib.hid ((Below.refl wE.heap.size wE)).alloc (by first | exact Nat.le_refl _ | (show wE.heap.size ≤ (wE.alloc _).heap.size; simp)) (.cells #[.int .i64 n, .slice AX lx cX] 55)
              have B4 := Lib.hid (((Below.refl wE.heap.size wE)).drew).alloc (by first | exact Nat.le_refl _ | (show wE.heap.size ≤ (wE.alloc _).heap.size; simp)) (.cells #[] 55)
              have B5 := Lib.hid (((Below.refl wE.heap.size wE)).drew).alloc (by first | exact Nat.le_refl _ | (show wE.heap.size ≤ (wE.alloc _).heap.size; simp)) (.cells #[.int .i64 n, .slice AX lx cX] 55)
              have B6 := Lib.hid (((Below.refl wE.heap.size wE)).alloc (by first | exact Nat.le_refl _ | (show wE.heap.size ≤ (wE.alloc _).heap.size; simp)) (.cells #[] 55)).drew
              have B7 := Lib.hid (((Below.refl wE.heap.size wE)).alloc (by first | exact Nat.le_refl _ | (show wE.heap.size ≤ (wE.alloc _).heap.size; simp)) (.cells #[] 55)).alloc (by first | exact Nat.le_refl _ | (show wE.heap.size ≤ (wE.alloc _).heap.size; simp)) (.cells #[.int .i64 n, .slice AX lx cX] 55)
              have B8 := Lib.hid (((Below.refl wE.heap.size wE)).alloc (by first | exact Nat.le_refl _ | (show wE.heap.size ≤ (wE.alloc _).heap.size; simp)) (.cells #[.int .i64 n, .slice AX lx cX] 55)).drew
              have B9 := Lib.hid (((Below.refl wE.heap.size wE)).alloc (by first | exact Nat.le_refl _ | (show wE.heap.size ≤ (wE.alloc _).heap.size; simp)) (.cells #[.int .i64 n, .slice AX lx cX] 55)).alloc (by first | exact Nat.le_refl _ | (show wE.heap.size ≤ (wE.alloc _).heap.size; simp)) (.cells #[] 55)
              have B10 := Lib.hid ((((Below.refl wE.heap.size wE)).drew).alloc (by first | exact Nat.le_refl _ | (show wE.heap.size ≤ (wE.alloc _).heap.size; simp)) (.cells #[] 55)).alloc (by first | exact Nat.le_refl _ | (show wE.heap.size ≤ (wE.alloc _).heap.size; simp)) (.cells #[.int .i64 n, .slice AX lx cX] 55)
              have B11 := Lib.hid ((((Below.refl wE.heap.size wE)).drew).alloc (by first | exact Nat.le_refl _ | (show wE.heap.size ≤ (wE.alloc _).heap.size; simp)) (.cells #[.int .i64 n, .slice AX lx cX] 55)).alloc (by first | exact Nat.le_refl _ | (show wE.heap.size ≤ (wE.alloc _).heap.size; simp)) (.cells #[] 55)
              have B12 := Lib.hid ((((Below.refl wE.heap.size wE)).alloc (by first | exact Nat.le_refl _ | (show wE.heap.size ≤ (wE.alloc _).heap.size; simp)) (.cells #[] 55)).drew).alloc (by first | exact Nat.le_refl _ | (show wE.heap.size ≤ (wE.alloc _).heap.size; simp)) (.cells #[.int .i64 n, .slice AX lx cX] 55)
              have B13 := Lib.hid ((((Below.refl wE.heap.size wE)).alloc (by first | exact Nat.le_refl _ | (show wE.heap.size ≤ (wE.alloc _).heap.size; simp)) (.cells #[] 55)).alloc (by first | exact Nat.le_refl _ | (show wE.heap.size ≤ (wE.alloc _).heap.size; simp)) (.cells #[.int .i64 n, .slice AX lx cX] 55)).drew
              have B14 := Lib.hid ((((Below.refl wE.heap.size wE)).alloc (by first | exact Nat.le_refl _ | (show wE.heap.size ≤ (wE.alloc _).heap.size; simp)) (.cells #[.int .i64 n, .slice AX lx cX] 55)).drew).alloc (by first | exact Nat.le_refl _ | (show wE.heap.size ≤ (wE.alloc _).heap.size; simp)) (.cells #[] 55)
              have B15 := Lib.hid ((((Below.refl wE.heap.size wE)).alloc (by first | exact Nat.le_refl _ | (show wE.heap.size ≤ (wE.alloc _).heap.size; simp)) (.cells #[.int .i64 n, .slice AX lx cX] 55)).alloc (by first | exact Nat.le_refl _ | (show wE.heap.size ≤ (wE.alloc _).heap.size; simp)) (.cells #[] 55)).drew
              have hAa : (wE.alloc (.cells #[] 55)).heap[wE.heap.size]? = some (.cells #[] 55) := heap_alloc_new wE _
              have hAb : ((wE.alloc (.cells #[] 55)).alloc (.cells #[.int .i64 n, .slice AX lx cX] 55)).heap[wE.heap.size]? = some (.cells #[] 55) := (Below.heap_alloc (wE.alloc (.cells #[] 55)) (.cells #[.int .i64 n, .slice AX lx cX] 55) wE.heap.size (by simp)).trans (heap_alloc_new wE _)
              have hCb : ((wE.alloc (.cells #[] 55)).alloc (.cells #[.int .i64 n, .slice AX lx cX] 55)).heap[wE.heap.size + 1]? = some (.cells #[.int .i64 n, .slice AX lx cX] 55) := by have h := heap_alloc_new (wE.alloc (.cells #[] 55)) (.cells #[.int .i64 n, .slice AX lx cX] 55); rw [World.size_alloc] at h; exact h
              have hAc : ((wE.alloc (.cells #[.int .i64 n, .slice AX lx cX] 55)).alloc (.cells #[] 55)).heap[wE.heap.size + 1]? = some (.cells #[] 55) := by have h := heap_alloc_new (wE.alloc (.cells #[.int .i64 n, .slice AX lx cX] 55)) (.cells #[] 55); rw [World.size_alloc] at h; exact h
              have hCc : ((wE.alloc (.cells #[.int .i64 n, .slice AX lx cX] 55)).alloc (.cells #[] 55)).heap[wE.heap.size]? = some (.cells #[.int .i64 n, .slice AX lx cX] 55) := (Below.heap_alloc (wE.alloc (.cells #[.int .i64 n, .slice AX lx cX] 55)) (.cells #[] 55) wE.heap.size (by simp)).trans (heap_alloc_new wE _)
              have hLb : wE.heap.size + 1 < ((wE.alloc (.cells #[] 55)).alloc (.cells #[.int .i64 n, .slice AX lx cX] 55)).heap.size := by simp
              have hLc : wE.heap.size < ((wE.alloc (.cells #[.int .i64 n, .slice AX lx cX] 55)).alloc (.cells #[] 55)).heap.size := by simp; omega
              obtain ⟨c0, c1⟩ := K.out _ (Below.refl _ _)
              go_region_held3 (fun w' => w'.cell? ⟨gb, 0, none⟩ = some (.int .i64 n) ∧ w'.cell? ⟨gb, 1, none⟩ = some (.slice AX lx cX))
                (first | exact KS.out _ (Below.refl _ _) | exact KS.out _ B1.out | exact KS.out _ B2.out | exact KS.out _ B3.out | exact KS.out _ B4.out | exact KS.out _ B5.out | exact KS.out _ B6.out | exact KS.out _ B7.out | exact KS.out _ B8.out | exact KS.out _ B9.out | exact KS.out _ B10.out | exact KS.out _ B11.out | exact KS.out _ B12.out | exact KS.out _ B13.out | exact KS.out _ B14.out | exact KS.out _ B15.out | exact KS.out _ b5 | exact KS.out _ (b5.alloc b5.size _) | exact KS.out _ b7 | exact ⟨c0, c1⟩ | go_keep)
                (first
                  | (refine step_append_newN _ ?_ (.tmp 37) (.tmp 40) _ ?_ wE.heap.size 55 i0 (.agg #[.int .i64 0, .slice none 0 0]) 2 32 Try.underlying47 hi0 hz0 hz1 hz2 rfl ?_ (.slice (some ⟨wE.heap.size, 0, none⟩) 0 0) ?_ (own_emptyG (Nat.le_refl _) hAa) ⟨gO, 0, none⟩ q cpO (gpV n (Q.take q)) ?_ ?_ (news_take HQL.out (owns_now HOE.out (by first | exact B1.out | exact B2.out | exact B3.out | exact B4.out | exact B5.out | exact B6.out | exact B7.out | exact B8.out | exact B9.out | exact B10.out | exact B11.out | exact B12.out | exact B13.out | exact B14.out | exact B15.out)) q hqle) (HONE.out _ (fun p h => List.mem_of_mem_take h)) ?_ ?_ (Below.size (B := wE.heap.size) (w := wE) (by first | exact B1.out | exact B2.out | exact B3.out | exact B4.out | exact B5.out | exact B6.out | exact B7.out | exact B8.out | exact B9.out | exact B10.out | exact B11.out | exact B12.out | exact B13.out | exact B14.out | exact B15.out)) ?_; (rfl); (rfl); (omega); (rfl); (rfl); (rw [gpV_len, List.length_take, HQL.out]; omega); (unfold maxLen; omega); (omega); intro B5 cp5 w5 hown5 hgrow5 hob5; have b5 : Below wE.heap.size wE w5 := Below.grown (by first | exact B1.out | exact B2.out | exact B3.out | exact B4.out | exact B5.out | exact B6.out | exact B7.out | exact B8.out | exact B9.out | exact B10.out | exact B11.out | exact B12.out | exact B13.out | exact B14.out | exact B15.out) hgrow5 (Below.size (B := wE.heap.size) (w := wE) (by first | exact B1.out | exact B2.out | exact B3.out | exact B4.out | exact B5.out | exact B6.out | exact B7.out | exact B8.out | exact B9.out | exact B10.out | exact B11.out | exact B12.out | exact B13.out | exact B14.out | exact B15.out)) (fun j hj => by have : wE.heap.size = j := (by simpa [Value.ownBlock] using hj); omega); have hC5 : True := trivial)
                  | (refine step_append_newN _ ?_ (.tmp 37) (.tmp 40) _ ?_ wE.heap.size 55 i0 (.agg #[.int .i64 0, .slice none 0 0]) 2 32 Try.underlying47 hi0 hz0 hz1 hz2 rfl ?_ (.slice (some ⟨wE.heap.size, 0, none⟩) 0 0) ?_ (own_emptyG (Nat.le_refl _) hAb) ⟨gO, 0, none⟩ q cpO (gpV n (Q.take q)) ?_ ?_ (news_take HQL.out (owns_now HOE.out (by first | exact B1.out | exact B2.out | exact B3.out | exact B4.out | exact B5.out | exact B6.out | exact B7.out | exact B8.out | exact B9.out | exact B10.out | exact B11.out | exact B12.out | exact B13.out | exact B14.out | exact B15.out)) q hqle) (HONE.out _ (fun p h => List.mem_of_mem_take h)) ?_ ?_ (Below.size (B := wE.heap.size) (w := wE) (by first | exact B1.out | exact B2.out | exact B3.out | exact B4.out | exact B5.out | exact B6.out | exact B7.out | exact B8.out | exact B9.out | exact B10.out | exact B11.out | exact B12.out | exact B13.out | exact B14.out | exact B15.out)) ?_; (rfl); (rfl); (omega); (rfl); (rfl); (rw [gpV_len, List.length_take, HQL.out]; omega); (unfold maxLen; omega); (omega); intro B5 cp5 w5 hown5 hgrow5 hob5; have b5 : Below wE.heap.size wE w5 := Below.grown (by first | exact B1.out | exact B2.out | exact B3.out | exact B4.out | exact B5.out | exact B6.out | exact B7.out | exact B8.out | exact B9.out | exact B10.out | exact B11.out | exact B12.out | exact B13.out | exact B14.out | exact B15.out) hgrow5 (Below.size (B := wE.heap.size) (w := wE) (by first | exact B1.out | exact B2.out | exact B3.out | exact B4.out | exact B5.out | exact B6.out | exact B7.out | exact B8.out | exact B9.out | exact B10.out | exact B11.out | exact B12.out | exact B13.out | exact B14.out | exact B15.out)) (fun j hj => by have : wE.heap.size = j := (by simpa [Value.ownBlock] using hj); omega); have hC5 : w5.heap[wE.heap.size + 1]? = some (.cells #[.int .i64 n, .slice AX lx cX] 55) := (hgrow5.block (wE.heap.size + 1) hLb (by simp [Value.ownBlock])).trans hCb)
                  | (refine step_append_newN _ ?_ (.tmp 37) (.tmp 40) _ ?_ wE.heap.size 55 i0 (.agg #[.int .i64 0, .slice none 0 0]) 2 32 Try.underlying47 hi0 hz0 hz1 hz2 rfl ?_ (.slice (some ⟨wE.heap.size + 1, 0, none⟩) 0 0) ?_ (own_emptyG (Nat.le_succ _) hAc) ⟨gO, 0, none⟩ q cpO (gpV n (Q.take q)) ?_ ?_ (news_take HQL.out (owns_now HOE.out (by first | exact B1.out | exact B2.out | exact B3.out | exact B4.out | exact B5.out | exact B6.out | exact B7.out | exact B8.out | exact B9.out | exact B10.out | exact B11.out | exact B12.out | exact B13.out | exact B14.out | exact B15.out)) q hqle) (HONE.out _ (fun p h => List.mem_of_mem_take h)) ?_ ?_ (Below.size (B := wE.heap.size) (w := wE) (by first | exact B1.out | exact B2.out | exact B3.out | exact B4.out | exact B5.out | exact B6.out | exact B7.out | exact B8.out | exact B9.out | exact B10.out | exact B11.out | exact B12.out | exact B13.out | exact B14.out | exact B15.out)) ?_; (rfl); (rfl); (omega); (rfl); (rfl); (rw [gpV_len, List.length_take, HQL.out]; omega); (unfold maxLen; omega); (omega); intro B5 cp5 w5 hown5 hgrow5 hob5; have b5 : Below wE.heap.size wE w5 := Below.grown (by first | exact B1.out | exact B2.out | exact B3.out | exact B4.out | exact B5.out | exact B6.out | exact B7.out | exact B8.out | exact B9.out | exact B10.out | exact B11.out | exact B12.out | exact B13.out | exact B14.out | exact B15.out) hgrow5 (Below.size (B := wE.heap.size) (w := wE) (by first | exact B1.out | exact B2.out | exact B3.out | exact B4.out | exact B5.out | exact B6.out | exact B7.out | exact B8.out | exact B9.out | exact B10.out | exact B11.out | exact B12.out | exact B13.out | exact B14.out | exact B15.out)) (fun j hj => by have : wE.heap.size + 1 = j := (by simpa [Value.ownBlock] using hj); omega); have hC5 : w5.heap[wE.heap.size]? = some (.cells #[.int .i64 n, .slice AX lx cX] 55) := (hgrow5.block wE.heap.size hLc (by simp [Value.ownBlock])).trans hCc)
                  | (refine step_append_atN _ ?_ (.tmp 41) (.tmp 43) _ ?_ wE.heap.size 55 i0 (.agg #[.int .i64 0, .slice none 0 0]) 2 32 Try.underlying47 hi0 hz0 hz1 hz2 rfl ?_ (.slice B5 q cp5) q (gpV n (Q.take q)) ?_ hown5 ⟨wE.heap.size + 1, 0, none⟩ 1 1 [.int .i64 n, .slice AX lx cX] ?_ rfl (World.news_of_block (cs := #[.int .i64 n, .slice AX lx cX]) (t := 55) (fr := (0, 0)) hC5) ?_ ?_ ?_ b5.size ?_; (rfl); (rfl); (omega); (rfl); (rfl); (simp [Value.oneCell']); (unfold maxLen; omega); (omega); intro B7 cp7 w7 hown7 hgrow7 hob7; have b7 : Below wE.heap.size wE w7 := Below.grown b5 hgrow7 b5.size (fun j hj => owns_le hown5 hj); obtain ⟨d0, d1⟩ := K.out _ b7)
                  | (refine step_append_atN _ ?_ (.tmp 41) (.tmp 43) _ ?_ wE.heap.size 55 i0 (.agg #[.int .i64 0, .slice none 0 0]) 2 32 Try.underlying47 hi0 hz0 hz1 hz2 rfl ?_ (.slice B5 q cp5) q (gpV n (Q.take q)) ?_ hown5 ⟨wE.heap.size, 0, none⟩ 1 1 [.int .i64 n, .slice AX lx cX] ?_ rfl (World.news_of_block (cs := #[.int .i64 n, .slice AX lx cX]) (t := 55) (fr := (0, 0)) hC5) ?_ ?_ ?_ b5.size ?_; (rfl); (rfl); (omega); (rfl); (rfl); (simp [Value.oneCell']); (unfold maxLen; omega); (omega); intro B7 cp7 w7 hown7 hgrow7 hob7; have b7 : Below wE.heap.size wE w7 := Below.grown b5 hgrow7 b5.size (fun j hj => owns_le hown5 hj); obtain ⟨d0, d1⟩ := K.out _ b7)
                  | (refine step_append_atN _ ?_ (.tmp 41) (.tmp 43) _ ?_ wE.heap.size 55 i0 (.agg #[.int .i64 0, .slice none 0 0]) 2 32 Try.underlying47 hi0 hz0 hz1 hz2 rfl ?_ (.slice B5 q cp5) q (gpV n (Q.take q)) ?_ (hown5.alloc _) ⟨w5.heap.size, 0, none⟩ 1 1 [.int .i64 n, .slice AX lx cX] ?_ rfl (World.news_of_block (cs := #[.int .i64 n, .slice AX lx cX]) (t := 55) (fr := (0, 0)) (heap_alloc_new w5 _)) ?_ ?_ ?_ (b5.alloc b5.size (.cells #[.int .i64 n, .slice AX lx cX] 55)).size ?_; (rfl); (rfl); (omega); (rfl); (rfl); (simp [Value.oneCell']); (unfold maxLen; omega); (omega); intro B7 cp7 w7 hown7 hgrow7 hob7; have b7 : Below wE.heap.size wE w7 := Below.grown (b5.alloc b5.size (.cells #[.int .i64 n, .slice AX lx cX] 55)) hgrow7 (b5.alloc b5.size (.cells #[.int .i64 n, .slice AX lx cX] 55)).size (fun j hj => owns_le hown5 hj); obtain ⟨d0, d1⟩ := K.out _ b7)
                  | fail)
              all_goals
                obtain ⟨gg, cp', hv, hge9, _, _⟩ := owns_headN hown7 (by omega)
                obtain ⟨rfl, rfl⟩ : B7 = some ⟨gg, 0, none⟩ ∧ cp7 = cp' := by simpa using hv
                have HO7 := Lib.hid hown7
                have HOE7 := Lib.hid (owns_now HOE.out b7)
                have G7 := Lib.hid (GE9.out.trans (b7.mono GE9.out.size))
                have hzE := GE9.out.size
                have hz7 := b7.size
                clear hown5 hgrow5 hob5 b5 hown7 hgrow7 hob7 c0 c1 d0 d1 hC5 hAa hAb hCb hAc hCc hLb hLc
                go_wp2_with fail
                all_goals
                  go_roundw
                  case rel =>
                    refine ⟨j + 1, by omega, by go_num, ?_, G7.out⟩
                    have hd : Q.drop q = [] := List.drop_of_length_le (by rw [HQL.out]; omega)
                    have hlen : (Q.take q ++ [(cx, sx)]).length = q + 1 := by rw [List.length_append, List.length_cons, List.length_nil, List.length_take, HQL.out]; omega
                    rw [HSTEP.out, hsb, hd, hlen, gpV_snoc, HSX.out]
                    exact owns_less HO7.out hzE
                  case measure => simp [intOf]; omega
    · obtain rfl : j = m := by omega
      have hT : P0.take j = P0 := List.take_of_length_le (by rw [← HM.out]; exact Nat.le_refl _)
      rw [hT] at hown
      have HOW := Lib.hid hown
      obtain ⟨lq, hlq⟩ : ∃ lq, lq = (sortP n P0).length := ⟨_, rfl⟩
      have HQL := Lib.hid hlq.symm
      rw [← hlq] at HOW
      rw [hT, ← hlq]
      have HB1w := HB1.out.size
      have HBR := Lib.hid hbr
      clear hown hT hlq
      go_wp2
      go_ret
      exact ⟨sortP n P0, _, rfl, by rw [sortP_fst, HD1.out, HD.out, HSRT.out], ⟨by rw [HQL.out]; exact owns_less HOW.out HB1w, fun p hp => (HG1.out.2 p ((sortP_mem n P0 p).1 hp)).other (by omega) HBR.out (fun k hk => (HOW.out.lt k hk).1)⟩, HB1.out.trans (HBR.out.mono HB1w)⟩
end Go.Proofs.Ytnldodnpakpeeaa
