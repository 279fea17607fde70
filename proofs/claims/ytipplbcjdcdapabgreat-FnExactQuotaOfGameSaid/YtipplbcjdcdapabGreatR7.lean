/- Contracts of the list of greatest sets; LeastWinning, GreatestLosing, LeastBlocking of the program. -/
import Derived.Test.YtipplbcjdcdapabGreatR6
import Derived.Test.YtipplbcjdcdapabGreatN1
import Derived.Outline
namespace Go.Proofs.YtipplbcjdcdapabGreat
open Go.RowKit Vo

/-- No set that one member joins is of the kind. -/
def noneMore (p : Nat → Bool) (s : Nat) (k : Nat) : Bool := allK (fun j => !(!s.testBit j && p (s ||| 2^j))) k
set_option maxHeartbeats 1000000 in
theorem isKindWithOneMore_any (p : Nat → Bool) (k : Nat) (first cap : Array Value) (n s : Nat) (w : World) (hn : n < 10) (hs : s < 2^n) (ha : Asks p k first cap n w) :
    Calls Tryz.prog 53 #[.int .i64 n, .int .u64 s, .func (.func k) first cap] w fun e w' => e = .returned (.bool (!noneMore p s n)) ∧ Below w.heap.size w w' := by
  have HA := Lib.hid ha
  have eg := ha.enters
  have h512 := pow_lt (n := n) (by omega)
  have HS2 := Lib.hid hs
  have hs512 : s < 512 := by omega
  clear ha hs h512
  go_enter Tryz.func53, Tryz.ntmps53
  go_wp2_with fail
  go_loopw [7, 9] (fun _ i wr => ∃ j : Nat, j ≤ n ∧ i = .int .i64 j ∧ noneMore p s j = true ∧ Below w.heap.size w wr) (fun _ i _ => n - (intOf i).toNat)
  case atStart => exact ⟨0, Nat.zero_le _, rfl, rfl, Below.refl _ _⟩
  case round =>
    obtain ⟨j, hj, rfl, hall, hb⟩ := hrel
    have HL := Lib.hid hall
    clear hall
    by_cases hlt : j < n
    · cases hbit : s.testBit j
      · have HB := Lib.hid hbit
        have HO := Lib.hid (or_pow_lt HS2.out hlt)
        cases hp : p (s ||| 2^j)
        · have HP := Lib.hid hp
          have HN := Lib.hid (show noneMore p s (j+1) = true from by have := HL.out; unfold noneMore at this ⊢; simp only [allK]; rw [this, hbit, hp]; rfl)
          clear hbit hp
          go_wp2_with (first | (go_at_call 63; refine (has_any s j _ (by omega) hs512).mono ?_; rintro e w' ⟨rfl, rfl⟩; rw [HB.out]) | (go_at_call 68; refine (with_any s j _ (by omega) hs512).mono ?_; rintro e w' ⟨rfl, rfl⟩) | (go_at_fn k; refine (HA.out.gives _ (s ||| 2^j) HO.out hb).mono ?_; rintro e w' ⟨rfl, hb'⟩; rw [HP.out]))
          go_roundw
          case rel => exact ⟨j + 1, by omega, by go_num, HN.out, bfrom hb hb'⟩
          case measure => simp [intOf]; omega
        · have HP := Lib.hid hp
          have HN := Lib.hid (show noneMore p s n = false from allK_false (k := n) j hlt (by rw [hbit, hp]; rfl))
          clear hbit hp
          go_wp2_with (first | (go_at_call 63; refine (has_any s j _ (by omega) hs512).mono ?_; rintro e w' ⟨rfl, rfl⟩; rw [HB.out]) | (go_at_call 68; refine (with_any s j _ (by omega) hs512).mono ?_; rintro e w' ⟨rfl, rfl⟩) | (go_at_fn k; refine (HA.out.gives _ (s ||| 2^j) HO.out hb).mono ?_; rintro e w' ⟨rfl, hb'⟩; rw [HP.out]))
          go_ret
          exact ⟨by rw [HN.out]; rfl, bfrom hb hb'⟩
      · have HB := Lib.hid hbit
        have HN := Lib.hid (show noneMore p s (j+1) = true from by have := HL.out; unfold noneMore at this ⊢; simp only [allK]; rw [this, hbit]; rfl)
        clear hbit
        go_wp2_with (go_at_call 63; refine (has_any s j _ (by omega) hs512).mono ?_; rintro e w' ⟨rfl, rfl⟩; rw [HB.out])
        go_roundw
        case rel => exact ⟨j + 1, by omega, by go_num, HN.out, hb⟩
        case measure => simp [intOf]; omega
    · obtain rfl : j = n := by omega
      go_wp2
      go_ret
      exact ⟨by rw [HL.out]; rfl, hb⟩

/-- Is s of the kind, and no set that one member joins? -/
def greatP (p : Nat → Bool) (n : Nat) (s : Nat) : Bool := p s && noneMore p s n
set_option maxRecDepth 20000 in
set_option maxHeartbeats 2000000 in
theorem greatestSets_any (p : Nat → Bool) (k : Nat) (first cap : Array Value) (n : Nat) (w : World) (hn : n < 10) (ha : Asks p k first cap n w) :
    Calls Tryz.prog 38 #[.int .i64 n, .func (.func k) first cap] w fun e w' => SetsAt w.heap.size ((inOrder n).filter (greatP p n)) w w' e := by
  have HA := Lib.hid ha
  have eg := ha.enters
  have h512 := pow_lt (n := n) (by omega)
  have hpos := Nat.two_pow_pos n
  have hlen := inOrder_len n
  obtain ⟨L, hL⟩ : ∃ L, L = inOrder n := ⟨_, rfl⟩
  rw [← hL] at hlen
  have HIn := Lib.hid (show ∀ j, j < L.length → L.getD j 0 < 2 ^ n from fun j hj => by
    rw [List.getD_eq_getElem?_getD, List.getElem?_eq_getElem hj]
    exact mem_inOrder.1 (by rw [← hL]; exact List.getElem_mem hj))
  have HL := Lib.hid hL
  have hL512 : L.length ≤ 512 := by omega
  have hLpos : 0 < L.length := by omega
  have HN512 := Lib.hid h512
  clear ha hL hlen hpos h512
  obtain ⟨i0, hi0, hz0, hz1, hz2⟩ := info_parts infoSet
  go_enter Tryz.func38, Tryz.ntmps38
  go_wp2_with fail
  refine (setsInOrder_any n _ hn).mono ?_
  rintro e w1 ⟨A, cp, rfl, hown, hb⟩
  rw [← HL.out] at hown ⊢
  obtain ⟨g, cp', hv, hg, hc1, hc2⟩ := owns_head hown (by omega)
  obtain ⟨rfl, rfl⟩ : A = some ⟨g, 0, none⟩ ∧ cp = cp' := by simpa using hv
  have hOwn : Own w1 g 66 L.length (fun i => .int .u64 (L.getD i 0 : Nat)) := Own.of_own hown (fun i hi => by simp [setsV, List.getD_eq_getElem?_getD, hi])
  clear hown
  go_wp2_with fail
  have hgl : g < w1.heap.size := hOwn.lt
  go_loopw [5, 7, 11] (fun v _ i wr => ∃ (j : Nat) (A : Option Addr) (cap : Nat), j ≤ L.length ∧ i = .int .i64 j ∧ v = .slice A ((L.take j).filter (greatP p n)).length cap ∧ wr.ownsRow w1.heap.size 66 1 (.slice A ((L.take j).filter (greatP p n)).length cap) ((L.take j).filter (greatP p n)).length (setsV ((L.take j).filter (greatP p n))) ∧ Below w1.heap.size w1 wr) (fun _ _ i _ => L.length - (intOf i).toNat)
  case atStart => exact ⟨0, none, 0, Nat.zero_le _, rfl, rfl, World.ownsRow_nil _ _ _ _, Below.refl _ _⟩
  case round =>
    obtain ⟨j, A, cap2, hj, rfl, rfl, hown, hbr⟩ := hrel
    have HO := Lib.hid hown
    clear hown
    have hfl := filter_take_le (greatP p n) L j
    obtain ⟨M, hM⟩ : ∃ M, M = (L.take j).filter (greatP p n) := ⟨_, rfl⟩
    rw [← hM] at hfl HO ⊢
    obtain ⟨m, hm⟩ : ∃ m, m = M.length := ⟨_, rfl⟩
    rw [← hm] at hfl HO ⊢
    have HMm := Lib.hid hm
    have HM := Lib.hid hM
    clear hm hM
    have hszr := hbr.size
    by_cases hlt : j < L.length
    · have hcell : wr.cell? ⟨g, j, none⟩ = some (.int .u64 (L.getD j 0 : Nat)) := by
        exact (hOwn.below hbr hgl).cell hlt
      have hs := HIn.out j hlt
      have HST := Lib.hid (filter_take_succ (greatP p n) L j hlt)
      rw [← HM.out] at HST
      generalize L.getD j 0 = s at *
      have hs512 : s < 512 := Nat.lt_of_lt_of_le hs HN512.out
      have HS2 := Lib.hid hs
      have HBr := Lib.hid (bfrom hb hbr)
      clear hs
      cases hp : p s
      · have HP := Lib.hid hp
        have HF := Lib.hid (show greatP p n s = false from by unfold greatP; rw [hp]; rfl)
        rw [HF.out] at HST
        clear hp
        go_wp2_with (go_at_fn k; refine (HA.out.gives _ s HS2.out HBr.out).mono ?_; rintro e w' ⟨rfl, hb'⟩; rw [HP.out])
        go_roundw
        case rel => exact ⟨j + 1, A, cap2, by omega, by go_num, by rw [HST.out, HMm.out]; simp, by rw [HST.out]; have := owns_now HO.out hb'; simpa [HMm.out] using this, bfrom hbr hb'⟩
        case measure => simp [intOf]; omega
      · cases hq : noneMore p s n
        · have HP := Lib.hid hp
          have HQ := Lib.hid hq
          have HF := Lib.hid (show greatP p n s = false from by unfold greatP; rw [hp, hq]; rfl)
          rw [HF.out] at HST
          clear hp hq
          go_wp2_with (first | (go_at_fn k; refine (HA.out.gives _ s HS2.out HBr.out).mono ?_; rintro e w' ⟨rfl, hb'⟩; rw [HP.out]) | (go_at_call 53; refine (isKindWithOneMore_any p k first cap n s _ hn HS2.out (HA.out.now (bfrom HBr.out hb'))).mono ?_; rintro e w2 ⟨rfl, hb2⟩; rw [HQ.out]))
          go_roundw
          case rel => exact ⟨j + 1, A, cap2, by omega, by go_num, by rw [HST.out, HMm.out]; simp, by rw [HST.out]; have := owns_now (owns_now HO.out hb') hb2; simpa [HMm.out] using this, bfrom (bfrom hbr hb') hb2⟩
          case measure => simp [intOf]; omega
        · have HP := Lib.hid hp
          have HQ := Lib.hid hq
          have HF := Lib.hid (show greatP p n s = true from by unfold greatP; rw [hp, hq]; rfl)
          rw [HF.out] at HST
          clear hp hq
          go_wp2_with (first | (go_at_fn k; refine (HA.out.gives _ s HS2.out HBr.out).mono ?_; rintro e w' ⟨rfl, hb'⟩; rw [HP.out]) | (go_at_call 53; refine (isKindWithOneMore_any p k first cap n s _ hn HS2.out (HA.out.now (bfrom HBr.out hb'))).mono ?_; rintro e w2 ⟨rfl, hb2⟩; rw [HQ.out]; have HO2 := Lib.hid (owns_now (owns_now HO.out hb') hb2); have HB2 := Lib.hid (bfrom (bfrom hbr hb') hb2); have hsz2 := HB2.out.size) | (at_builtin; refine wpList_append_lies _ rfl _ _ _ rfl w1.heap.size 66 i0 _ 1 8 Tryz.underlying43 hi0 hz0 hz1 hz2 rfl (by decide) (.slice A m cap2) m (setsV M) rfl (HO2.out.alloc _) ⟨w2.heap.size, 0, none⟩ 1 1 [.int .u64 s] rfl rfl (World.news_of_block (cs := #[.int .u64 s]) (t := 66) (fr := (0, 0)) (heap_alloc_new w2 _)) (by simp [Value.oneCell']) (by omega) (by unfold maxLen; omega) (by omega) (by simp; omega) (w2.heap.size + 1) (by simp) ?_; intro gg cap3 w4 hown4 hgrow hat hlt4))
          have hb4 : Below w1.heap.size w1 w4 := (HB2.out.alloc hsz2 (.cells #[.int .u64 s] 66)).grown hgrow (by simp; omega) fun i hi => owns_le HO2.out hi
          go_roundw
          case rel => exact ⟨j + 1, some ⟨gg, 0, none⟩, cap3, by omega, by go_num, by rw [HST.out, HMm.out]; simp, by rw [HST.out]; simpa [HMm.out, setsV] using hown4, hb4⟩
          case measure => simp [intOf]; omega
    · obtain rfl : j = L.length := by omega
      have HE := Lib.hid (show M = L.filter (greatP p n) from by rw [HM.out, List.take_length])
      have HR := Lib.hid (show w.heap.size ≤ w1.heap.size from hb.size)
      go_wp2
      go_ret
      refine ⟨A, cap2, ?_, ?_, bfrom hb hbr⟩
      · rw [← HL.out, ← HE.out, ← HMm.out]; rfl
      · rw [← HL.out, ← HE.out, ← HMm.out]
        exact owns_less HO.out HR.out

def okLL (ok : Bool) (L : List (List Int)) : List (List Int) := if ok then L else []
theorem okLL_yes {ok L} (h : ok = true) : okLL ok L = L := if_pos h
theorem okLL_no {ok L} (h : ok = false) : okLL ok L = [] := if_neg (by rw [h]; simp)
theorem Ans.noneSS {w w' : World} (hb : Below w.heap.size w w') : Ans (RSS []) false w w' (.returned (.tuple #[.slice none 0 0, .bool false])) :=
  ⟨_, rfl, RSS.lies ⟨none, 0, rfl, Or.inl rfl⟩ (Nat.le_refl _), hb⟩
theorem Ans.noneSS0 {w w' : World} (hb : Below w.heap.size w w') : Ans (RSS0 []) false w w' (.returned (.tuple #[.slice none 0 0, .bool false])) :=
  ⟨_, rfl, RSS0.lies ⟨none, 0, rfl, Or.inl rfl⟩ (Nat.le_refl _), hb⟩
theorem filt_get {n : Nat} {P : Nat → Bool} (hn : n ≤ 9) : ((inOrder n).filter P).length ≤ 512 ∧ ∀ j, j < ((inOrder n).filter P).length → ((inOrder n).filter P).getD j 0 < 512 := by
  have h9 := pow_lt hn
  refine ⟨Nat.le_trans (List.length_filter_le _ _) (by rw [inOrder_len]; exact h9), fun j hj => ?_⟩
  have h1 : ((inOrder n).filter P).getD j 0 ∈ (inOrder n).filter P := by rw [List.getD_eq_getElem?_getD, List.getElem?_eq_getElem hj]; exact List.getElem_mem hj
  have := mem_inOrder.1 (List.mem_filter.1 h1).1
  omega
theorem SSb.less {base base' : Nat} {L : List (List Int)} {v : Value} {w : World} (h : SSb base L v w) (hb : base' ≤ base) : SSb base' L v w := by
  obtain ⟨xs, G, ho, h⟩ := h
  refine ⟨xs, G, owns_less ho hb, fun i hi => ?_⟩
  obtain ⟨x, hx, hr, hg⟩ := h i hi
  refine ⟨x, hx, hr, ?_⟩
  rcases hg with hg | hg
  · exact Or.inl hg
  · exact Or.inr ⟨by omega, hg.2⟩

def leastWinningL (q : Int) (ws : List Int) (n : Nat) : List (List Int) := okLL (goodB q ws n) (setsL ((inOrder n).filter (leastP (winB q ws n) n)))
def greatestLosingL (q : Int) (ws : List Int) (n : Nat) : List (List Int) := okLL (goodB q ws n) (setsL ((inOrder n).filter (greatP (fun s => !winB q ws n s) n)))
def leastBlockingL (q : Int) (ws : List Int) (n : Nat) : List (List Int) := okLL (goodB q ws n) (setsL ((inOrder n).filter (leastP (vetoP q ws n) n)))
end Go.Proofs.YtipplbcjdcdapabGreat
