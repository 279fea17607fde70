/- Contracts of what asks all sets, where the function that is asked may remember what it answered, in a block of its own. -/
import Derived.Test.YtkckefjpkhjeaaaR3
import Derived.Test.YtkckefjpkhjeaaaN4
import Derived.Test.YtkckefjpkhjeaaaM1
namespace Go.Proofs.Ytkckefjpkhjeaaa
open Go.RowKit Vo

/-- The function value (k, first, cap), called with a set of n members in a world where I holds, answers whether it is of the kind p; of what was there it turns the one block 'row' alone, and I holds again. -/
structure AsksR (p : Nat → Bool) (k : Nat) (first cap : Array Value) (n B : Nat) (row : Option Nat) (I : World → Prop) : Prop where
  enters : ∀ args W, (callFunc k args).run Try.prog W = .ok (.enter k args) W
  low : ∀ r, row = some r → r < B
  keeps : ∀ W W', I W → Below B W W' → I W'
  big : ∀ W, I W → B ≤ W.heap.size
  gives : ∀ (W : World) (s : Nat), s < 2^n → I W → Calls Try.prog k (first.push (.int .u64 s) ++ cap) W fun e W' => e = .returned (.bool (p s)) ∧ I W' ∧ W.grownBy W' row

theorem gof {B : Nat} {w w' : World} (row : Option Nat) (h : Below B w w') (hB : w.heap.size ≤ B) : w.grownBy w' row := ⟨h.os, h.tape, h.output, h.size, fun k hk _ => h.block k (by omega)⟩
theorem gstep {a b c : World} {row r2 : Option Nat} (h : a.grownBy b row) (k : b.grownBy c r2) (hr : ∀ j, r2 = some j → a.heap.size ≤ j) : a.grownBy c row :=
  ⟨k.os.trans h.os, k.tape.trans h.tape, k.output.trans h.output, Nat.le_trans h.size k.size, fun i hi hne => (k.block i (Nat.lt_of_lt_of_le hi h.size) (fun e => by have := hr i e.symm; omega)).trans (h.block i hi hne)⟩
theorem gcons {w w1 w2 : World} {row : Option Nat} (hb : Below w.heap.size w w1) (h : w1.grownBy w2 row) : w.grownBy w2 row :=
  ⟨h.os.trans hb.os, h.tape.trans hb.tape, h.output.trans hb.output, Nat.le_trans hb.size h.size, fun k hk hne => (h.block k (Nat.lt_of_lt_of_le hk hb.size) hne).trans (hb.block k hk)⟩
theorem gcell {w w' : World} {row : Option Nat} (h : w.grownBy w' row) {p : Addr} {v : Value} (hc : w.cell? p = some v) (hr : some p.block ≠ row) : w'.cell? p = some v :=
  h.cell hc hr
theorem Own.gnow {w w' : World} {g : Nat} {t : TypeId} {n : Nat} {f : Nat → Value} {row : Option Nat} (h : Own w g t n f) (hb : w.grownBy w' row) (hr : ∀ r, row = some r → r < g) : Own w' g t n f := h.grown hb (fun e => by have := hr g e.symm; omega)
theorem owns_gnow {w w' : World} {base : Nat} {e : TypeId} {size : Nat} {v : Value} {n : Nat} {xs : List Value} {row : Option Nat} (h : w.ownsRow base e size v n xs) (hg : w.grownBy w' row) (hr : ∀ r, row = some r → r < base) : w'.ownsRow base e size v n xs :=
  owns_apart h (fun k hk e => by have := hr k e; have := owns_le h hk; omega) hg

set_option maxHeartbeats 1000000 in
theorem countSetsR_any (p : Nat → Bool) (k : Nat) (first cap : Array Value) (n B : Nat) (row : Option Nat) (I : World → Prop) (w : World) (hn : n < 10) (ha : AsksR p k first cap n B row I) (hI : I w) :
    Calls Try.prog 151 #[.int .i64 n, .func (.func k) first cap] w fun e w' => e = .returned (.int .i64 (cnt p (2^n) : Nat)) ∧ I w' ∧ w.grownBy w' row := by
  have HA := Lib.hid ha
  have eg := ha.enters
  have HI := Lib.hid hI
  have h512 := pow_lt (n := n) (by omega)
  have hpos := Nat.two_pow_pos n
  clear ha hI
  go_enter Try.func151, Try.ntmps151
  go_wp2_with fail
  refine (allMembers_any n _ hn).mono ?_
  rintro e w1 ⟨rfl, rfl⟩
  obtain ⟨N, hN⟩ : ∃ N, N = 2^n := ⟨_, rfl⟩
  have HP := Lib.hid (show (((2^n - 1 : Nat) : Int) + 1) = (N : Int) from by omega)
  rw [← hN] at h512 hpos
  have HN2 := Lib.hid hN
  clear hN
  go_wp2_with fail
  rw [HP.out]
  go_loopw [5, 6, 10] (fun c _ i wr => ∃ j : Nat, j ≤ N ∧ i = .int .u64 j ∧ c = .int .i64 (cnt p j : Nat) ∧ I wr ∧ w.grownBy wr row) (fun _ _ i _ => N - (intOf i).toNat)
  case atStart => exact ⟨0, Nat.zero_le _, rfl, rfl, HI.out, World.grownBy.refl _ _⟩
  case round =>
    obtain ⟨j, hj, rfl, rfl, hir, hg⟩ := hrel
    have HIR := Lib.hid hir
    have HG := Lib.hid hg
    clear hir hg
    have hcl := cnt_le p j
    by_cases hlt : j < N
    · have HS := Lib.hid (show cnt p (j+1) = cnt p j + if p j then 1 else 0 from rfl)
      generalize cnt p j = t at *
      cases hp : p j
      all_goals
        have HB := Lib.hid hp
        rw [hp] at HS
        clear hp
        go_wp2_with (go_at_fn k; refine (HA.out.gives _ j (by rw [← HN2.out]; exact hlt) HIR.out).mono ?_; rintro e w' ⟨rfl, hi', hg'⟩; rw [HB.out]; have HI' := Lib.hid hi'; have HG' := Lib.hid hg'; clear hi' hg')
        go_roundw
        case rel => exact ⟨j + 1, by omega, by go_num, by rw [HS.out]; simp, HI'.out, HG.out.trans HG'.out⟩
        case measure => simp [intOf]; omega
    · obtain rfl : j = N := by omega
      go_wp2
      go_ret
      exact ⟨by rw [← HN2.out]; rfl, HIR.out, HG.out⟩

set_option maxHeartbeats 1000000 in
theorem isKindWithoutOneR_any (p : Nat → Bool) (k : Nat) (first cap : Array Value) (n s B : Nat) (row : Option Nat) (I : World → Prop) (w : World) (hn : n < 10) (hs : s < 2^n) (ha : AsksR p k first cap n B row I) (hI : I w) :
    Calls Try.prog 141 #[.int .i64 n, .int .u64 s, .func (.func k) first cap] w fun e w' => e = .returned (.bool (!noneOut p s n)) ∧ I w' ∧ w.grownBy w' row := by
  have HA := Lib.hid ha
  have eg := ha.enters
  have HI := Lib.hid hI
  have h512 := pow_lt (n := n) (by omega)
  have HS2 := Lib.hid hs
  have hs512 : s < 512 := by omega
  clear ha hs h512 hI
  go_enter Try.func141, Try.ntmps141
  go_wp2_with fail
  go_loopw [6, 9] (fun _ i wr => ∃ j : Nat, j ≤ n ∧ i = .int .i64 j ∧ noneOut p s j = true ∧ I wr ∧ w.grownBy wr row) (fun _ i _ => n - (intOf i).toNat)
  case atStart => exact ⟨0, Nat.zero_le _, rfl, rfl, HI.out, World.grownBy.refl _ _⟩
  case round =>
    obtain ⟨j, hj, rfl, hall, hir, hg⟩ := hrel
    have HL := Lib.hid hall
    have HIR := Lib.hid hir
    have HG := Lib.hid hg
    clear hall hir hg
    by_cases hlt : j < n
    · cases hbit : s.testBit j
      · have HB := Lib.hid hbit
        have HN := Lib.hid (show noneOut p s (j+1) = true from by have := HL.out; unfold noneOut at this ⊢; simp only [allK]; rw [this, hbit]; rfl)
        clear hbit
        go_wp2_with (go_at_call 147; refine (has_any s j _ (by omega) hs512).mono ?_; rintro e w' ⟨rfl, rfl⟩; rw [HB.out])
        go_roundw
        case rel => exact ⟨j + 1, by omega, by go_num, HN.out, HIR.out, HG.out⟩
        case measure => simp [intOf]; omega
      · have HB := Lib.hid hbit
        have HO := Lib.hid (show out s j < 2^n from Nat.lt_of_le_of_lt (out_le s j) HS2.out)
        cases hp : p (out s j)
        · have HP := Lib.hid hp
          have HN := Lib.hid (show noneOut p s (j+1) = true from by have := HL.out; unfold noneOut at this ⊢; simp only [allK]; rw [this, hbit, hp]; rfl)
          clear hbit hp
          go_wp2_with (first | (go_at_call 147; refine (has_any s j _ (by omega) hs512).mono ?_; rintro e w' ⟨rfl, rfl⟩; rw [HB.out]) | (go_at_call 150; refine (without_any s j _ (by omega) hs512).mono ?_; rintro e w' ⟨rfl, rfl⟩) | (go_at_fn k; refine (HA.out.gives _ (out s j) HO.out HIR.out).mono ?_; rintro e w' ⟨rfl, hi', hg'⟩; rw [HP.out]; have HI' := Lib.hid hi'; have HG' := Lib.hid hg'; clear hi' hg') | fail)
          go_roundw
          case rel => exact ⟨j + 1, by omega, by go_num, HN.out, HI'.out, HG.out.trans HG'.out⟩
          case measure => simp [intOf]; omega
        · have HP := Lib.hid hp
          have HN := Lib.hid (show noneOut p s n = false from allK_false (k := n) j hlt (by rw [hbit, hp]; rfl))
          clear hbit hp
          go_wp2_with (first | (go_at_call 147; refine (has_any s j _ (by omega) hs512).mono ?_; rintro e w' ⟨rfl, rfl⟩; rw [HB.out]) | (go_at_call 150; refine (without_any s j _ (by omega) hs512).mono ?_; rintro e w' ⟨rfl, rfl⟩) | (go_at_fn k; refine (HA.out.gives _ (out s j) HO.out HIR.out).mono ?_; rintro e w' ⟨rfl, hi', hg'⟩; rw [HP.out]; have HI' := Lib.hid hi'; have HG' := Lib.hid hg'; clear hi' hg') | fail)
          go_ret
          exact ⟨by rw [HN.out]; rfl, HI'.out, HG.out.trans HG'.out⟩
    · obtain rfl : j = n := by omega
      go_wp2
      go_ret
      exact ⟨by rw [HL.out]; rfl, HIR.out, HG.out⟩

/-- A row of the call's own of these sets; of what was there one block alone has turned. -/
def SetsAtR (base : Nat) (L : List Nat) (row : Option Nat) (I : World → Prop) (w w' : World) (e : Ending) : Prop :=
  ∃ A cap, e = .returned (.slice A L.length cap) ∧ w'.ownsRow base 86 1 (.slice A L.length cap) L.length (setsV L) ∧ I w' ∧ w.grownBy w' row

set_option maxRecDepth 20000 in
set_option maxHeartbeats 2000000 in
theorem leastSetsR_any (p : Nat → Bool) (k : Nat) (first cap : Array Value) (n B : Nat) (row : Option Nat) (I : World → Prop) (w : World) (hn : n < 10) (ha : AsksR p k first cap n B row I) (hI : I w) :
    Calls Try.prog 123 #[.int .i64 n, .func (.func k) first cap] w fun e w' => SetsAtR w.heap.size ((inOrder n).filter (leastP p n)) row I w w' e := by
  have HA := Lib.hid ha
  have eg := ha.enters
  have hBw := ha.big w hI
  have HI := Lib.hid hI
  have h512 := pow_lt (n := n) (by omega)
  have hpos := Nat.two_pow_pos n
  have hlen := inOrder_len n
  obtain ⟨L, hL⟩ : ∃ L, L = inOrder n := ⟨_, rfl⟩
  rw [← hL] at hlen
  have HIn := Lib.hid (show ∀ j, j < L.length → L.getD j 0 < 2 ^ n from fun j hj => by
    rw [List.getD_eq_getElem?_getD, List.getElem?_eq_getElem hj]
    exact mem_inOrder.1 (by rw [← hL]; exact List.getElem_mem hj))
  have HL := Lib.hid hL
  have hL512 : L.length ≤ 512 := by omega
  have hLpos : 0 < L.length := by omega
  have HN512 := Lib.hid h512
  clear ha hL hlen hpos h512 hI
  obtain ⟨i0, hi0, hz0, hz1, hz2⟩ := info_parts infoSet
  go_enter Try.func123, Try.ntmps123
  go_wp2_with fail
  refine (setsInOrder_any n _ hn).mono ?_
  rintro e w1 ⟨A, cp, rfl, hown, hb⟩
  rw [← HL.out] at hown ⊢
  obtain ⟨g, cp', hv, hg, hc1, hc2⟩ := owns_head hown (by omega)
  obtain ⟨rfl, rfl⟩ : A = some ⟨g, 0, none⟩ ∧ cp = cp' := by simpa using hv
  have hOwn : Own w1 g 86 L.length (fun i => .int .u64 (L.getD i 0 : Nat)) := Own.of_own hown (fun i hi => by simp [setsV, List.getD_eq_getElem?_getD, hi])
  clear hown
  have HI1 := Lib.hid (HA.out.keeps _ _ HI.out (hb.mono hBw))
  have hw1 := hb.size
  have HRG := Lib.hid (show ∀ r, row = some r → r < g from fun r hr => by have := HA.out.low r hr; omega)
  have HRB := Lib.hid (show ∀ r, row = some r → r < w1.heap.size from fun r hr => by have := HA.out.low r hr; omega)
  go_wp2_with fail
  have hgl : g < w1.heap.size := hOwn.lt
  go_loopw [5, 7, 11] (fun v _ i wr => ∃ (j : Nat) (A : Option Addr) (cap : Nat), j ≤ L.length ∧ i = .int .i64 j ∧ v = .slice A ((L.take j).filter (leastP p n)).length cap ∧ wr.ownsRow w1.heap.size 86 1 (.slice A ((L.take j).filter (leastP p n)).length cap) ((L.take j).filter (leastP p n)).length (setsV ((L.take j).filter (leastP p n))) ∧ I wr ∧ w1.grownBy wr row) (fun _ _ i _ => L.length - (intOf i).toNat)
  case atStart => exact ⟨0, none, 0, Nat.zero_le _, rfl, rfl, World.ownsRow_nil _ _ _ _, HI1.out, World.grownBy.refl _ _⟩
  case round =>
    obtain ⟨j, A, cap2, hj, rfl, rfl, hown, hir, hgr⟩ := hrel
    have HO := Lib.hid hown
    have HIR := Lib.hid hir
    have HG := Lib.hid hgr
    have hszr := hgr.size
    clear hown hir hgr
    have hfl := filter_take_le (leastP p n) L j
    obtain ⟨M, hM⟩ : ∃ M, M = (L.take j).filter (leastP p n) := ⟨_, rfl⟩
    rw [← hM] at hfl HO ⊢
    obtain ⟨m, hm⟩ : ∃ m, m = M.length := ⟨_, rfl⟩
    rw [← hm] at hfl HO ⊢
    have HMm := Lib.hid hm
    have HM := Lib.hid hM
    clear hm hM
    by_cases hlt : j < L.length
    · have hcell : wr.cell? ⟨g, j, none⟩ = some (.int .u64 (L.getD j 0 : Nat)) := (hOwn.gnow HG.out HRG.out).cell hlt
      have hs := HIn.out j hlt
      have HST := Lib.hid (filter_take_succ (leastP p n) L j hlt)
      rw [← HM.out] at HST
      generalize L.getD j 0 = s at *
      have hs512 : s < 512 := Nat.lt_of_lt_of_le hs HN512.out
      have HS2 := Lib.hid hs
      clear hs
      cases hp : p s
      · have HP := Lib.hid hp
        have HF := Lib.hid (show leastP p n s = false from by unfold leastP; rw [hp]; rfl)
        rw [HF.out] at HST
        clear hp
        go_wp2_with (go_at_fn k; refine (HA.out.gives _ s HS2.out HIR.out).mono ?_; rintro e w' ⟨rfl, hi', hg'⟩; rw [HP.out]; have HI' := Lib.hid hi'; have HG' := Lib.hid hg'; clear hi' hg')
        go_roundw
        case rel => exact ⟨j + 1, A, cap2, by omega, by go_num, by rw [HST.out, HMm.out]; simp, by rw [HST.out]; have := owns_gnow HO.out HG'.out HRB.out; simpa [HMm.out] using this, HI'.out, HG.out.trans HG'.out⟩
        case measure => simp [intOf]; omega
      · cases hq : noneOut p s n
        · have HP := Lib.hid hp
          have HQ := Lib.hid hq
          have HF := Lib.hid (show leastP p n s = false from by unfold leastP; rw [hp, hq]; rfl)
          rw [HF.out] at HST
          clear hp hq
          go_wp2_with (first | (go_at_fn k; refine (HA.out.gives _ s HS2.out HIR.out).mono ?_; rintro e w' ⟨rfl, hi', hg'⟩; rw [HP.out]; have HI' := Lib.hid hi'; have HG' := Lib.hid hg'; clear hi' hg') | (go_at_call 141; refine (isKindWithoutOneR_any p k first cap n s B row I _ hn HS2.out HA.out HI'.out).mono ?_; rintro e w2 ⟨rfl, hi2, hg2⟩; rw [HQ.out]; have HI2 := Lib.hid hi2; have HG2 := Lib.hid (HG'.out.trans hg2); clear hi2 hg2) | fail)
          go_roundw
          case rel => exact ⟨j + 1, A, cap2, by omega, by go_num, by rw [HST.out, HMm.out]; simp, by rw [HST.out]; have := owns_gnow HO.out HG2.out HRB.out; simpa [HMm.out] using this, HI2.out, HG.out.trans HG2.out⟩
          case measure => simp [intOf]; omega
        · have HP := Lib.hid hp
          have HQ := Lib.hid hq
          have HF := Lib.hid (show leastP p n s = true from by unfold leastP; rw [hp, hq]; rfl)
          rw [HF.out] at HST
          clear hp hq
          go_wp2_with (first | (go_at_fn k; refine (HA.out.gives _ s HS2.out HIR.out).mono ?_; rintro e w' ⟨rfl, hi', hg'⟩; rw [HP.out]; have HI' := Lib.hid hi'; have HG' := Lib.hid hg'; clear hi' hg') | (go_at_call 141; refine (isKindWithoutOneR_any p k first cap n s B row I _ hn HS2.out HA.out HI'.out).mono ?_; rintro e w2 ⟨rfl, hi2, hg2⟩; rw [HQ.out]; have HI2 := Lib.hid hi2; have HG2 := Lib.hid (HG.out.trans (HG'.out.trans hg2)); have HO2 := Lib.hid (owns_gnow HO.out (HG'.out.trans hg2) HRB.out); have hsz2 := HG2.out.size; clear hi2 hg2) | (at_builtin; refine wpList_append_lies _ rfl _ _ _ rfl w1.heap.size 86 i0 _ 1 8 Try.underlying93 hi0 hz0 hz1 hz2 rfl (by decide) (.slice A m cap2) m (setsV M) rfl (HO2.out.alloc _) ⟨w2.heap.size, 0, none⟩ 1 1 [.int .u64 s] rfl rfl (World.news_of_block (cs := #[.int .u64 s]) (t := 86) (fr := (0, 0)) (heap_alloc_new w2 _)) (by simp [Value.oneCell']) (by omega) (by unfold maxLen; omega) (by omega) (by simp; omega) (w2.heap.size + 1) (by simp) ?_; intro gg cap3 w4 hown4 hgrow hat hlt4) | fail)
          have hb4 : Below w1.heap.size w2 w4 := ((Below.refl _ _).alloc hsz2 (.cells #[.int .u64 s] 86)).grown hgrow (by simp; omega) fun i hi => owns_le HO2.out hi
          have HI4 := Lib.hid (HA.out.keeps _ _ HI2.out (hb4.mono (Nat.le_trans hBw hw1)))
          have HG4 := Lib.hid (gstep (gstep HG2.out (World.grownBy_alloc w2 (.cells #[.int .u64 s] 86) none) (fun j hj => by cases hj)) hgrow (fun i hi => owns_le HO2.out hi))
          go_roundw
          case rel => exact ⟨j + 1, some ⟨gg, 0, none⟩, cap3, by omega, by go_num, by rw [HST.out, HMm.out]; simp, by rw [HST.out]; simpa [HMm.out, setsV] using hown4, HI4.out, HG4.out⟩
          case measure => simp [intOf]; omega
    · obtain rfl : j = L.length := by omega
      have HE := Lib.hid (show M = L.filter (leastP p n) from by rw [HM.out, List.take_length])
      have HG3 := Lib.hid (gcons hb HG.out)
      go_wp2
      go_ret
      refine ⟨A, cap2, ?_, ?_, HIR.out, HG3.out⟩
      · rw [← HL.out, ← HE.out, ← HMm.out]; rfl
      · rw [← HL.out, ← HE.out, ← HMm.out]; exact owns_less HO.out hw1
end Go.Proofs.Ytkckefjpkhjeaaa
