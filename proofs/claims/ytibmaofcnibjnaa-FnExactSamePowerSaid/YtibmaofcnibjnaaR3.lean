/- Contract of the list of least sets of a kind. -/
import Derived.Test.YtibmaofcnibjnaaP1
import Derived.Test.YtibmaofcnibjnaaW5
import Derived.Deep.AppendLies
import Derived.Test.YtibmaofcnibjnaaW2
namespace Go.Proofs.Ytibmaofcnibjnaa
open Go.RowKit Vo

theorem infoSet : (Try.prog.info? 58).map (fun i => (i.zero, i.size, i.bytes)) = some (some (.int .u64 0), 1, 8) := by kernel_rfl

theorem more_len (n d s : Nat) : (more n d s).length + 1 = 2 ^ d := by
  induction d generalizing s with
  | zero => rfl
  | succ d ih =>
    have h1 := ih (s ||| 2^(n-(d+1)))
    have h2 := ih s
    simp only [more, List.length_cons, List.length_append, Nat.pow_succ]; omega

/-- Sets as values. -/
def setsV (L : List Nat) : List Value := L.map fun s : Nat => Value.int .u64 (s : Int)
/-- A row of the call's own of these sets; below the base nothing has turned. -/
def SetsAt (base : Nat) (L : List Nat) (w w' : World) (e : Ending) : Prop :=
  ∃ A cap, e = .returned (.slice A L.length cap) ∧ w'.ownsRow base 58 1 (.slice A L.length cap) L.length (setsV L) ∧ Below base w w'

set_option maxRecDepth 20000 in
set_option maxHeartbeats 4000000 in
theorem appendLonger_any (base n : Nat) (hn : n < 10) (d : Nat) : ∀ (nx s cap : Nat) (A : Option Addr) (L : List Nat) (w : World), nx + d = n → s < 2^nx → base ≤ w.heap.size → L.length + 2^d ≤ 1024 →
    w.ownsRow base 58 1 (.slice A L.length cap) L.length (setsV L) →
    Calls Try.prog 112 #[.slice A L.length cap, .int .u64 s, .int .i64 nx, .int .i64 n] w fun e w' => SetsAt base (L ++ (s :: more n d s)) w w' e := by
  induction d using Nat.strongRecOn with
  | ind d ih =>
    intro nx s cap A L w hnx hs hbase hL hown
    have IH := Lib.hid ih
    have HO := Lib.hid hown
    clear ih hown
    obtain ⟨i0, hi0, hz0, hz1, hz2⟩ := info_parts infoSet
    obtain ⟨m, hm⟩ : ∃ m, m = L.length := ⟨_, rfl⟩
    rw [← hm] at hL HO ⊢
    have HM := Lib.hid hm
    clear hm
    have hm1 : m ≤ 1024 := by have := Nat.two_pow_pos d; omega
    have HLB := Lib.hid hL
    clear hL
    go_enter Try.func112, Try.ntmps112
    go_wp2_with (at_builtin; refine wpList_append_lies _ rfl _ _ _ rfl base 58 i0 _ 1 8 Try.underlying93 hi0 hz0 hz1 hz2 rfl (by decide) (.slice A m cap) m (setsV L) rfl (HO.out.alloc _) ⟨w.heap.size, 0, none⟩ 1 1 [.int .u64 s] rfl rfl (World.news_of_block (cs := #[.int .u64 s]) (t := 58) (fr := (0, 0)) (heap_alloc_new w _)) (by simp [Value.oneCell']) (by omega) (by unfold maxLen; omega) (by omega) (by simp; omega) (w.heap.size + 1) (by simp) ?_; intro gg cap2 w4 hown4 hgrow hat hlt4)
    have hpd := Nat.two_pow_pos d
    have hL := HLB.out
    have hs512 : s < 512 := by have := pow_lt (n := nx) (by omega); omega
    have hb4 : Below base w w4 := ((Below.refl base w).alloc hbase (.cells #[.int .u64 s] 58)).grown hgrow (by simp; omega) fun j hj => owns_le HO.out hj
    have HO4 := Lib.hid (show w4.ownsRow base 58 1 (.slice (some ⟨gg, 0, none⟩) (m + [s].length) cap2) (m + [s].length) (setsV (L ++ [s])) from by simpa [setsV] using hown4)
    clear hown4 hgrow hat
    have HD0 := Lib.hid (show [s] ++ more n (n - nx) s = s :: more n d s from by rw [show n - nx = d by omega]; rfl)
    go_loopw [0, 9] (fun v i wr => ∃ (j : Nat) (A : Option Addr) (cap : Nat) (D : List Nat), nx ≤ j ∧ j ≤ n ∧ i = .int .i64 j ∧ v = .slice A (m + D.length) cap ∧ wr.ownsRow base 58 1 (.slice A (m + D.length) cap) (m + D.length) (setsV (L ++ D)) ∧ D ++ more n (n - j) s = s :: more n d s ∧ Below base w wr) (fun _ i _ => n - (intOf i).toNat)
    case atStart => exact ⟨nx, some ⟨gg, 0, none⟩, cap2, [s], Nat.le_refl _, by omega, rfl, rfl, HO4.out, HD0.out, hb4⟩
    case round =>
      obtain ⟨j, A, cap, D, hj1, hj2, rfl, rfl, hown, hD, hb⟩ := hrel
      have HOr := Lib.hid hown
      have HDr := Lib.hid hD
      have hlen := congrArg List.length hD
      rw [List.length_append, List.length_cons] at hlen
      have hml := more_len n d s
      clear hown hD
      by_cases hlt : j < n
      · have hsj : s < 2^j := Nat.lt_of_lt_of_le hs (Nat.pow_le_pow_right (by omega) hj1)
        have hor : s ||| 2^j < 2^(j+1) := Nat.or_lt_two_pow (Nat.lt_trans hsj (Nat.pow_lt_pow_right (by omega) (by omega))) (Nat.pow_lt_pow_right (by omega) (by omega))
        have hml2 := more_len n (n - j) s
        have hp2 : 2 ^ (n - j) = 2 * 2 ^ (n - (j+1)) := by rw [show n - j = (n - (j+1)) + 1 by omega, Nat.pow_succ]; omega
        have hpp := Nat.two_pow_pos (n - (j+1))
        have hszr := hb.size
        have c := IH.out (n - (j+1)) (by omega) (j+1) (s ||| 2^j) cap A (L ++ D) wr (by omega) hor (by omega) (by rw [List.length_append]; have := HM.out; omega) (by rw [List.length_append, ← HM.out]; exact HOr.out)
        rw [List.length_append, ← HM.out, show ((j + 1 : Nat) : Int) = (j : Int) + 1 from by omega] at c
        have C := Lib.hid c
        have HDn := Lib.hid (show (D ++ ((s ||| 2^j) :: more n (n - (j+1)) (s ||| 2^j))) ++ more n (n - (j+1)) s = s :: more n d s from by
          rw [← HDr.out, show n - j = (n - (j+1)) + 1 by omega, more, show n - ((n - (j+1)) + 1) = j by omega]
          simp)
        have HLn := Lib.hid (show ((L ++ D) ++ ((s ||| 2^j) :: more n (n - (j+1)) (s ||| 2^j))).length = m + (D ++ ((s ||| 2^j) :: more n (n - (j+1)) (s ||| 2^j))).length from by rw [HM.out]; simp)
        clear c hlen hml hml2 hp2 hpp
        go_wp2_with (first | (go_at_call 80; refine (with_any s j _ (by omega) hs512).mono ?_; rintro e w' ⟨rfl, rfl⟩) | (go_at_call 112; refine C.out.mono ?_; rintro e w6 ⟨A6, cap6, rfl, hown6, hb6⟩))
        have hb7 : Below base w w6 := hb.trans hb6
        rw [List.append_assoc] at hown6 HLn
        have HL6 := Lib.hid (show w6.ownsRow base 58 1 (.slice A6 (m + (D ++ ((s ||| 2^j) :: more n (n - (j+1)) (s ||| 2^j))).length) cap6) (m + (D ++ ((s ||| 2^j) :: more n (n - (j+1)) (s ||| 2^j))).length) (setsV (L ++ (D ++ ((s ||| 2^j) :: more n (n - (j+1)) (s ||| 2^j))))) from by
          have h := hown6
          rw [HLn.out] at h
          exact h)
        have HS6 := Lib.hid (show Value.slice A6 (L ++ (D ++ ((s ||| 2^j) :: more n (n - (j+1)) (s ||| 2^j)))).length cap6 = .slice A6 (m + (D ++ ((s ||| 2^j) :: more n (n - (j+1)) (s ||| 2^j))).length) cap6 from by rw [HLn.out])
        clear hown6
        go_roundw
        case rel => exact ⟨j + 1, A6, cap6, D ++ ((s ||| 2^j) :: more n (n - (j+1)) (s ||| 2^j)), by omega, by omega, by go_num, by rw [HM.out]; simp, HL6.out, HDn.out, hb7⟩
        case measure => simp [intOf]; omega
      · obtain rfl : j = n := by omega
        have HE := Lib.hid (show D = s :: more j d s from by have := HDr.out; simpa [more] using this)
        have HLE := Lib.hid (show (L ++ (s :: more j d s)).length = m + D.length from by rw [List.length_append, ← HM.out, ← HE.out])
        go_wp2
        go_ret
        refine ⟨A, cap, by rw [HLE.out]; rfl, ?_, hb⟩
        rw [HLE.out, ← HE.out]
        exact HOr.out

set_option maxHeartbeats 1000000 in
theorem setsInOrder_any (n : Nat) (w : World) (hn : n < 10) :
    Calls Try.prog 104 #[.int .i64 n] w fun e w' => SetsAt w.heap.size (inOrder n) w w' e := by
  have h512 := pow_lt (n := n) (by omega)
  have HC := Lib.hid (appendLonger_any w.heap.size n hn n 0 0 0 none [] w (by omega) (by simp) (Nat.le_refl _) (by simp; omega) (World.ownsRow_nil _ _ _ _))
  go_enter Try.func104, Try.ntmps104
  go_wp2_with fail
  refine HC.out.mono ?_
  rintro e w1 ⟨A, cap, rfl, hown, hb⟩
  have HO := Lib.hid hown
  clear hown
  go_wp2
  go_ret
  exact ⟨A, cap, by simp [inOrder], by simpa [inOrder] using HO.out, hb⟩
end Go.Proofs.Ytibmaofcnibjnaa

namespace Go.Proofs.Ytibmaofcnibjnaa
open Go.RowKit Vo

/-- The set without the member k. -/
def out (s k : Nat) : Nat := s &&& (18446744073709551615 - 2 ^ k)
theorem out_le (s k : Nat) : out s k ≤ s := Nat.and_le_left
theorem testBit_out {s k j : Nat} (hk : k < 64) (hj : j < 64) : (out s k).testBit j = (s.testBit j && decide (j ≠ k)) := by
  unfold out
  have hp : 2 ^ k < 2 ^ 64 := Nat.pow_lt_pow_right (by omega) hk
  rw [Nat.testBit_and]
  have := @Nat.testBit_two_pow_sub_succ (2^k) 64 hp j
  rw [show 18446744073709551615 - 2^k = 2^64 - (2^k + 1) by omega, this, Nat.testBit_two_pow]
  simp [hj]
  by_cases h : k = j
  · subst h; simp
  · have h2 : j ≠ k := fun e => h e.symm
    simp [h, h2]

theorem and_not_pow (s k : Nat) (hk : k < 10) (hs : s < 512) : bits BinOp.andNot IntKind.u64 (s : Int) (IntKind.u64.wrap (2 ^ k)) = ((out s k : Nat) : Int) := by
  have h1 : (2:Nat)^k ≤ 2^9 := Nat.pow_le_pow_right (by omega) (by omega)
  have e : IntKind.u64.wrap (2 ^ k) = ((2 ^ k : Nat) : Int) := by
    have : k = 0 ∨ k = 1 ∨ k = 2 ∨ k = 3 ∨ k = 4 ∨ k = 5 ∨ k = 6 ∨ k = 7 ∨ k = 8 ∨ k = 9 := by omega
    rcases this with h | h | h | h | h | h | h | h | h | h <;> subst h <;> rfl
  rw [e, u64_andNot_nat _ _ (by omega) (by omega)]; rfl

set_option maxHeartbeats 400000 in
theorem without_any (s k : Nat) (w : World) (hk : k < 10) (hs : s < 512) :
    Calls Try.prog 113 #[.int .u64 s, .int .i64 k] w fun e w' => e = .returned (.int .u64 ((out s k : Nat) : Int)) ∧ w = w' := by
  go_enter Try.func113, Try.ntmps113
  go_wp2
  go_ret
  exact ⟨ret_int (and_not_pow s k hk hs), rfl⟩

/-- No set that one member leaves is of the kind. -/
def noneOut (p : Nat → Bool) (s : Nat) (k : Nat) : Bool := allK (fun j => !(s.testBit j && p (out s j))) k

set_option maxHeartbeats 1000000 in
theorem isKindWithoutOne_any (p : Nat → Bool) (k : Nat) (first cap : Array Value) (n s : Nat) (w : World) (hn : n < 10) (hs : s < 2^n) (ha : Asks p k first cap n w) :
    Calls Try.prog 105 #[.int .i64 n, .int .u64 s, .func (.func k) first cap] w fun e w' => e = .returned (.bool (!noneOut p s n)) ∧ Below w.heap.size w w' := by
  have HA := Lib.hid ha
  have eg := ha.enters
  have h512 := pow_lt (n := n) (by omega)
  have HS2 := Lib.hid hs
  have hs512 : s < 512 := by omega
  clear ha hs h512
  go_enter Try.func105, Try.ntmps105
  go_wp2_with fail
  go_loopw [6, 9] (fun _ i wr => ∃ j : Nat, j ≤ n ∧ i = .int .i64 j ∧ noneOut p s j = true ∧ Below w.heap.size w wr) (fun _ i _ => n - (intOf i).toNat)
  case atStart => exact ⟨0, Nat.zero_le _, rfl, rfl, Below.refl _ _⟩
  case round =>
    obtain ⟨j, hj, rfl, hall, hb⟩ := hrel
    have HL := Lib.hid hall
    clear hall
    by_cases hlt : j < n
    · cases hbit : s.testBit j
      · have HB := Lib.hid hbit
        have HN := Lib.hid (show noneOut p s (j+1) = true from by have := HL.out; unfold noneOut at this ⊢; simp only [allK]; rw [this, hbit]; rfl)
        clear hbit
        go_wp2_with (go_at_call 84; refine (has_any s j _ (by omega) hs512).mono ?_; rintro e w' ⟨rfl, rfl⟩; rw [HB.out])
        go_roundw
        case rel => exact ⟨j + 1, by omega, by go_num, HN.out, hb⟩
        case measure => simp [intOf]; omega
      · have HB := Lib.hid hbit
        have HO := Lib.hid (show out s j < 2^n from Nat.lt_of_le_of_lt (out_le s j) HS2.out)
        cases hp : p (out s j)
        · have HP := Lib.hid hp
          have HN := Lib.hid (show noneOut p s (j+1) = true from by have := HL.out; unfold noneOut at this ⊢; simp only [allK]; rw [this, hbit, hp]; rfl)
          clear hbit hp
          go_wp2_with (first | (go_at_call 84; refine (has_any s j _ (by omega) hs512).mono ?_; rintro e w' ⟨rfl, rfl⟩; rw [HB.out]) | (go_at_call 113; refine (without_any s j _ (by omega) hs512).mono ?_; rintro e w' ⟨rfl, rfl⟩) | (go_at_fn k; refine (HA.out.gives _ (out s j) HO.out hb).mono ?_; rintro e w' ⟨rfl, hb'⟩; rw [HP.out]))
          go_roundw
          case rel => exact ⟨j + 1, by omega, by go_num, HN.out, bfrom hb hb'⟩
          case measure => simp [intOf]; omega
        · have HP := Lib.hid hp
          have HN := Lib.hid (show noneOut p s n = false from allK_false (k := n) j hlt (by rw [hbit, hp]; rfl))
          clear hbit hp
          go_wp2_with (first | (go_at_call 84; refine (has_any s j _ (by omega) hs512).mono ?_; rintro e w' ⟨rfl, rfl⟩; rw [HB.out]) | (go_at_call 113; refine (without_any s j _ (by omega) hs512).mono ?_; rintro e w' ⟨rfl, rfl⟩) | (go_at_fn k; refine (HA.out.gives _ (out s j) HO.out hb).mono ?_; rintro e w' ⟨rfl, hb'⟩; rw [HP.out]))
          go_ret
          exact ⟨by rw [HN.out]; rfl, bfrom hb hb'⟩
    · obtain rfl : j = n := by omega
      go_wp2
      go_ret
      exact ⟨by rw [HL.out]; rfl, hb⟩
end Go.Proofs.Ytibmaofcnibjnaa

namespace Go.Proofs.Ytibmaofcnibjnaa
open Go.RowKit Vo

/-- Is s of the kind, and no set that one member leaves? -/
def leastP (p : Nat → Bool) (n : Nat) (s : Nat) : Bool := p s && noneOut p s n
theorem filter_take_succ (P : Nat → Bool) (L : List Nat) (j : Nat) (h : j < L.length) : (L.take (j+1)).filter P = (L.take j).filter P ++ if P (L.getD j 0) then [L.getD j 0] else [] := by
  rw [List.take_add_one, List.filter_append]
  congr 1
  rw [List.getElem?_eq_getElem h, List.getD_eq_getElem?_getD, List.getElem?_eq_getElem h]
  simp [List.filter_cons]
theorem filter_take_le (P : Nat → Bool) (L : List Nat) (j : Nat) : ((L.take j).filter P).length ≤ j := by
  have h1 := List.length_filter_le P (L.take j)
  have h2 := List.length_take_le j L
  omega
theorem inOrder_len (n : Nat) : (inOrder n).length = 2 ^ n := by
  have := more_len n n 0
  simp [inOrder]; omega

set_option maxRecDepth 20000 in
set_option maxHeartbeats 2000000 in
theorem leastSets_any (p : Nat → Bool) (k : Nat) (first cap : Array Value) (n : Nat) (w : World) (hn : n < 10) (ha : Asks p k first cap n w) :
    Calls Try.prog 97 #[.int .i64 n, .func (.func k) first cap] w fun e w' => SetsAt w.heap.size ((inOrder n).filter (leastP p n)) w w' e := by
  have HA := Lib.hid ha
  have eg := ha.enters
  have h512 := pow_lt (n := n) (by omega)
  have hpos := Nat.two_pow_pos n
  have hlen := inOrder_len n
  obtain ⟨L, hL⟩ : ∃ L, L = inOrder n := ⟨_, rfl⟩
  rw [← hL] at hlen
  have HIn := Lib.hid (show ∀ j, j < L.length → L.getD j 0 < 2 ^ n from fun j hj => by
    rw [List.getD_eq_getElem?_getD, List.getElem?_eq_getElem hj]
    exact mem_inOrder.1 (by rw [← hL]; exact List.getElem_mem hj))
  have HL := Lib.hid hL
  have hL512 : L.length ≤ 512 := by omega
  have hLpos : 0 < L.length := by omega
  have HN512 := Lib.hid h512
  clear ha hL hlen hpos h512
  obtain ⟨i0, hi0, hz0, hz1, hz2⟩ := info_parts infoSet
  go_enter Try.func97, Try.ntmps97
  go_wp2_with fail
  refine (setsInOrder_any n _ hn).mono ?_
  rintro e w1 ⟨A, cp, rfl, hown, hb⟩
  rw [← HL.out] at hown ⊢
  obtain ⟨g, cp', hv, hg, hc1, hc2⟩ := owns_head hown (by omega)
  obtain ⟨rfl, rfl⟩ : A = some ⟨g, 0, none⟩ ∧ cp = cp' := by simpa using hv
  have hOwn : Own w1 g 58 L.length (fun i => .int .u64 (L.getD i 0 : Nat)) := Own.of_own hown (fun i hi => by simp [setsV, List.getD_eq_getElem?_getD, hi])
  clear hown
  go_wp2_with fail
  have hgl : g < w1.heap.size := hOwn.lt
  go_loopw [5, 7, 11] (fun v _ i wr => ∃ (j : Nat) (A : Option Addr) (cap : Nat), j ≤ L.length ∧ i = .int .i64 j ∧ v = .slice A ((L.take j).filter (leastP p n)).length cap ∧ wr.ownsRow w1.heap.size 58 1 (.slice A ((L.take j).filter (leastP p n)).length cap) ((L.take j).filter (leastP p n)).length (setsV ((L.take j).filter (leastP p n))) ∧ Below w1.heap.size w1 wr) (fun _ _ i _ => L.length - (intOf i).toNat)
  case atStart => exact ⟨0, none, 0, Nat.zero_le _, rfl, rfl, World.ownsRow_nil _ _ _ _, Below.refl _ _⟩
  case round =>
    obtain ⟨j, A, cap2, hj, rfl, rfl, hown, hbr⟩ := hrel
    have HO := Lib.hid hown
    clear hown
    have hfl := filter_take_le (leastP p n) L j
    obtain ⟨M, hM⟩ : ∃ M, M = (L.take j).filter (leastP p n) := ⟨_, rfl⟩
    rw [← hM] at hfl HO ⊢
    obtain ⟨m, hm⟩ : ∃ m, m = M.length := ⟨_, rfl⟩
    rw [← hm] at hfl HO ⊢
    have HMm := Lib.hid hm
    have HM := Lib.hid hM
    clear hm hM
    have hszr := hbr.size
    by_cases hlt : j < L.length
    · have hcell : wr.cell? ⟨g, j, none⟩ = some (.int .u64 (L.getD j 0 : Nat)) := by
        exact (hOwn.below hbr hgl).cell hlt
      have hs := HIn.out j hlt
      have HST := Lib.hid (filter_take_succ (leastP p n) L j hlt)
      rw [← HM.out] at HST
      generalize L.getD j 0 = s at *
      have hs512 : s < 512 := Nat.lt_of_lt_of_le hs HN512.out
      have HS2 := Lib.hid hs
      have HBr := Lib.hid (bfrom hb hbr)
      clear hs
      cases hp : p s
      · have HP := Lib.hid hp
        have HF := Lib.hid (show leastP p n s = false from by unfold leastP; rw [hp]; rfl)
        rw [HF.out] at HST
        clear hp
        go_wp2_with (go_at_fn k; refine (HA.out.gives _ s HS2.out HBr.out).mono ?_; rintro e w' ⟨rfl, hb'⟩; rw [HP.out])
        go_roundw
        case rel => exact ⟨j + 1, A, cap2, by omega, by go_num, by rw [HST.out, HMm.out]; simp, by rw [HST.out]; have := owns_now HO.out hb'; simpa [HMm.out] using this, bfrom hbr hb'⟩
        case measure => simp [intOf]; omega
      · cases hq : noneOut p s n
        · have HP := Lib.hid hp
          have HQ := Lib.hid hq
          have HF := Lib.hid (show leastP p n s = false from by unfold leastP; rw [hp, hq]; rfl)
          rw [HF.out] at HST
          clear hp hq
          go_wp2_with (first | (go_at_fn k; refine (HA.out.gives _ s HS2.out HBr.out).mono ?_; rintro e w' ⟨rfl, hb'⟩; rw [HP.out]) | (go_at_call 105; refine (isKindWithoutOne_any p k first cap n s _ hn HS2.out (HA.out.now (bfrom HBr.out hb'))).mono ?_; rintro e w2 ⟨rfl, hb2⟩; rw [HQ.out]))
          go_roundw
          case rel => exact ⟨j + 1, A, cap2, by omega, by go_num, by rw [HST.out, HMm.out]; simp, by rw [HST.out]; have := owns_now (owns_now HO.out hb') hb2; simpa [HMm.out] using this, bfrom (bfrom hbr hb') hb2⟩
          case measure => simp [intOf]; omega
        · have HP := Lib.hid hp
          have HQ := Lib.hid hq
          have HF := Lib.hid (show leastP p n s = true from by unfold leastP; rw [hp, hq]; rfl)
          rw [HF.out] at HST
          clear hp hq
          go_wp2_with (first | (go_at_fn k; refine (HA.out.gives _ s HS2.out HBr.out).mono ?_; rintro e w' ⟨rfl, hb'⟩; rw [HP.out]) | (go_at_call 105; refine (isKindWithoutOne_any p k first cap n s _ hn HS2.out (HA.out.now (bfrom HBr.out hb'))).mono ?_; rintro e w2 ⟨rfl, hb2⟩; rw [HQ.out]; have HO2 := Lib.hid (owns_now (owns_now HO.out hb') hb2); have HB2 := Lib.hid (bfrom (bfrom hbr hb') hb2); have hsz2 := HB2.out.size) | (at_builtin; refine wpList_append_lies _ rfl _ _ _ rfl w1.heap.size 58 i0 _ 1 8 Try.underlying93 hi0 hz0 hz1 hz2 rfl (by decide) (.slice A m cap2) m (setsV M) rfl (HO2.out.alloc _) ⟨w2.heap.size, 0, none⟩ 1 1 [.int .u64 s] rfl rfl (World.news_of_block (cs := #[.int .u64 s]) (t := 58) (fr := (0, 0)) (heap_alloc_new w2 _)) (by simp [Value.oneCell']) (by omega) (by unfold maxLen; omega) (by omega) (by simp; omega) (w2.heap.size + 1) (by simp) ?_; intro gg cap3 w4 hown4 hgrow hat hlt4))
          have hb4 : Below w1.heap.size w1 w4 := (HB2.out.alloc hsz2 (.cells #[.int .u64 s] 58)).grown hgrow (by simp; omega) fun i hi => owns_le HO2.out hi
          go_roundw
          case rel => exact ⟨j + 1, some ⟨gg, 0, none⟩, cap3, by omega, by go_num, by rw [HST.out, HMm.out]; simp, by rw [HST.out]; simpa [HMm.out, setsV] using hown4, hb4⟩
          case measure => simp [intOf]; omega
    · obtain rfl : j = L.length := by omega
      have HE := Lib.hid (show M = L.filter (leastP p n) from by rw [HM.out, List.take_length])
      have HR := Lib.hid (show w.heap.size ≤ w1.heap.size from hb.size)
      go_wp2
      go_ret
      refine ⟨A, cap2, ?_, ?_, bfrom hb hbr⟩
      · rw [← HL.out, ← HE.out, ← HMm.out]; rfl
      · rw [← HL.out, ← HE.out, ← HMm.out]
        exact owns_less HO.out HR.out
end Go.Proofs.Ytibmaofcnibjnaa
