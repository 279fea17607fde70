/- Contracts of lists of sets' members, and of members that alone are of a kind. -/
import Derived.Test.YtibmaofcnibjnaaW5
import Derived.Test.YtibmaofcnibjnaaO2
namespace Go.Proofs.Ytibmaofcnibjnaa
open Go.RowKit Vo

theorem owns_less {w : World} {base base' : Nat} {e : TypeId} {size : Nat} {v : Value} {n : Nat} {xs : List Value} (h : w.ownsRow base e size v n xs) (hb : base' ≤ base) : w.ownsRow base' e size v n xs := by
  obtain ⟨h1, h2⟩ := h
  refine ⟨h1, ?_⟩
  rcases h2 with h2 | ⟨g, cap, cur, hv, hg, r⟩
  · exact Or.inl h2
  · exact Or.inr ⟨g, cap, cur, hv, by omega, r⟩

/-- The set of the members below k that alone are of a kind, and their list. -/
def alone (p : Nat → Bool) : Nat → Nat
  | 0 => 0
  | k+1 => if p (2^k) then alone p k ||| 2^k else alone p k
def aloneL (p : Nat → Bool) : Nat → List Int
  | 0 => []
  | k+1 => aloneL p k ++ if p (2^k) then [(k : Int)] else []
theorem alone_lt (p : Nat → Bool) (k : Nat) : alone p k < 2^k := by
  induction k with
  | zero => simp [alone]
  | succ k ih =>
    have h1 : alone p k < 2^(k+1) := Nat.lt_trans ih (Nat.pow_lt_pow_right (by omega) (by omega))
    simp only [alone]; split
    · exact Nat.or_lt_two_pow h1 (Nat.pow_lt_pow_right (by omega) (by omega))
    · exact h1
theorem aloneL_eq (p : Nat → Bool) (k n : Nat) (h : k ≤ n) : mem (alone p k) n = aloneL p k := by
  induction k with
  | zero => simp [alone, aloneL, mem_zero]
  | succ k ih =>
    simp only [alone, aloneL]; split
    · rw [mem_or (alone_lt p k) (by omega), ih (by omega)]
    · rw [ih (by omega)]; simp
theorem aloneL_congr {p p' : Nat → Bool} {k : Nat} (h : ∀ j, j < k → p (2^j) = p' (2^j)) : aloneL p k = aloneL p' k := by
  induction k with
  | zero => rfl
  | succ k ih => simp only [aloneL]; rw [ih (fun j hj => h j (by omega)), h k (by omega)]

set_option maxRecDepth 20000 in
set_option maxHeartbeats 2000000 in
theorem list_any (s : Nat) (w : World) (hs : s < 512) :
    Calls Try.prog 56 #[.int .u64 s] w fun e w' => IntsAt (mem s 9) w w' e := by
  obtain ⟨i0, hi0, hz0, hz1, hz2⟩ := infoIntParts
  have h9 := mem_len s 9
  obtain ⟨L, hL⟩ : ∃ L, L = (mem s 9).length := ⟨_, rfl⟩
  rw [← hL] at h9
  have HL := Lib.hid hL
  clear hL
  go_enter Try.func56, Try.ntmps56
  go_wp2_with fail
  refine (size_any s _ hs).mono ?_
  rintro e w1 ⟨rfl, rfl⟩
  rw [← HL.out]
  go_wp2_with (at_make; refine wpList_make_own _ rfl _ _ 22 rfl w.heap.size 3 i0 (.int .i64 0) 1 Try.underlying22 hi0 hz0 hz1 .i64 .i64 L L rfl rfl rfl (by rw [hz2]; omega) (by unfold maxLen; omega) (by simp) ?_; intro w1 hown hgrow)
  go_loopw [3, 4, 8] (fun v _ i wr => ∃ (k : Nat) (A : Option Addr) (cap : Nat), k ≤ 9 ∧ i = .int .i64 k ∧ v = .slice A (mem s k).length cap ∧ wr.ownsRow w.heap.size 3 1 (.slice A (mem s k).length cap) (mem s k).length ((mem s k).map (Value.int .i64)) ∧ Below w.heap.size w wr) (fun _ _ i _ => 9 - (intOf i).toNat)
  case atStart => exact ⟨0, some ⟨w.heap.size, 0, none⟩, L, by omega, rfl, rfl, hown, (Below.refl _ _).grown hgrow (Nat.le_refl _) (fun j hj => by cases hj)⟩
  case round =>
    obtain ⟨k, A, cap, hk, rfl, rfl, hown2, hb⟩ := hrel
    have HO := Lib.hid hown2
    clear hown2
    have hlen := mem_len s k
    have hsz := hb.size
    by_cases hk9 : k < 9
    · cases hbit : s.testBit k
      · have HB := Lib.hid hbit
        have HS := Lib.hid (mem_step0 hbit)
        clear hbit
        go_wp2_with (go_at_call 84; refine (has_any s k _ (by omega) hs).mono ?_; rintro e w' ⟨rfl, rfl⟩; rw [HB.out])
        go_roundw
        case rel => exact ⟨k + 1, A, cap, by omega, by go_num, by rw [HS.out], by rw [HS.out]; exact HO.out, hb⟩
        case measure => simp [intOf]; omega
      · have HB := Lib.hid hbit
        have HS := Lib.hid (mem_step1 hbit)
        clear hbit
        obtain ⟨m, hm⟩ : ∃ m, m = (mem s k).length := ⟨_, rfl⟩
        have HM := Lib.hid hm
        rw [← hm] at hlen HO ⊢
        clear hm
        go_wp2_with (first | (go_at_call 84; refine (has_any s k _ (by omega) hs).mono ?_; rintro e w' ⟨rfl, rfl⟩; rw [HB.out]) | (at_builtin; refine wpList_append_lies _ rfl _ _ _ rfl w.heap.size 3 i0 _ 1 8 Try.underlying22 hi0 hz0 hz1 hz2 rfl (by decide) (.slice A m cap) m ((mem s k).map (Value.int .i64)) rfl (HO.out.alloc _) ⟨wr.heap.size, 0, none⟩ 1 1 [.int .i64 k] rfl rfl (World.news_of_block (cs := #[.int .i64 k]) (t := 3) (fr := (0, 0)) (heap_alloc_new wr _)) (by simp [Value.oneCell']) (by omega) (by unfold maxLen; omega) (by omega) (by simp; omega) (wr.heap.size + 1) (by simp) ?_; intro gg cap2 w4 hown4 hgrow hat hlt4))
        have hb4 : Below w.heap.size w w4 := (hb.alloc hsz (.cells #[.int .i64 k] 3)).grown hgrow (by simp; omega) fun j hj => owns_le HO.out hj
        go_roundw
        case rel => exact ⟨k + 1, some ⟨gg, 0, none⟩, cap2, by omega, by go_num, by rw [HS.out, HM.out]; simp, by rw [HS.out]; simpa [HM.out] using hown4, hb4⟩
        case measure => simp [intOf]; omega
    · obtain rfl : k = 9 := by omega
      go_wp2
      go_ret
      exact ⟨A, cap, rfl, HO.out, hb⟩

set_option maxRecDepth 20000 in
set_option maxHeartbeats 2000000 in
theorem membersThat_any (p : Nat → Bool) (k : Nat) (first cap2 : Array Value) (v : Value) (A : Option Addr) (n cap : Nat) (w : World) (hn : n < 10) (ha : Asks p k first cap2 n w) :
    Calls Try.prog 53 #[.agg #[v, .slice A n cap], .func (.func k) first cap2] w fun e w' => IntsAt (aloneL p n) w w' e := by
  have HA := Lib.hid ha
  have eg := ha.enters
  clear ha
  have hb0 := below1 w (.cells #[v, .slice A n cap] 24)
  have h512 := pow_lt (n := n) (by omega)
  have HE := Lib.hid (aloneL_eq p n 9 (by omega))
  go_enter Try.func53, Try.ntmps53
  go_wp2_with fail
  refine (members_any _ _ n cap _).mono ?_
  rintro e w1 ⟨rfl, hb1⟩
  go_wp2_with fail
  go_loopw [5, 6, 9] (fun s _ i wr => ∃ j : Nat, j ≤ n ∧ i = .int .i64 j ∧ s = .int .u64 (alone p j : Nat) ∧ Below w.heap.size w wr) (fun _ _ i _ => n - (intOf i).toNat)
  case atStart => exact ⟨0, Nat.zero_le _, rfl, rfl, bfrom hb0 hb1⟩
  case round =>
    obtain ⟨j, hj, rfl, rfl, hb⟩ := hrel
    have hal := alone_lt p j
    have hal2 := pow_lt (n := j) (by omega)
    by_cases hlt : j < n
    · have HJ := Lib.hid (show (0 ||| 2 ^ j : Nat) = 2 ^ j from by simp)
      have hpow := pow_lt (n := j) (by omega)
      have HPL := Lib.hid (show 2 ^ j < 2 ^ n from Nat.pow_lt_pow_right (by omega) hlt)
      cases hp : p (2 ^ j)
      · have HP := Lib.hid hp
        have HS := Lib.hid (show alone p (j+1) = alone p j from by simp [alone, hp])
        clear hp
        generalize alone p j = s at *
        go_wp2_with fail
        refine (with_any 0 j _ (by omega) (by omega)).mono ?_
        rintro e w2 ⟨rfl, rfl⟩
        rw [HJ.out]
        go_wp2_with (go_at_fn k; refine (HA.out.gives _ (2 ^ j) HPL.out hb).mono ?_; rintro e w' ⟨rfl, hb'⟩; rw [HP.out])
        go_roundw
        case rel => exact ⟨j + 1, by omega, by go_num, by rw [HS.out], bfrom hb hb'⟩
        case measure => simp [intOf]; omega
      · have HP := Lib.hid hp
        have HS := Lib.hid (show alone p (j+1) = alone p j ||| 2 ^ j from by simp [alone, hp])
        clear hp
        generalize alone p j = s at *
        go_wp2_with fail
        refine (with_any 0 j _ (by omega) (by omega)).mono ?_
        rintro e w2 ⟨rfl, rfl⟩
        rw [HJ.out]
        go_wp2_with (first | (go_at_fn k; refine (HA.out.gives _ (2 ^ j) HPL.out hb).mono ?_; rintro e w' ⟨rfl, hb'⟩; rw [HP.out]) | (go_at_call 80; refine (with_any s j _ (by omega) (by omega)).mono ?_; rintro e w3 ⟨rfl, rfl⟩))
        go_roundw
        case rel => exact ⟨j + 1, by omega, by go_num, by rw [HS.out], bfrom hb hb'⟩
        case measure => simp [intOf]; omega
    · obtain rfl : j = n := by omega
      go_wp2_with fail
      refine (list_any (alone p j) _ (by omega)).mono ?_
      rintro e w5 ⟨A5, cap5, rfl, hown5, hb5⟩
      go_wp2
      go_ret
      refine ⟨A5, cap5, by rw [← HE.out]; rfl, ?_, bfrom hb hb5⟩
      rw [← HE.out]
      exact owns_less hown5 hb.size

set_option maxHeartbeats 1000000 in
theorem rules_any (q : Int) (b off n cap : Nat) (ws : List Int) (s : Nat) (w : World) (hn : n < 10) (hs : s < 2^n) (hok : InK 0 1000 ws n) (hsl : Sl w b off n ws) :
    Calls Try.prog 54 #[.agg #[.int .i64 q, .slice (some ⟨b, off, none⟩) n cap], .int .u64 s] w fun e w' => e = .returned (.bool (winB q ws n s && !winB q ws n (co n s))) ∧ Below w.heap.size w w' := by
  have HOK := Lib.hid hok
  have HSL := Lib.hid hsl
  have h512 : s < 512 := by have := pow_lt (n := n) (by omega); omega
  have HP := Lib.hid (show (winB q ws n s && !winB q ws n (co n s)) = (decide (q ≤ wtK ws s n) && !decide (q ≤ wtK ws (co n s) n)) from rfl)
  clear hok hsl
  have hx := Box.new w (.int .i64 q) (.slice (some ⟨b, off, none⟩) n cap)
  cases hd : decide (q ≤ wtK ws s n)
  all_goals
    have HD := Lib.hid hd
    clear hd
    go_enter Try.func54, Try.ntmps54
    go_wp2_with fail
    refine (wins_any q b off n cap ws s _ hn h512 HOK.out (HSL.out.alloc _)).mono ?_
    rintro e w1 ⟨rfl, hb⟩
    rw [HD.out]
    obtain ⟨hd0, hd1⟩ := (hx.now hb).cells
    go_wp2_with (go_at_call 45; refine (blocks_any q b off n cap ws s _ hn hs HOK.out ((HSL.out.alloc _).now hb)).mono ?_; rintro e w2 ⟨rfl, hb2⟩)
    go_ret
    exact ⟨by rw [HP.out, HD.out]; simp, by first | exact bfrom (below1 w _) (bfrom hb hb2) | exact bfrom (below1 w _) hb⟩

def ruleP (q : Int) (ws : List Int) (n : Nat) (s : Nat) : Bool := winB q ws n s && !winB q ws n (co n s)
def vetoP (q : Int) (ws : List Int) (n : Nat) (s : Nat) : Bool := !winB q ws n (co n s)
theorem rules_asks (q : Int) (b off n cap : Nat) (ws : List Int) (w : World) (hn : n < 10) (hok : InK 0 1000 ws n) (hsl : Sl w b off n ws) :
    Asks (ruleP q ws n) 54 #[.agg #[.int .i64 q, .slice (some ⟨b, off, none⟩) n cap]] #[] n w :=
  ⟨enters_of Try.func54 (by kernel_rfl) rfl, fun W s hs hb => rules_any q b off n cap ws s W hn hs hok (hsl.now hb)⟩
theorem blocks_asks (q : Int) (b off n cap : Nat) (ws : List Int) (w : World) (hn : n < 10) (hok : InK 0 1000 ws n) (hsl : Sl w b off n ws) :
    Asks (vetoP q ws n) 45 #[.agg #[.int .i64 q, .slice (some ⟨b, off, none⟩) n cap]] #[] n w :=
  ⟨enters_of Try.func45 (by kernel_rfl) rfl, fun W s hs hb => blocks_any q b off n cap ws s W hn hs hok (hsl.now hb)⟩

/-- One member's weight. -/
theorem wtK_one {ws : List Int} {i n : Nat} (h : i < n) : wtK ws (2^i) n = ws.getD i 0 := by
  have lo : ∀ k, k ≤ i → wtK ws (2^i) k = 0 := by
    intro k
    induction k with
    | zero => intro _; rfl
    | succ k ih => intro hk; simp only [wtK]; rw [ih (by omega), Nat.testBit_two_pow_of_ne (by omega)]; simp
  have hi : ∀ d, wtK ws (2^i) (i + 1 + d) = ws.getD i 0 := by
    intro d
    induction d with
    | zero => simp only [wtK]; rw [lo i (Nat.le_refl _), Nat.testBit_two_pow_self]; simp
    | succ d ih => rw [show i + 1 + (d + 1) = (i + 1 + d) + 1 from rfl, wtK, ih, Nat.testBit_two_pow_of_ne (by omega)]; simp
  rw [show n = i + 1 + (n - (i + 1)) by omega]
  exact hi _
theorem vetoP_one {q ws n i} (h : i < n) : vetoP q ws n (2^i) = decide (sumK ws n - ws.getD i 0 < q) := by
  unfold vetoP winB
  rw [wtK_co (Nat.pow_lt_pow_right (by omega) h) (Nat.le_refl _), wtK_one h]
  generalize sumK ws n - ws.getD i 0 = x
  by_cases hd : x < q
  · rw [decide_eq_true hd, decide_eq_false (by omega)]; rfl
  · rw [decide_eq_false hd, decide_eq_true (by omega)]; rfl
theorem ruleP_one {q ws n i} (h : i < n) : ruleP q ws n (2^i) = (decide (q ≤ ws.getD i 0) && decide (sumK ws n - ws.getD i 0 < q)) := by
  have := vetoP_one (q := q) (ws := ws) h
  unfold ruleP; unfold vetoP at this
  rw [this]; unfold winB; rw [wtK_one h]

def vetoL (q : Int) (ws : List Int) (n : Nat) : List Int := if goodB q ws n then aloneL (vetoP q ws n) n else []
theorem vetoL_yes {q ws n} (h : goodB q ws n = true) : vetoL q ws n = aloneL (vetoP q ws n) n := if_pos h
theorem vetoL_no {q ws n} (h : goodB q ws n = false) : vetoL q ws n = [] := if_neg (by rw [h]; simp)

/-- A slice of the call's own that holds these integers, and a truth. -/
def PairAt (L : List Int) (ok : Bool) (w w' : World) (e : Ending) : Prop :=
  ∃ A cap, e = .returned (.tuple #[.slice A L.length cap, .bool ok]) ∧ w'.ownsRow w.heap.size 3 1 (.slice A L.length cap) L.length (L.map (Value.int .i64)) ∧ Below w.heap.size w w'
theorem PairAt.none_ {w w' : World} (hb : Below w.heap.size w w') : PairAt [] false w w' (.returned (.tuple #[.slice none 0 0, .bool false])) :=
  ⟨none, 0, rfl, World.ownsRow_nil _ _ _ _, hb⟩

set_option maxHeartbeats 1000000 in
theorem vetoMembers_any (q : Int) (A : Option Addr) (n cap : Nat) (ws : List Int) (w : World) (hm : n ≤ 9223372036854775807) (hk : Known w A n ws) :
    Calls Try.prog 21 #[.agg #[.int .i64 q, .slice A n cap]] w fun e w' => PairAt (vetoL q ws n) (goodB q ws n) w w' e := by
  have HK := Lib.hid hk
  clear hk
  have hx := Box.new w (.int .i64 q) (.slice A n cap)
  have hb0 := below1 w (.cells #[.int .i64 q, .slice A n cap] 24)
  by_cases hg : Vo.Good q ws n
  · obtain ⟨b, off, rfl, hsl⟩ := HK.out.get hg.lo
    have HSL := Lib.hid hsl
    have HOK := Lib.hid hg.ok
    have HGB := Lib.hid (goodB_true hg)
    have hn9 := hg.hi
    have hn10 : n < 10 := by omega
    clear hg hsl
    go_enter Try.func21, Try.ntmps21
    go_wp2_with fail
    refine (isCommittee_any q _ n cap ws _ hm (HK.out.now hb0)).mono ?_
    rintro e w1 ⟨rfl, hb⟩
    rw [HGB.out]
    obtain ⟨hc0, hc1⟩ := (hx.now hb).cells
    go_wp2_with fail
    refine (membersThat_any (vetoP q ws n) _ _ _ _ _ n cap _ hn10 (blocks_asks q b off n cap ws _ hn10 HOK.out ((HSL.out.now hb0).now hb))).mono ?_
    rintro e w2 ⟨A2, cap2, rfl, hown, hb2⟩
    have HV := Lib.hid (vetoL_yes HGB.out)
    have HO := Lib.hid hown
    clear hown
    have g1 := bfrom hb0 hb
    have hsz := g1.size
    go_wp2
    go_ret2
    exact ⟨A2, cap2, by rw [HV.out, HGB.out]; rfl, by rw [HV.out]; exact owns_less HO.out hsz, bfrom g1 hb2⟩
  · have HGB := Lib.hid (goodB_false hg)
    clear hg
    go_enter Try.func21, Try.ntmps21
    go_wp2_with fail
    refine (isCommittee_any q A n cap ws _ hm (HK.out.now hb0)).mono ?_
    rintro e w1 ⟨rfl, hb⟩
    rw [HGB.out]
    go_wp2
    go_ret2
    rw [vetoL_no HGB.out, HGB.out]
    exact PairAt.none_ (bfrom hb0 hb)

def firstOf (L : List Int) : Int := L.getD 0 0
def anyOf (L : List Int) : Bool := decide (0 < L.length)
def ruleL (q : Int) (ws : List Int) (n : Nat) : List Int := if goodB q ws n then aloneL (ruleP q ws n) n else []
theorem ruleL_yes {q ws n} (h : goodB q ws n = true) : ruleL q ws n = aloneL (ruleP q ws n) n := if_pos h
theorem ruleL_no {q ws n} (h : goodB q ws n = false) : ruleL q ws n = [] := if_neg (by rw [h]; simp)

set_option maxHeartbeats 1000000 in
theorem dictatorOf_any (q : Int) (A : Option Addr) (n cap : Nat) (ws : List Int) (w : World) (hm : n ≤ 9223372036854775807) (hk : Known w A n ws) :
    Calls Try.prog 19 #[.agg #[.int .i64 q, .slice A n cap]] w fun e w' => e = .returned (.tuple #[.int .i64 (firstOf (ruleL q ws n)), .bool (anyOf (ruleL q ws n))]) ∧ Below w.heap.size w w' := by
  have HK := Lib.hid hk
  clear hk
  have hx := Box.new w (.int .i64 q) (.slice A n cap)
  have hb0 := below1 w (.cells #[.int .i64 q, .slice A n cap] 24)
  by_cases hg : Vo.Good q ws n
  · obtain ⟨b, off, rfl, hsl⟩ := HK.out.get hg.lo
    have HSL := Lib.hid hsl
    have HOK := Lib.hid hg.ok
    have HGB := Lib.hid (goodB_true hg)
    have hn9 := hg.hi
    have hn10 : n < 10 := by omega
    clear hg hsl
    go_enter Try.func19, Try.ntmps19
    go_wp2_with fail
    refine (isCommittee_any q _ n cap ws _ hm (HK.out.now hb0)).mono ?_
    rintro e w1 ⟨rfl, hb⟩
    rw [HGB.out]
    obtain ⟨hc0, hc1⟩ := (hx.now hb).cells
    go_wp2_with fail
    refine (membersThat_any (ruleP q ws n) _ _ _ _ _ n cap _ hn10 (rules_asks q b off n cap ws _ hn10 HOK.out ((HSL.out.now hb0).now hb))).mono ?_
    rintro e w2 ⟨A2, cap2, rfl, hown, hb2⟩
    have HV := Lib.hid (ruleL_yes HGB.out)
    have g1 := bfrom hb0 hb
    obtain ⟨L, hL⟩ : ∃ L, aloneL (ruleP q ws n) n = L := ⟨_, rfl⟩
    rw [hL] at HV hown ⊢
    clear hL
    cases L with
    | nil =>
      clear hown
      go_wp2
      go_ret2
      exact ⟨by rw [HV.out]; rfl, bfrom g1 hb2⟩
    | cons x L =>
      obtain ⟨g, cap3, hv, hg3, hc3, hm3⟩ := owns_head hown (by simp)
      injection hv with hA _ hcap
      subst hA
      have hcell : w2.cell? ⟨g, 0, none⟩ = some (.int .i64 x) := by
        have := World.ownsRow.cellAt hown 0 (by simp)
        simpa using this
      have hgl := World.block_lt_of_cell? w2 _ hcell
      obtain ⟨m, hm1, hm2⟩ : ∃ m, m = (x :: L).length ∧ 0 < m := ⟨_, rfl, by simp⟩
      rw [← hm1]
      have hne : ((m : Int) == 0) = false := by simp; omega
      clear hm1 hown hcap hm3 hc3
      go_wp2
      go_ret2
      exact ⟨by rw [HV.out]; rfl, bfrom g1 hb2⟩
  · have HGB := Lib.hid (goodB_false hg)
    clear hg
    go_enter Try.func19, Try.ntmps19
    go_wp2_with fail
    refine (isCommittee_any q A n cap ws _ hm (HK.out.now hb0)).mono ?_
    rintro e w1 ⟨rfl, hb⟩
    rw [HGB.out]
    go_wp2
    go_ret2
    exact ⟨by rw [ruleL_no HGB.out]; rfl, bfrom hb0 hb⟩
end Go.Proofs.Ytibmaofcnibjnaa
