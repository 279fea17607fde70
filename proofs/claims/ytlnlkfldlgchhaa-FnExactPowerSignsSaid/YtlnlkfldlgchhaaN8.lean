/- Contracts of shares of a whole: the program's list of parts; wholes. -/
import Derived.Test.YtlnlkfldlgchhaaN5
import Derived.Test.YtlnlkfldlgchhaaK2
import Derived.Test.YtlnlkfldlgchhaaN2
import Derived.Test.YtlnlkfldlgchhaaN4
import Derived.Outline
namespace Go.Proofs.Ytlnlkfldlgchhaa
open Go.RowKit Vo

theorem infoShare : (Try.prog.info? 38).map (fun i => (i.zero, i.size, i.bytes)) = some (some (.agg #[.int .i64 0, .int .i64 0]), 2, 16) := by kernel_rfl

/-- A number among a whole, in lowest terms. -/
def share1 (x D : Nat) : Int × Int := (((x / Nat.gcd x D : Nat) : Int), ((D / Nat.gcd x D : Nat) : Int))
def shL (f : Nat → Nat) (D n : Nat) : List (Int × Int) := (List.range n).map fun k => share1 (f k) D
theorem shL_len (f D n) : (shL f D n).length = n := by simp [shL]
theorem shL_succ (f D n) : shL f D (n+1) = shL f D n ++ [share1 (f n) D] := by simp [shL, List.range_succ]
def shV (L : List (Int × Int)) : List Value := L.flatMap fun x => [Value.int .i64 x.1, Value.int .i64 x.2]
theorem shV_append (L M) : shV (L ++ M) = shV L ++ shV M := by simp [shV]
theorem shF_cons (a : Int × Int) (L : List (Int × Int)) (i : Nat) : shF (a :: L) (i + 2) = shF L i := by
  have h1 : (i + 2) % 2 = i % 2 := by omega
  have h2 : (i + 2) / 2 = i / 2 + 1 := by omega
  simp [shF, h1, h2]
theorem shV_get (L : List (Int × Int)) (i : Nat) (h : i < 2 * L.length) : (shV L)[i]? = some (.int .i64 (shF L i)) := by
  induction L generalizing i with
  | nil => simp at h
  | cons a L ih =>
    match i with
    | 0 => simp [shV, shF]
    | 1 => simp [shV, shF]
    | i+2 =>
      rw [shF_cons, ← ih i (by simp at h; omega)]
      simp [shV]
theorem RSh.of_own {w : World} {base cap : Nat} {A : Option Addr} {L : List (Int × Int)} (h : w.ownsRow base 38 2 (.slice A L.length cap) L.length (shV L)) : RSh L base w.heap.size (.slice A L.length cap) w := by
  refine ⟨A, cap, rfl, ?_⟩
  by_cases hn : L.length = 0
  · exact Or.inl hn
  · obtain ⟨h1, h2⟩ := h
    rcases h2 with ⟨_, h2⟩ | ⟨g, cap', cur, hv, hg, hh, h3, h4, h5, h6⟩
    · exact absurd h2 hn
    · injection hv with hA _ hc
      subst hA
      refine Or.inr ⟨g, rfl, hg, (Array.getElem?_eq_some_iff.1 hh).1, cur, hh, by omega, fun i hi => ?_⟩
      rw [← shV_get L i hi, ← h6, List.getElem?_take, if_pos (by omega)]
      simp

/-- A slice of shares of the call's own, and a truth. -/
def ShAt (L : List (Int × Int)) (ok : Bool) (w w' : World) (e : Ending) : Prop :=
  ∃ A cap, e = .returned (.tuple #[.slice A L.length cap, .bool ok]) ∧ w'.ownsRow w.heap.size 38 2 (.slice A L.length cap) L.length (shV L) ∧ Below w.heap.size w w'
theorem ShAt.none_ {w w' : World} (hb : Below w.heap.size w w') : ShAt [] false w w' (.returned (.tuple #[.slice none 0 0, .bool false])) :=
  ⟨none, 0, rfl, World.ownsRow_nil _ _ _ _, hb⟩
theorem ShAt.ans {L : List (Int × Int)} {ok : Bool} {w w' : World} {e : Ending} (h : ShAt L ok w w' e) : Ans (RSh L) ok w w' e := by
  obtain ⟨A, cap, he, ho, hb⟩ := h
  exact ⟨_, he, (RSh.of_own ho).lies (Nat.le_refl _), hb⟩

/-- The function value (k, cap), called with a committee, answers a whole. -/
structure Whole (D : Nat) (k : Nat) (cap : Array Value) (c : Value) (w : World) : Prop where
  enters : ∀ args W, (callFunc k args).run Try.prog W = .ok (.enter k args) W
  gives : ∀ (W : World), Below w.heap.size w W → Calls Try.prog k ((#[] : Array Value).push c ++ cap) W fun e W' => e = .returned (.int .i64 (D : Nat)) ∧ Below W.heap.size W W'
theorem Whole.now {D k cap c} {w w' : World} (h : Whole D k cap c w) (hb : Below w.heap.size w w') : Whole D k cap c w' := ⟨h.enters, fun W hb' => h.gives W (bfrom hb hb')⟩
/-- A slice, wherever it lies, that reads as these integers. -/
def ReadAt (L : List Int) (w w' : World) (e : Ending) : Prop :=
  ∃ b off cap, e = .returned (.slice (some ⟨b, off, none⟩) L.length cap) ∧ Sl w' b off L.length L ∧ Below w.heap.size w w'
structure Reads (L : List Int) (k : Nat) (c : Value) (w : World) : Prop where
  enters : ∀ args W, (callFunc k args).run Try.prog W = .ok (.enter k args) W
  gives : ∀ (W : World), Below w.heap.size w W → Calls Try.prog k #[c] W fun e W' => ReadAt L W W' e
theorem Reads.now {L k c} {w w' : World} (h : Reads L k c w) (hb : Below w.heap.size w w') : Reads L k c w' := ⟨h.enters, fun W hb' => h.gives W (bfrom hb hb')⟩
theorem IntsAt.read {L : List Int} {w w' : World} {e : Ending} (h : IntsAt L w w' e) (h0 : 0 < L.length) : ReadAt L w w' e := by
  obtain ⟨A, cap, he, ho, hb⟩ := h
  obtain ⟨g, cap', hv, hg, _, _⟩ := owns_head ho h0
  injection hv with hA _ hc
  subst hA
  have hi : Ints w' g L.length L := Own.of_own ho fun i hi => by simp [hi]
  exact ⟨g, 0, cap, he, hi.sl, hb⟩
theorem Lists.reads {L k c} {w : World} (h : Lists L k c w) (h0 : 0 < L.length) : Reads L k c w := ⟨h.enters, fun W hb => (h.gives W hb).mono fun _ _ h => h.read h0⟩

set_option maxHeartbeats 1000000 in
theorem numbersOfR_any (L : List Int) (k : Nat) (q : Int) (A : Option Addr) (n cap : Nat) (ws : List Int) (w : World) (hm : n ≤ 9223372036854775807) (hk : Known w A n ws) (hg : Vo.Good q ws n)
    (hl : Reads L k (.agg #[.int .i64 q, .slice A n cap]) w) :
    Calls Try.prog 55 #[.agg #[.int .i64 q, .slice A n cap], .func (.func k) #[] #[]] w fun e w' =>
      ∃ b off cap2, e = .returned (.tuple #[.slice (some ⟨b, off, none⟩) L.length cap2, .bool true]) ∧ Sl w' b off L.length L ∧ Below w.heap.size w w' := by
  have HK := Lib.hid hk
  have HL := Lib.hid hl
  have eg := hl.enters
  have HGB := Lib.hid (goodB_true hg)
  have hx := Box.new w (.int .i64 q) (.slice A n cap)
  have hb0 := below1 w (.cells #[.int .i64 q, .slice A n cap] 28)
  clear hk hg hl
  go_enter Try.func55, Try.ntmps55
  go_wp2_with fail
  refine (isCommittee_any q _ n cap ws _ hm (HK.out.now hb0)).mono ?_
  rintro e w1 ⟨rfl, hb⟩
  rw [HGB.out]
  have g1 := bfrom hb0 hb
  obtain ⟨hc0, hc1⟩ := (hx.now hb).cells
  go_wp2_with (go_at_fn k; refine (HL.out.gives _ g1).mono ?_; rintro e w2 ⟨b2, off2, cap2, rfl, hown, hb2⟩; have HO := Lib.hid hown; clear hown)
  go_ret2
  exact ⟨b2, off2, cap2, rfl, HO.out, bfrom g1 hb2⟩

def okSh (ok : Bool) (L : List (Int × Int)) : List (Int × Int) := if ok then L else []
theorem okSh_yes {ok L} (h : ok = true) : okSh ok L = L := if_pos h
theorem okSh_no {ok L} (h : ok = false) : okSh ok L = [] := if_neg (by rw [h]; simp)

/-- The cells of a row of the call's own that holds numbers of members, at all later worlds. -/
theorem row_reads (f : Nat → Nat) {w : World} {base B : Nat} {A : Option Addr} {n cap : Nat} (h : w.ownsRow base 3 1 (.slice A n cap) n ((perL f n).map (Value.int .i64))) (hn : 1 ≤ n) (hlt : ∀ k, (Value.slice A n cap).ownBlock = some k → k < B) :
    ∃ g, A = some ⟨g, 0, none⟩ ∧ g < B ∧ ∀ W, Below B w W → ∀ j, j < n → W.cell? ⟨g, j, none⟩ = some (.int .i64 (f j : Nat)) := by
  obtain ⟨g, cap', hv, hg, _, _⟩ := owns_head h (by omega)
  injection hv with hA _ hc
  subst hA
  have hgB := hlt g rfl
  have ho : Own w g 3 n (fun i => .int .i64 (f i : Nat)) := Own.of_own h fun i hi => by simp [perL, hi]
  exact ⟨g, rfl, hgB, fun W hb j hj => (Own.below ho hb hgB).cell hj⟩

set_option maxHeartbeats 4000000 in
theorem partsOfSl_any (f : Nat → Nat) (n D b0 off cap : Nat) (w : World) (hn : n < 10) (hf : ∀ j, j < n → f j < 4611686018427387904) (hD0 : 0 < D) (hD1 : D < 4611686018427387904) (hrd : ∀ W, Below w.heap.size w W → ∀ j, j < n → W.cell? ⟨b0, off + j, none⟩ = some (.int .i64 (f j : Nat))) :
    Calls Try.prog 104 #[.slice (some ⟨b0, off, none⟩) n cap, .int .i64 D] w fun e w' => ∃ B cp, e = .returned (.slice B n cp) ∧ w'.ownsRow w.heap.size 38 2 (.slice B n cp) n (shV (shL f D n)) ∧ Below w.heap.size w w' := by
  obtain ⟨i0, hi0, hz0, hz1, hz2⟩ := info_parts infoShare
  have HFF := Lib.hid hf
  have HRD := Lib.hid hrd
  clear hf hrd
  go_enter Try.func104, Try.ntmps104
  go_wp2_with (first
    | (at_make; refine wpList_make_own _ rfl _ _ 42 rfl w.heap.size 38 i0 (.agg #[.int .i64 0, .int .i64 0]) 2 Try.underlying42 hi0 hz0 hz1 .i64 .i64 n n rfl rfl rfl (by rw [hz2]; omega) (by unfold maxLen; omega) (by simp) ?_; intro w3 hown3 hgrow3; have b3 : Below w.heap.size w w3 := (Below.refl _ _).grown hgrow3 (Nat.le_refl _) (fun j hj => by cases hj); have HR3 := Lib.hid hown3; clear hown3 hgrow3)
    | fail)
  go_loopw [5, 7, 13] (fun v _ i wr => ∃ (j : Nat) (B : Option Addr) (cp : Nat), j ≤ n ∧ i = .int .i64 j ∧ v = .slice B j cp ∧ wr.ownsRow w.heap.size 38 2 (.slice B j cp) j (shV (shL f D j)) ∧ Below w.heap.size w wr) (fun _ _ i _ => n - (intOf i).toNat)
  case atStart => exact ⟨0, some ⟨w.heap.size, 0, none⟩, n, Nat.zero_le _, rfl, rfl, HR3.out, b3⟩
  case round =>
    obtain ⟨j, B, cp, hj, rfl, rfl, hown, hbr⟩ := hrel
    have HO := Lib.hid hown
    have hszr := hbr.size
    clear hown
    by_cases hlt : j < n
    · have hcell := HRD.out wr hbr j hlt
      have HS := Lib.hid (shL_succ f D j)
      have hfj := HFF.out j hlt
      have HLT := Lib.hid (fun W => lowestTerms_any (f j) D W hD0 hfj hD1)
      have HSH := Lib.hid (show share1 (f j) D = (((f j / Nat.gcd (f j) D : Nat) : Int), ((D / Nat.gcd (f j) D : Nat) : Int)) from rfl)
      generalize f j / Nat.gcd (f j) D = a at *
      generalize D / Nat.gcd (f j) D = b at *
      go_wp2_with (first
        | (go_at_call 67; refine (HLT.out _).mono ?_; rintro e w5 ⟨rfl, hb5⟩; have HO5 := Lib.hid (owns_now HO.out hb5); have b5 := hbr.trans (hb5.mono hszr); have hsz5 := b5.size)
        | (at_builtin; refine wpList_append_lies _ rfl _ _ _ rfl w.heap.size 38 i0 _ 2 16 Try.underlying42 hi0 hz0 hz1 hz2 rfl (by decide) (.slice B j cp) j (shV (shL f D j)) rfl (HO5.out.alloc _) ⟨w5.heap.size, 0, none⟩ 1 1 [.int .i64 a, .int .i64 b] rfl rfl (World.news_of_block (cs := #[.int .i64 a, .int .i64 b]) (t := 38) (fr := (0, 0)) (heap_alloc_new w5 _)) (by simp [Value.oneCell']) (by omega) (by unfold maxLen; omega) (by omega) (by simp; omega) (w5.heap.size + 1) (by simp) ?_; intro gg cap4 w6 hown6 hgrow6 hat hlt6)
        | fail)
      have b6 : Below w.heap.size w w6 := (b5.alloc hsz5 (.cells #[.int .i64 a, .int .i64 b] 38)).grown hgrow6 (by simp; omega) fun i hi => owns_le HO5.out hi
      go_roundw
      case rel => exact ⟨j + 1, some ⟨gg, 0, none⟩, cap4, by omega, by go_num, by simp, by rw [HS.out, shV_append, HSH.out]; simpa [shV] using hown6, b6⟩
      case measure => simp [intOf]; omega
    · obtain rfl : j = n := by omega
      go_wp2
      go_ret
      exact ⟨B, cp, rfl, HO.out, hbr⟩

set_option maxHeartbeats 4000000 in
theorem partsOfR_any (f : Nat → Nat) (D k k2 : Nat) (cp2 : Array Value) (q : Int) (A : Option Addr) (n cap : Nat) (ws : List Int) (w : World) (hm : n ≤ 9223372036854775807) (hk : Known w A n ws)
    (hl : Vo.Good q ws n → Reads (perL f n) k (.agg #[.int .i64 q, .slice A n cap]) w)
    (hd : Vo.Good q ws n → Whole D k2 cp2 (.agg #[.int .i64 q, .slice A n cap]) w)
    (hf : Vo.Good q ws n → (∀ j, j < n → f j < 4611686018427387904) ∧ 0 < D ∧ D < 4611686018427387904) :
    Calls Try.prog 70 #[.agg #[.int .i64 q, .slice A n cap], .func (.func k) #[] #[], .func (.func k2) #[] cp2] w fun e w' => ShAt (okSh (goodB q ws n) (shL f D n)) (goodB q ws n) w w' e := by
  have HK := Lib.hid hk
  clear hk
  have hx := Box.new w (.int .i64 q) (.slice A n cap)
  have hb0 := below1 w (.cells #[.int .i64 q, .slice A n cap] 28)
  by_cases hg : Vo.Good q ws n
  · have HL := Lib.hid (hl hg)
    have HW := Lib.hid (hd hg)
    have eg := (hd hg).enters
    have HGB := Lib.hid (goodB_true hg)
    have HGD := Lib.hid hg
    have HFF := Lib.hid (hf hg).1
    have hD0 := (hf hg).2.1
    have hD1 := (hf hg).2.2
    have hn9 := hg.hi
    have hn1 := hg.lo
    have HV := Lib.hid (okSh_yes (L := shL f D n) (goodB_true hg))
    have HLE := Lib.hid (shL_len f D n)
    clear hg hl hd hf
    go_enter Try.func70, Try.ntmps70
    go_wp2_with fail
    refine (numbersOfR_any (perL f n) k q A n cap ws _ hm (HK.out.now hb0) HGD.out (HL.out.now hb0)).mono ?_
    rintro e w1 ⟨bN, offN, cap2, rfl, hown, hb⟩
    rw [perL_len] at hown
    rw [perL_len]
    have HO := Lib.hid hown
    have g1 := bfrom hb0 hb
    have hx1 := hx.now hb
    obtain ⟨c0, c1⟩ := hx1.cells
    clear hown hb
    go_wp2_with (first
      | (go_at_fn k2; refine (HW.out.gives _ g1).mono ?_; rintro e w2 ⟨rfl, hb2⟩; have HO2 := Lib.hid (HO.out.now hb2); have g2 := bfrom g1 hb2; have HRD := Lib.hid (show ∀ W, Below w2.heap.size w2 W → ∀ j, j < n → W.cell? ⟨bN, offN + j, none⟩ = some (.int .i64 (f j : Nat)) from fun W hW j hj => by
          have h1 := (HO2.out.now hW).cell j hj
          rw [h1, perL_get hj]))
      | (go_at_call 104; refine (partsOfSl_any f n D bN offN cap2 _ (by omega) HFF.out hD0 hD1 HRD.out).mono ?_; rintro e w3 ⟨B, cp, rfl, hown3, hb3⟩; have HO3 := Lib.hid hown3; have g3 := bfrom g2 hb3; clear hown3)
      | fail)
    have b2h : w.heap.size ≤ w2.heap.size := g2.size
    go_ret2
    exact ⟨B, cp, by rw [HV.out, HGB.out, HLE.out]; rfl, by rw [HV.out, HLE.out]; exact owns_less HO3.out b2h, g3⟩
  · have HGB := Lib.hid (goodB_false hg)
    clear hl hd hf
    go_enter Try.func70, Try.ntmps70
    go_wp2_with fail
    refine (numbersOf_any (perL f n) k q A n cap ws _ hm (HK.out.now hb0) (fun h => absurd h hg)).mono ?_
    rintro e w1 ⟨A2, cap2, rfl, hown, hb⟩
    rw [okL_no HGB.out, HGB.out]
    clear hown
    go_wp2
    go_ret2
    rw [okSh_no HGB.out, HGB.out]
    exact ShAt.none_ (bfrom hb0 hb)

theorem partsOf_any (f : Nat → Nat) (D k k2 : Nat) (q : Int) (A : Option Addr) (n cap : Nat) (ws : List Int) (w : World) (hm : n ≤ 9223372036854775807) (hk : Known w A n ws)
    (hl : Vo.Good q ws n → Lists (perL f n) k (.agg #[.int .i64 q, .slice A n cap]) w)
    (hd : Vo.Good q ws n → Whole D k2 #[] (.agg #[.int .i64 q, .slice A n cap]) w)
    (hf : Vo.Good q ws n → (∀ j, j < n → f j < 4611686018427387904) ∧ 0 < D ∧ D < 4611686018427387904) :
    Calls Try.prog 70 #[.agg #[.int .i64 q, .slice A n cap], .func (.func k) #[] #[], .func (.func k2) #[] #[]] w fun e w' => ShAt (okSh (goodB q ws n) (shL f D n)) (goodB q ws n) w w' e :=
  partsOfR_any f D k k2 #[] q A n cap ws w hm hk (fun hg => (hl hg).reads (by rw [perL_len]; exact hg.lo)) hd hf

/- Wholes. -/
set_option maxHeartbeats 400000 in
theorem allSets_any (v : Int) (a : Option Addr) (n cap : Nat) (w : World) (hn : n < 10) :
    Calls Try.prog 69 #[.agg #[.int .i64 v, .slice a n cap]] w fun e w' => e = .returned (.int .i64 ((2^n : Nat) : Int)) ∧ Below w.heap.size w w' := by
  have hsh := shl_pow n hn
  go_enter Try.func69, Try.ntmps69
  go_wp2_with fail
  refine (members_any _ _ _ _ _).mono ?_
  rintro e w1 ⟨rfl, hb⟩
  go_wp2
  go_ret
  exact ⟨ret_int (by simpa using hsh), bfrom (below1 _ _) hb⟩
theorem half_pow {n : Nat} (hn : 1 ≤ n) : 2^n / 2 = 2^(n-1) := by
  obtain ⟨m, rfl⟩ : ∃ m, n = m + 1 := ⟨n - 1, by omega⟩
  rw [Nat.pow_succ]; simp
set_option maxHeartbeats 400000 in
theorem setsWithoutOne_any (v : Int) (a : Option Addr) (n cap : Nat) (w : World) (hn : n < 10) (h1 : 1 ≤ n) :
    Calls Try.prog 71 #[.agg #[.int .i64 v, .slice a n cap]] w fun e w' => e = .returned (.int .i64 ((2^(n-1) : Nat) : Int)) ∧ Below w.heap.size w w' := by
  have HE := Lib.hid (half_pow h1)
  have h512 := pow_lt (n := n) (by omega)
  have HC := Lib.hid (fun W => allSets_any v a n cap W hn)
  generalize 2^n = N at *
  generalize 2^(n-1) = M at *
  have HD := Lib.hid (show (N : Int) / 2 = (M : Int) from by rw [← HE.out]; omega)
  go_enter Try.func71, Try.ntmps71
  go_wp2_with fail
  refine (HC.out _).mono ?_
  rintro e w1 ⟨rfl, hb⟩
  go_wp2
  go_ret
  exact ⟨ret_int HD.out, bfrom (below1 _ _) hb⟩
set_option maxHeartbeats 400000 in
theorem allOrders_any (v : Int) (a : Option Addr) (n cap : Nat) (w : World) (hn : n < 10) :
    Calls Try.prog 75 #[.agg #[.int .i64 v, .slice a n cap]] w fun e w' => e = .returned (.int .i64 (fact n : Nat)) ∧ Below w.heap.size w w' := by
  go_enter Try.func75, Try.ntmps75
  go_wp2_with fail
  refine (members_any _ _ _ _ _).mono ?_
  rintro e w1 ⟨rfl, hb⟩
  go_wp2_with fail
  refine (factorial_any n _ (by omega)).mono ?_
  rintro e w2 ⟨rfl, rfl⟩
  go_wp2
  go_ret
  exact ⟨rfl, bfrom (below1 _ _) hb⟩
theorem loses_asks (q : Int) (b off n cap : Nat) (ws : List Int) (w : World) (hn : n < 10) (hok : InK 0 1000 ws n) (hsl : Sl w b off n ws) :
    Asks (fun s => !winB q ws n s) 108 #[.agg #[.int .i64 q, .slice (some ⟨b, off, none⟩) n cap]] #[] n w :=
  ⟨enters_of Try.func108 (by kernel_rfl) rfl, fun W s hs hb => loses_any q b off n cap ws s W hn (by have := pow_lt (n := n) (by omega); omega) hok (hsl.now hb)⟩
set_option maxHeartbeats 1000000 in
theorem winningSets_any (q : Int) (b off n cap : Nat) (ws : List Int) (w : World) (hn : n < 10) (hok : InK 0 1000 ws n) (hsl : Sl w b off n ws) :
    Calls Try.prog 68 #[.agg #[.int .i64 q, .slice (some ⟨b, off, none⟩) n cap]] w fun e w' => e = .returned (.int .i64 (cnt (winB q ws n) (2^n) : Nat)) ∧ Below w.heap.size w w' := by
  have HOK := Lib.hid hok
  have HSL := Lib.hid (hsl.now (below1 w (.cells #[.int .i64 q, .slice (some ⟨b, off, none⟩) n cap] 28)))
  have hx := Box.new w (.int .i64 q) (.slice (some ⟨b, off, none⟩) n cap)
  have hb0 := below1 w (.cells #[.int .i64 q, .slice (some ⟨b, off, none⟩) n cap] 28)
  clear hok hsl
  go_enter Try.func68, Try.ntmps68
  go_wp2_with fail
  go_region_held3 (fun w' => w'.cell? ⟨w.heap.size, 0, none⟩ = some (.int .i64 q) ∧ w'.cell? ⟨w.heap.size, 1, none⟩ = some (.slice (some ⟨b, off, none⟩) n cap))
    (first | exact hd | exact hd2 | exact hx.cells | go_keep)
    (first
      | (go_at_call 93; refine (members_any _ _ n cap _).mono ?_; rintro e w2 ⟨rfl, hb2⟩; have hd := (hx.drew.now hb2).cells)
      | (go_at_call 103; refine (countSets_any (winB q ws n) _ _ _ n _ hn (wins_asks q b off n cap ws _ hn HOK.out (HSL.out.drew.now hb2))).mono ?_; rintro e w3 ⟨rfl, hb3⟩; have hd2 := ((hx.drew.now hb2).now hb3).cells))
  all_goals
    go_wp2
    go_ret
    exact ⟨rfl, bfrom hb0.drew (bfrom hb2 hb3)⟩
set_option maxHeartbeats 1000000 in
theorem losingSets_any (q : Int) (b off n cap : Nat) (ws : List Int) (w : World) (hn : n < 10) (hok : InK 0 1000 ws n) (hsl : Sl w b off n ws) :
    Calls Try.prog 76 #[.agg #[.int .i64 q, .slice (some ⟨b, off, none⟩) n cap]] w fun e w' => e = .returned (.int .i64 (cnt (fun s => !winB q ws n s) (2^n) : Nat)) ∧ Below w.heap.size w w' := by
  have HOK := Lib.hid hok
  have HSL := Lib.hid (hsl.now (below1 w (.cells #[.int .i64 q, .slice (some ⟨b, off, none⟩) n cap] 28)))
  have hx := Box.new w (.int .i64 q) (.slice (some ⟨b, off, none⟩) n cap)
  have hb0 := below1 w (.cells #[.int .i64 q, .slice (some ⟨b, off, none⟩) n cap] 28)
  clear hok hsl
  go_enter Try.func76, Try.ntmps76
  go_wp2_with fail
  go_region_held3 (fun w' => w'.cell? ⟨w.heap.size, 0, none⟩ = some (.int .i64 q) ∧ w'.cell? ⟨w.heap.size, 1, none⟩ = some (.slice (some ⟨b, off, none⟩) n cap))
    (first | exact hd | exact hd2 | exact hx.cells | go_keep)
    (first
      | (go_at_call 93; refine (members_any _ _ n cap _).mono ?_; rintro e w2 ⟨rfl, hb2⟩; have hd := (hx.drew.now hb2).cells)
      | (go_at_call 103; refine (countSets_any (fun s => !winB q ws n s) _ _ _ n _ hn (loses_asks q b off n cap ws _ hn HOK.out (HSL.out.drew.now hb2))).mono ?_; rintro e w3 ⟨rfl, hb3⟩; have hd2 := ((hx.drew.now hb2).now hb3).cells))
  all_goals
    go_wp2
    go_ret
    exact ⟨rfl, bfrom hb0.drew (bfrom hb2 hb3)⟩

/-- The swings of all members together. -/
theorem sumN_le2 {f : Nat → Nat} {B n j : Nat} (h : ∀ k, f k ≤ B) (hj : j ≤ n) : sumN f j ≤ B * n := Nat.le_trans (sumN_le fun k _ => h k) (Nat.mul_le_mul_left _ hj)
end Go.Proofs.Ytlnlkfldlgchhaa
