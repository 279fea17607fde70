/- Contract of the program's BestPartners. For the seats of tied cards. -/
import Derived.Outline
import Derived.Test.YtgilbenbaefgfabDoorRj
import Derived.Test.YtgilbenbaefgfabDoorPu
import Derived.Deep.RegionHeld3
import Derived.Test.YtgilbenbaefgfabDoorQf
namespace Go.Proofs.YtgilbenbaefgfabDoor
open Go.RowKit Vo

/-- The best of the numbers below j that have a value, and its value. -/
def boS (ok : Nat → Bool) (v : Nat → Int) : Nat → List Int × Int
  | 0 => ([], 0)
  | j+1 => if ok j then (if (boS ok v j).1.length = 0 ∨ (boS ok v j).2 < v j then ([(j : Int)], v j) else if v j = (boS ok v j).2 then ((boS ok v j).1 ++ [(j : Int)], (boS ok v j).2) else boS ok v j) else boS ok v j
theorem boS_skip {ok v j} (h : ok j = false) : boS ok v (j+1) = boS ok v j := by simp only [boS]; rw [h]; simp
theorem boS_new {ok v j} (h : ok j = true) (h2 : (boS ok v j).1.length = 0 ∨ (boS ok v j).2 < v j) : boS ok v (j+1) = ([(j : Int)], v j) := by simp only [boS]; rw [h]; rw [if_pos rfl, if_pos h2]
theorem boS_same {ok v j} (h : ok j = true) (h1 : (boS ok v j).1.length ≠ 0) (h2 : v j = (boS ok v j).2) : boS ok v (j+1) = ((boS ok v j).1 ++ [(j : Int)], (boS ok v j).2) := by
  simp only [boS]; rw [h, if_pos rfl, if_neg (by omega), if_pos h2]
theorem boS_less {ok v j} (h : ok j = true) (h1 : (boS ok v j).1.length ≠ 0) (h2 : v j < (boS ok v j).2) : boS ok v (j+1) = boS ok v j := by
  simp only [boS]; rw [h, if_pos rfl, if_neg (by omega), if_neg (by omega)]
theorem boS_le (ok v) (j : Nat) : (boS ok v j).1.length ≤ j := by
  induction j with
  | zero => exact Nat.le_refl _
  | succ j ih =>
    simp only [boS]
    split
    · split
      · simp
      · split
        · simp; omega
        · omega
    · omega
/-- The function value (k, cap), called with a number of 0 .. T, answers its value, and whether it has one. -/
structure ValsO (ok : Nat → Bool) (v : Nat → Int) (T : Nat) (k : Nat) (cap : Array Value) (w : World) : Prop where
  enters : ∀ args W, (callFunc k args).run Tryd.prog W = .ok (.enter k args) W
  gives : ∀ (W : World) (j : Nat), j ≤ T → Below w.heap.size w W → Calls Tryd.prog k ((#[] : Array Value).push (.int .i64 j) ++ cap) W fun e W' => e = .returned (.tuple #[.int .i64 (if ok j then v j else 0), .bool (ok j)]) ∧ Below W.heap.size W W'

set_option maxRecDepth 20000 in
set_option maxHeartbeats 16000000 in
theorem bestOfO_any (ok : Nat → Bool) (v : Nat → Int) (T k : Nat) (cap : Array Value) (w : World) (hT : T ≤ 1000) (hv : ValsO ok v T k cap w) :
    Calls Tryd.prog 24 #[.int .i64 0, .int .i64 T, .func (.func k) #[] cap, .func (.func 26) #[] #[]] w fun e w' => IntsAt (boS ok v (T+1)).1 w w' e := by
  obtain ⟨i0, hi0, hz0, hz1, hz2⟩ := infoIntParts
  have HV := Lib.hid hv
  have eg := hv.enters
  have eg2 : ∀ args W, (callFunc 26 args).run Tryd.prog W = .ok (.enter 26 args) W := enters_of Tryd.func26 (by kernel_rfl) rfl
  have HCP := Lib.hid compareI_any
  clear hv
  go_enter Tryd.func24, Tryd.ntmps24
  go_wp2_with fail
  go_loopw [9, 10, 11, 12, 13] (fun u m i _ _ wr => ∃ (j : Nat) (A : Option Addr) (cp : Nat), j ≤ T + 1 ∧ i = .int .i64 j ∧ m = .int .i64 (boS ok v j).2 ∧ u = .slice A (boS ok v j).1.length cp ∧ wr.ownsRow w.heap.size 3 1 (.slice A (boS ok v j).1.length cp) (boS ok v j).1.length ((boS ok v j).1.map (Value.int .i64)) ∧ Below w.heap.size w wr) (fun _ _ i _ _ _ => T + 1 - (intOf i).toNat)
  case atStart => exact ⟨0, none, 0, Nat.zero_le _, rfl, rfl, rfl, World.ownsRow_nil _ _ _ _, Below.refl _ _⟩
  case round =>
    obtain ⟨j, A, cp, hj, rfl, rfl, rfl, hown, hbr⟩ := hrel
    have HO := Lib.hid hown
    have hszr := hbr.size
    have hlen := boS_le ok v j
    clear hown
    by_cases hlt : j ≤ T
    · have HG := Lib.hid (HV.out.gives wr j hlt hbr)
      have hTi : (j : Int) ≤ T := by omega
      have HSK := Lib.hid (fun h => boS_skip (ok := ok) (v := v) (j := j) h)
      have HNW := Lib.hid (fun h h2 => boS_new (ok := ok) (v := v) (j := j) h h2)
      have HSM := Lib.hid (fun h h1 h2 => boS_same (ok := ok) (v := v) (j := j) h h1 h2)
      have HLS := Lib.hid (fun h h1 h2 => boS_less (ok := ok) (v := v) (j := j) h h1 h2)
      obtain ⟨st, hst⟩ : ∃ z, z = boS ok v j := ⟨_, rfl⟩
      simp only [← hst] at HSK HNW HSM HLS HO
      rw [← hst] at hlen ⊢
      clear hst
      obtain ⟨L, m⟩ := st
      simp only at HSK HNW HSM HLS HO hlen ⊢
      obtain ⟨ln, hln⟩ : ∃ ln, ln = L.length := ⟨_, rfl⟩
      simp only [← hln] at HNW HSM HLS HO
      rw [← hln] at hlen ⊢
      have HLN := Lib.hid hln
      clear hln
      cases hok : ok j with
      | false =>
        have HE := Lib.hid (HSK.out hok)
        rw [hok] at HG
        clear hok HSK HNW HSM HLS
        go_wp2_with (first
          | (go_at_fn k; refine HG.out.mono ?_; rintro e w5 ⟨rfl, hb5⟩; have HO5 := Lib.hid (owns_now HO.out hb5))
          | fail)
        go_roundw
        case rel => exact ⟨j + 1, A, cp, by omega, by go_num, by rw [HE.out], by rw [HE.out]; show Value.slice A ln cp = Value.slice A L.length cp; rw [← HLN.out], by rw [HE.out]; show World.ownsRow _ _ _ _ (Value.slice A L.length cp) L.length _; rw [← HLN.out]; exact HO5.out, hbr.trans (hb5.mono hszr)⟩
        case measure => simp [intOf]; omega
      | true =>
        rw [hok] at HG
        simp only [if_true] at HG
        obtain ⟨y, hy⟩ : ∃ z, z = v j := ⟨_, rfl⟩
        rw [← hy] at HG HNW HSM HLS
        have HCE := Lib.hid (cmpI_eq y)
        by_cases h0 : ln = 0
        · have HE := Lib.hid (HNW.out hok (Or.inl h0))
          clear hok HSK HNW HSM HLS hy
          subst h0
          go_wp2_with (first
            | (go_at_fn k; refine HG.out.mono ?_; rintro e w5 ⟨rfl, hb5⟩)
            | (go_at_fn 26; (with_reducible refine (HCP.out y y _).mono ?_); rintro e w7 ⟨rfl, rfl⟩; rw [HCE.out])
            | (at_builtin; refine wpList_append_lies _ rfl _ _ _ rfl w.heap.size 3 i0 _ 1 8 Tryd.underlying22 hi0 hz0 hz1 hz2 rfl (by decide) (.slice none 0 0) 0 [] rfl (World.ownsRow_nil _ _ _ _) ⟨w5.heap.size, 0, none⟩ 1 1 [.int .i64 (j : Int)] rfl rfl (World.news_of_block (cs := #[.int .i64 (j : Int)]) (t := 3) (fr := (0, 0)) (heap_alloc_new w5 _)) (by simp [Value.oneCell']) (by omega) (by unfold maxLen; omega) (by omega) (by have := hb5.size; simp; omega) (w5.heap.size + 1) (by simp) ?_; intro gg cap4 w6 hown6 hgrow6 hat hlt6)
            | fail)
          have b5 := hbr.trans (hb5.mono hszr)
          have b6 : Below w.heap.size w w6 := (b5.alloc b5.size (.cells #[.int .i64 (j : Int)] 3)).grown hgrow6 (by have := b5.size; simp; omega) fun i hi => by cases hi
          go_roundw
          case rel => exact ⟨j + 1, some ⟨gg, 0, none⟩, cap4, by omega, by go_num, by rw [HE.out], by rw [HE.out]; simp, by rw [HE.out]; simpa using hown6, b6⟩
          case measure => simp [intOf]; omega
        · have hln0 : ((ln : Int) == 0) = false := by simp; omega
          by_cases hgt : m < y
          · have HE := Lib.hid (HNW.out hok (Or.inr hgt))
            have HCG := Lib.hid (cmpI_gt hgt)
            clear hok HSK HNW HSM HLS hy
            go_wp2_with (first
              | (go_at_fn k; refine HG.out.mono ?_; rintro e w5 ⟨rfl, hb5⟩)
              | (go_at_fn 26; (with_reducible refine (HCP.out y m _).mono ?_); rintro e w7 ⟨rfl, rfl⟩; rw [HCG.out])
              | (go_at_fn 26; (with_reducible refine (HCP.out y y _).mono ?_); rintro e w7 ⟨rfl, rfl⟩; rw [HCE.out])
              | (at_builtin; refine wpList_append_lies _ rfl _ _ _ rfl w.heap.size 3 i0 _ 1 8 Tryd.underlying22 hi0 hz0 hz1 hz2 rfl (by decide) (.slice none 0 0) 0 [] rfl (World.ownsRow_nil _ _ _ _) ⟨w5.heap.size, 0, none⟩ 1 1 [.int .i64 (j : Int)] rfl rfl (World.news_of_block (cs := #[.int .i64 (j : Int)]) (t := 3) (fr := (0, 0)) (heap_alloc_new w5 _)) (by simp [Value.oneCell']) (by omega) (by unfold maxLen; omega) (by omega) (by have := hb5.size; simp; omega) (w5.heap.size + 1) (by simp) ?_; intro gg cap4 w6 hown6 hgrow6 hat hlt6)
              | fail)
            have b5 := hbr.trans (hb5.mono hszr)
            have b6 : Below w.heap.size w w6 := (b5.alloc b5.size (.cells #[.int .i64 (j : Int)] 3)).grown hgrow6 (by have := b5.size; simp; omega) fun i hi => by cases hi
            go_roundw
            case rel => exact ⟨j + 1, some ⟨gg, 0, none⟩, cap4, by omega, by go_num, by rw [HE.out], by rw [HE.out]; simp, by rw [HE.out]; simpa using hown6, b6⟩
            case measure => simp [intOf]; omega
          · by_cases heq : y = m
            · have HE := Lib.hid (HSM.out hok h0 heq)
              clear hok HSK HNW HSM HLS hy
              subst heq
              go_wp2_with (first
                | (go_at_fn k; refine HG.out.mono ?_; rintro e w5 ⟨rfl, hb5⟩; have HO5 := Lib.hid (owns_now HO.out hb5))
                | (go_at_fn 26; (with_reducible refine (HCP.out y y _).mono ?_); rintro e w7 ⟨rfl, rfl⟩; rw [HCE.out])
                | (at_builtin; refine wpList_append_lies _ rfl _ _ _ rfl w.heap.size 3 i0 _ 1 8 Tryd.underlying22 hi0 hz0 hz1 hz2 rfl (by decide) (.slice A ln cp) ln (L.map (Value.int .i64)) rfl (HO5.out.alloc _) ⟨w5.heap.size, 0, none⟩ 1 1 [.int .i64 (j : Int)] rfl rfl (World.news_of_block (cs := #[.int .i64 (j : Int)]) (t := 3) (fr := (0, 0)) (heap_alloc_new w5 _)) (by simp [Value.oneCell']) (by omega) (by unfold maxLen; omega) (by omega) (by have := hb5.size; simp; omega) (w5.heap.size + 1) (by simp) ?_; intro gg cap4 w6 hown6 hgrow6 hat hlt6)
                | fail)
              have b5 := hbr.trans (hb5.mono hszr)
              have b6 : Below w.heap.size w w6 := (b5.alloc b5.size (.cells #[.int .i64 (j : Int)] 3)).grown hgrow6 (by have := b5.size; simp; omega) fun i hi => owns_le HO5.out hi
              go_roundw
              case rel => exact ⟨j + 1, some ⟨gg, 0, none⟩, cap4, by omega, by go_num, by rw [HE.out], by rw [HE.out]; simp [HLN.out], by rw [HE.out]; simpa [HLN.out] using hown6, b6⟩
              case measure => simp [intOf]; omega
            · have hl : y < m := by omega
              have HE := Lib.hid (HLS.out hok h0 hl)
              have HCL := Lib.hid (cmpI_lt hl)
              clear hok HSK HNW HSM HLS hy
              go_wp2_with (first
                | (go_at_fn k; refine HG.out.mono ?_; rintro e w5 ⟨rfl, hb5⟩; have HO5 := Lib.hid (owns_now HO.out hb5))
                | (go_at_fn 26; (with_reducible refine (HCP.out y m _).mono ?_); rintro e w7 ⟨rfl, rfl⟩; rw [HCL.out])
                | fail)
              go_roundw
              case rel => exact ⟨j + 1, A, cp, by omega, by go_num, by rw [HE.out], by rw [HE.out]; show Value.slice A ln cp = Value.slice A L.length cp; rw [← HLN.out], by rw [HE.out]; show World.ownsRow _ _ _ _ (Value.slice A L.length cp) L.length _; rw [← HLN.out]; exact HO5.out, hbr.trans (hb5.mono hszr)⟩
              case measure => simp [intOf]; omega
    · obtain rfl : j = T + 1 := by omega
      have hTi : ¬ ((T : Int) + 1 ≤ (T : Int)) := by omega
      go_wp2
      go_ret
      exact ⟨A, cp, rfl, HO.out, hbr⟩

end Go.Proofs.YtgilbenbaefgfabDoor

namespace Go.Proofs.YtgilbenbaefgfabDoor
open Go.RowKit Vo

theorem mrgLq_step (ws : List Int) (s f : Nat) (W : Int) (j : Nat) : mrgL ws s f W (j+1) = mrgL ws s f W j ++ if j = f then [W] else if s.testBit j then [] else [ws.getD j 0] := rfl
theorem mrgL_count (ws : List Int) (s f : Nat) (W : Int) (j : Nat) : (mrgL ws s f W j).length + cnt (fun i => s.testBit i && decide (i ≠ f)) j = j := by
  induction j with
  | zero => rfl
  | succ j ih =>
    rw [mrgLq_step, List.length_append, show cnt (fun i => s.testBit i && decide (i ≠ f)) (j+1) = cnt (fun i => s.testBit i && decide (i ≠ f)) j + (if (s.testBit j && decide (j ≠ f)) = true then 1 else 0) from rfl]
    generalize cnt (fun i => s.testBit i && decide (i ≠ f)) j = c at *
    by_cases e : j = f
    · rw [if_pos e, decide_eq_false (by simpa using e)]; simp; omega
    · rw [if_neg e, decide_eq_true e, Bool.and_true]
      cases s.testBit j
      · simp; omega
      · simp; omega
theorem cnt_single {p : Nat → Bool} {g n : Nat} (hg : g < n) (h : ∀ i, i < n → (p i = true ↔ i = g)) : cnt p n = 1 := by
  have H : ∀ m, m ≤ n → cnt p m = if g < m then 1 else 0 := by
    intro m
    induction m with
    | zero => intro _; simp [cnt]
    | succ m ih =>
      intro hm
      show cnt p m + (if p m then 1 else 0) = _
      rw [ih (by omega)]
      by_cases e : m = g
      · rw [if_pos ((h m (by omega)).2 e)]
        rw [if_neg (by omega), if_pos (by omega)]
      · rw [if_neg (fun x => e ((h m (by omega)).1 x))]
        by_cases l : g < m
        · rw [if_pos l, if_pos (by omega)]
        · rw [if_neg l, if_neg (by omega)]
  rw [H n (Nat.le_refl _), if_pos hg]
theorem two_bit (k p j : Nat) : (2^k ||| 2^p).testBit j = (decide (k = j) || decide (p = j)) := by rw [Nat.testBit_or, Nat.testBit_two_pow, Nat.testBit_two_pow]
theorem two_lt {k p n : Nat} (hk : k < n) (hp : p < n) : 0 < 2^k ||| 2^p ∧ 2^k ||| 2^p < 2^n := by
  constructor
  · rcases Nat.eq_zero_or_pos (2^k ||| 2^p) with h | h
    · have := two_bit k p k
      rw [h, Nat.zero_testBit] at this
      simp at this
    · exact h
  · exact Nat.or_lt_two_pow (Nat.pow_lt_pow_right (by omega) hk) (Nat.pow_lt_pow_right (by omega) hp)
theorem two_len {ws : List Int} {k p n : Nat} (hn : n ≤ 9) (hk : k < n) (hp : p < n) (hne : k ≠ p) : (uniL ws n (2^k ||| 2^p)).length + 1 = n := by
  obtain ⟨h0, hs⟩ := two_lt hk hp
  have h5 : 2^k ||| 2^p < 512 := Nat.lt_of_lt_of_le hs (Nat.pow_le_pow_right (n := 2) (by omega) hn)
  obtain ⟨_, f2, _⟩ := first_in h0 h5
  have hc := mrgL_count ws (2^k ||| 2^p) (firstN (2^k ||| 2^p)) (wtK ws (2^k ||| 2^p) n) n
  rw [two_bit] at f2
  simp only [Bool.or_eq_true, decide_eq_true_eq] at f2
  have h1 : cnt (fun i => (2^k ||| 2^p).testBit i && decide (i ≠ firstN (2^k ||| 2^p))) n = 1 := by
    rcases f2 with e | e
    · refine cnt_single (g := p) hp fun i hi => ?_
      rw [two_bit, ← e]
      simp only [Bool.and_eq_true, Bool.or_eq_true, decide_eq_true_eq]
      constructor
      · rintro ⟨h | h, h'⟩ <;> omega
      · intro h; exact ⟨Or.inr h.symm, by omega⟩
    · refine cnt_single (g := k) hk fun i hi => ?_
      rw [two_bit, ← e]
      simp only [Bool.and_eq_true, Bool.or_eq_true, decide_eq_true_eq]
      constructor
      · rintro ⟨h | h, h'⟩ <;> omega
      · intro h; exact ⟨Or.inl h.symm, by omega⟩
  rw [h1] at hc
  exact hc
/-- What a union of two has more than both before, in parts of which 1 has as many as there are orders. -/
def leadV (q : Int) (ws : List Int) (n k p : Nat) : Int := (partN (pivotN q (uniL ws n (2^k ||| 2^p)) (uniL ws n (2^k ||| 2^p)).length) (2^firstN (2^k ||| 2^p)) (uniL ws n (2^k ||| 2^p)).length : Nat) * (n : Int) - (partN (pivotN q ws n) (2^k ||| 2^p) n : Nat)
def leadOk (ws : List Int) (n k p : Nat) : Bool := decide (wtK ws (2^k ||| 2^p) n ≤ 1000)
theorem heldQ_known {base : Nat} {w : World} {A : Option Addr} {m : Nat} {L : List Int} (h : Held base w A m L) : Known w A m L := by
  rcases h with ⟨h, _⟩ | ⟨g, rfl, _, hi⟩
  · exact ⟨0, 0, fun h1 => by omega, fun h1 => by omega⟩
  · exact Known.of (Ints.sl hi)

set_option maxRecDepth 20000 in
set_option maxHeartbeats 8000000 in
theorem partnerLead_any (q : Int) (b off n k p : Nat) (ws : List Int) (w : World) (hg : Vo.Good q ws n) (hk : k < n) (hp : p < n) (hne : k ≠ p) (hsl : Sl w b off n ws) (hT : Tab w) :
    Calls Tryd.prog 23 #[.agg #[.int .i64 q, .slice (some ⟨b, off, none⟩) n n], .int .i64 k, .int .i64 p] w fun e w' => e = .returned (.tuple #[.int .i64 (if leadOk ws n k p then leadV q ws n k p else 0), .bool (leadOk ws n k p)]) ∧ Below w.heap.size w w' := by
  have hn9 := hg.hi
  obtain ⟨h0, hs⟩ := two_lt hk hp
  have h5 : 2^k ||| 2^p < 512 := Nat.lt_of_lt_of_le hs (Nat.pow_le_pow_right (n := 2) (by omega) hn9)
  have hlen := two_len (ws := ws) hn9 hk hp hne
  have hf9 := (first_in h0 h5).1
  have HW1 := Lib.hid (fun W => with0_any k W (by omega))
  have HW2 := Lib.hid (fun W => with_any (2^k) p W (by omega) (Nat.pow_lt_pow_right (n := 9) (by omega) (by omega)))
  have HU := Lib.hid (fun W (hb : Below w.heap.size w W) => united_any q b off n (2^k ||| 2^p) ws W hg h0 hs (hsl.now hb) (hT.now hb))
  simp only [PartyAt] at HU
  have hgm : goodB q (uniL ws n (2^k ||| 2^p)) (uniL ws n (2^k ||| 2^p)).length = leadOk ws n k p := mrg_good hg h0 h5 (first_lt h0 hn9 hs)
  have hp1 := part_pivots hg h5
  have HC1 := Lib.hid (fun W (hb : Below w.heap.size w W) => countOf_any (perL (pivotN q ws n) n) 41 q (some ⟨b, off, none⟩) n n (2^k ||| 2^p) _ _ W hp1.len hp1.set hp1.ok hp1.own hp1.all ((pivots_lists q (some ⟨b, off, none⟩) n n ws W (Known.of (hsl.now hb)) hg).reads (by rw [perL_len]; exact hg.lo)))
  rw [pivS_good hg] at HC1
  have hle1 : partN (pivotN q ws n) (2^k ||| 2^p) n ≤ 362880 := by have := hp1.le; have := pivS_good hg; have := (fact_few hn9).2; omega
  have hfn := fact_few hn9
  have hx := Box.new w (.int .i64 q) (.slice (some ⟨b, off, none⟩) n n)
  have hb0 := below1 w (.cells #[.int .i64 q, .slice (some ⟨b, off, none⟩) n n] 28)
  obtain ⟨c0, c1⟩ := hx.cells
  have hE : (decide (wtK ws (2^k ||| 2^p) n ≤ 1000)) = leadOk ws n k p := rfl
  rw [hE] at HU
  clear hE
  have HC2 := Lib.hid (fun (A' : Option Addr) (cp' : Nat) (W : World) (hg' : Vo.Good q (uniL ws n (2^k ||| 2^p)) (uniL ws n (2^k ||| 2^p)).length) (hk' : Known W A' (uniL ws n (2^k ||| 2^p)).length (uniL ws n (2^k ||| 2^p))) =>
    have h := part_pivots hg' (Nat.pow_lt_pow_right (a := 2) (n := 9) (by omega) hf9)
    countOf_any (perL (pivotN q (uniL ws n (2^k ||| 2^p)) (uniL ws n (2^k ||| 2^p)).length) (uniL ws n (2^k ||| 2^p)).length) 41 q A' (uniL ws n (2^k ||| 2^p)).length cp' (2^firstN (2^k ||| 2^p)) _ _ W h.len h.set h.ok h.own h.all ((pivots_lists q A' (uniL ws n (2^k ||| 2^p)).length cp' (uniL ws n (2^k ||| 2^p)) W hk' hg').reads (by rw [perL_len]; exact hg'.lo)))
  have HLV := Lib.hid (show leadV q ws n k p = (partN (pivotN q (uniL ws n (2^k ||| 2^p)) (uniL ws n (2^k ||| 2^p)).length) (2^firstN (2^k ||| 2^p)) (uniL ws n (2^k ||| 2^p)).length : Nat) * (n : Int) - (partN (pivotN q ws n) (2^k ||| 2^p) n : Nat) from rfl)
  have HGB := Lib.hid (show leadOk ws n k p = true → Vo.Good q (uniL ws n (2^k ||| 2^p)) (uniL ws n (2^k ||| 2^p)).length from fun h => by rw [h] at hgm; exact of_decide_eq_true hgm)
  have HPB := Lib.hid (show leadOk ws n k p = true → pivS q (uniL ws n (2^k ||| 2^p)) (uniL ws n (2^k ||| 2^p)).length = fact (uniL ws n (2^k ||| 2^p)).length ∧ partN (pivotN q (uniL ws n (2^k ||| 2^p)) (uniL ws n (2^k ||| 2^p)).length) (2^firstN (2^k ||| 2^p)) (uniL ws n (2^k ||| 2^p)).length ≤ 362880 from fun h => by
    have hg' := HGB.out h
    have h1 := (part_pivots hg' (Nat.pow_lt_pow_right (a := 2) (n := 9) (by omega) hf9)).le
    have h2 := pivS_good hg'
    have h3 := (fact_few hg'.hi).2
    exact ⟨h2, by omega⟩)
  obtain ⟨s, hse⟩ : ∃ z, z = 2^k ||| 2^p := ⟨_, rfl⟩
  simp only [← hse] at HU HW2 HC1 HC2 HLV HGB HPB
  rw [← hse] at hlen hle1
  clear hgm hp1 hf9 h5 hs h0 hse
  obtain ⟨a2, ha2⟩ : ∃ z, z = 2^k := ⟨_, rfl⟩
  simp only [← ha2] at HW1 HW2
  clear ha2
  obtain ⟨P, hP⟩ : ∃ z, z = 2^firstN s := ⟨_, rfl⟩
  simp only [← hP] at HU HC2 HLV HPB
  clear hP
  obtain ⟨L, hL⟩ : ∃ z, z = uniL ws n s := ⟨_, rfl⟩
  simp only [← hL] at HU HC2 HLV HGB HPB
  rw [← hL] at hlen
  clear hL
  obtain ⟨v1, hv1⟩ : ∃ z, z = partN (pivotN q ws n) s n := ⟨_, rfl⟩
  simp only [← hv1] at HC1 HLV
  rw [← hv1] at hle1
  clear hv1
  obtain ⟨v2, hv2⟩ : ∃ z, z = partN (pivotN q L L.length) P L.length := ⟨_, rfl⟩
  simp only [← hv2] at HC2 HLV HPB
  clear hv2
  obtain ⟨f2, hf2⟩ : ∃ z, z = pivS q L L.length := ⟨_, rfl⟩
  simp only [← hf2] at HC2 HPB
  clear hf2
  obtain ⟨mm, hmm⟩ : ∃ z, z = L.length := ⟨_, rfl⟩
  simp only [← hmm] at HU HC2 HGB HPB
  rw [← hmm] at hlen
  clear hmm
  obtain ⟨F, hF⟩ : ∃ z, z = fact n := ⟨_, rfl⟩
  simp only [← hF] at HC1
  rw [← hF] at hfn
  obtain ⟨ok, hok⟩ : ∃ z, z = leadOk ws n k p := ⟨_, rfl⟩
  simp only [← hok] at HU HGB HPB
  rw [← hok]
  clear hok
  obtain ⟨qq, hqq⟩ : ∃ z, z = qIf ok q := ⟨_, rfl⟩
  obtain ⟨nn, hnn⟩ : ∃ z, z = nIf ok mm := ⟨_, rfl⟩
  obtain ⟨pp, hpp⟩ : ∃ z, z = nIf ok P := ⟨_, rfl⟩
  simp only [← hqq, ← hnn, ← hpp] at HU
  have HQQ := Lib.hid hqq
  have HNN := Lib.hid hnn
  have HPP := Lib.hid hpp
  clear hqq hnn hpp hg hk hp hne hsl hT
  go_enter Tryd.func23, Tryd.ntmps23
  go_wp2_with fail
  go_region_held3 (fun w' => w'.cell? ⟨w.heap.size, 0, none⟩ = some (.int .i64 q) ∧ w'.cell? ⟨w.heap.size, 1, none⟩ = some (.slice (some ⟨b, off, none⟩) n n))
    (first | with_reducible exact ⟨c0, c1⟩ | with_reducible exact hx.drew.cells | with_reducible exact (hx.alloc _).cells | with_reducible exact (hx.alloc _).drew.cells | go_keep)
    (first
      | (go_at_call 38; with_reducible refine (HW1.out _).mono ?_; rintro e wA ⟨rfl, rfl⟩)
      | (go_at_call 38; with_reducible refine (HW2.out _).mono ?_; rintro e wB ⟨rfl, rfl⟩)
      | fail)
  all_goals
    have g1 := (hb0.alloc hb0.size (.cells #[.int .i64 q, .slice (some ⟨b, off, none⟩) n n, .int .u64 (s : Nat)] 60)).drew
    have h8 := (Box3.new 60 (w.alloc (.cells #[.int .i64 q, .slice (some ⟨b, off, none⟩) n n] 28)) (.int .i64 q) (.slice (some ⟨b, off, none⟩) n n) (.int .u64 (s : Nat))).drew
    simp only [World.size_alloc] at h8
    obtain ⟨d0, d1, d2⟩ := h8.cells
    clear c0 c1 hx hb0
    obtain ⟨W1, hW1⟩ : ∃ z, z = ((w.alloc (.cells #[.int .i64 q, .slice (some ⟨b, off, none⟩) n n] 28)).alloc (.cells #[.int .i64 q, .slice (some ⟨b, off, none⟩) n n, .int .u64 (s : Nat)] 60)).drew := ⟨_, rfl⟩
    rw [← hW1] at g1 h8 d0 d1 d2 ⊢
    clear hW1
    cases ok with
    | false =>
      go_wp2_with (first
        | (go_at_call 39; refine (HU.out _ g1).mono ?_; rintro e w3 ⟨A', cp', rfl, hheld, hb3⟩)
        | fail)
      go_ret2
      exact ⟨rfl, (bfrom g1 hb3).alloc (bfrom g1 hb3).size _⟩
    | true =>
      have e1 : qq = q := HQQ.out
      have e2 : nn = mm := HNN.out
      have e3 : pp = P := HPP.out
      subst e1 e2 e3
      obtain ⟨hp2, hv2⟩ := HPB.out rfl
      have hg2 := HGB.out rfl
      have hpos := (fact_few (n := nn) (by omega)).1
      have hF2 : F = f2 * n := by rw [hp2, hF, ← hlen]; rfl
      have hz2 : ((f2 : Int) == 0) = false := by simp; omega
      have hz3 : ¬ (f2 : Int) = 0 := by omega
      have hq : (F : Int) / (f2 : Int) = (n : Int) := by
        rw [hF2]; push_cast
        exact Int.mul_ediv_cancel_left _ (by omega)
      have hqt : Int.tdiv (F : Int) (f2 : Int) = (n : Int) := by
        rw [hF2]; push_cast
        exact Int.mul_tdiv_cancel_left _ (by omega)
      have hmul : v2 * n ≤ 362880 * 9 := Nat.mul_le_mul hv2 hn9
      have hcast : (v2 : Int) * (n : Int) = ((v2 * n : Nat) : Int) := by simp
      obtain ⟨y, hy⟩ : ∃ z, z = v2 * n := ⟨_, rfl⟩
      rw [← hy] at hmul hcast
      have HLV2 := Lib.hid (show leadV qq ws n k p = (y : Int) - (v1 : Int) from by rw [HLV.out, hcast])
      have HWR := Lib.hid (show wrap64 (wrap64 ((v2 : Int) * wrap64 ((fact n : Nat) / (f2 : Int))) - (v1 : Int)) = leadV qq ws n k p from by
        rw [← hF, hq, IntWalk.wrap64_in (n : Int) (by omega), hcast, IntWalk.wrap64_in (y : Int) (by omega), IntWalk.wrap64_in _ (by omega), HLV2.out])
      clear hy hF2 hpos hp2
      go_wp2_with (first
        | (go_at_call 39; refine (HU.out _ g1).mono ?_; rintro e w3 ⟨A', cp', rfl, hheld, hb3⟩; have HH := Lib.hid (heldQ_known hheld); clear hheld; have h83 := (h8.now hb3).alloc (.cells #[.int .i64 qq, .slice A' nn cp', .int .u64 (pp : Nat)] 60); have h93 := Box3.new 60 w3 (.int .i64 qq) (.slice A' nn cp') (.int .u64 (pp : Nat)); obtain ⟨k0, k1, k2⟩ := h83.cells; have g3 := bfrom g1 hb3; have g3' := g3.alloc g3.size (.cells #[.int .i64 qq, .slice A' nn cp', .int .u64 (pp : Nat)] 60))
        | (go_at_call 40; with_reducible refine (HC1.out _ g3').mono ?_; rintro e w4 ⟨rfl, hb4⟩; obtain ⟨l0, l1, l2⟩ := (h93.now hb4).cells; have HH4 := Lib.hid ((HH.out.now (below1 w3 _)).now hb4))
        | (go_at_call 40; refine (HC2.out A' cp' _ hg2 HH4.out).mono ?_; rintro e w5 ⟨rfl, hb5⟩)
        | fail)
      all_goals
        go_ret2
        exact ⟨by rw [HWR.out]; first | rfl | simp, bfrom (bfrom g3' hb4) hb5⟩

end Go.Proofs.YtgilbenbaefgfabDoor

namespace Go.Proofs.YtgilbenbaefgfabDoor
open Go.RowKit Vo

def bpOk (ws : List Int) (n k j : Nat) : Bool := decide (j ≠ k) && leadOk ws n k j
def bpL (q : Int) (ws : List Int) (n : Nat) (x : Int) : List Int := if memOk q ws n x then (boS (bpOk ws n x.toNat) (fun j => leadV q ws n x.toNat j) n).1 else []
def bpT (q : Int) (ws : List Int) (n : Nat) (x : Int) : Bool := decide (0 < (bpL q ws n x).length)

set_option maxRecDepth 20000 in
set_option maxHeartbeats 2000000 in
theorem bp1_any (q : Int) (b off n k j g g2 : Nat) (ws : List Int) (w : World) (hg : Vo.Good q ws n) (hk : k < n) (hj : j < n) (hi : BoxI w g (.int .i64 k)) (hx : Box w g2 (.int .i64 q) (.slice (some ⟨b, off, none⟩) n n)) (hsl : Sl w b off n ws) (hT : Tab w) :
    Calls Tryd.prog 22 #[.int .i64 j, .pointer (some ⟨g, 0, none⟩), .pointer (some ⟨g2, 0, none⟩)] w fun e w' => e = .returned (.tuple #[.int .i64 (if bpOk ws n k j then leadV q ws n k j else 0), .bool (bpOk ws n k j)]) ∧ Below w.heap.size w w' := by
  have hci := Box1.cell (t := 3) hi
  obtain ⟨c0, c1⟩ := hx.cells
  by_cases e : j = k
  · have HB := Lib.hid (show bpOk ws n k j = false from by unfold bpOk; rw [decide_eq_false (by simpa using e)]; rfl)
    rw [HB.out]
    subst e
    go_enter Tryd.func22, Tryd.ntmps22
    go_wp2
    go_ret2
    exact ⟨rfl, Below.refl _ _⟩
  · have HB := Lib.hid (show bpOk ws n k j = leadOk ws n k j from by unfold bpOk; rw [decide_eq_true e]; rfl)
    rw [HB.out]
    have hjk : ((j : Int) == (k : Int)) = false := by simp; omega
    have hjk2 : ¬ (j : Int) = (k : Int) := by omega
    have HL := Lib.hid (partnerLead_any q b off n k j ws w hg hk hj (by omega) hsl hT)
    obtain ⟨V, hV⟩ : ∃ z, z = (if leadOk ws n k j then leadV q ws n k j else 0) := ⟨_, rfl⟩
    obtain ⟨o, ho⟩ : ∃ z, z = leadOk ws n k j := ⟨_, rfl⟩
    simp only [← hV] at HL
    simp only [← ho] at HL
    rw [← hV, ← ho]
    clear e hV ho
    go_enter Tryd.func22, Tryd.ntmps22
    go_wp2_with (first
      | (go_at_call 23; refine HL.out.mono ?_; rintro e w1 ⟨rfl, hb1⟩)
      | fail)
    go_ret2
    exact ⟨rfl, hb1⟩

set_option maxRecDepth 20000 in
set_option maxHeartbeats 4000000 in
theorem bestPartners_any (q : Int) (A : Option Addr) (n : Nat) (ws : List Int) (x : Int) (w : World) (hm : n ≤ 9223372036854775807) (hk : Known w A n ws) (hxw : (Lit.int .i64 x).wf = true) (hT : Tab w) :
    Calls Tryd.prog 7 #[.agg #[.int .i64 q, .slice A n n], .int .i64 x] w fun e w' => PairAt (bpL q ws n x) (bpT q ws n x) w w' e := by
  have hb0 : Below w.heap.size w ((w.alloc (.cells #[.int .i64 q, .slice A n n] 28)).alloc (.cells #[.int .i64 x] 3)) := (below1 w _).alloc (by simp) _
  have hx := (Box.new w (.int .i64 q) (.slice A n n)).alloc (.cells #[.int .i64 x] 3)
  have hi := BoxI.new (w.alloc (.cells #[.int .i64 q, .slice A n n] 28)) (.int .i64 x)
  simp only [World.size_alloc] at hi
  have HHM := Lib.hid (hasMember_any q A n n ws x _ hm (hk.now hb0))
  obtain ⟨c0, c1⟩ := hx.cells
  have hci := Box1.cell (t := 3) hi
  cases hM : memOk q ws n x with
  | false =>
    have HM := Lib.hid hM
    have HL := Lib.hid (show bpL q ws n x = [] from by unfold bpL; rw [hM]; rfl)
    have HTT := Lib.hid (show bpT q ws n x = false from by unfold bpT; rw [HL.out]; rfl)
    clear hM hk
    rw [HL.out, HTT.out]
    go_enter Tryd.func7, Tryd.ntmps7
    go_wp2_with fail
    refine HHM.out.mono ?_
    rintro e w1 ⟨rfl, hb1⟩
    rw [HM.out]
    go_wp2
    go_ret2
    exact ⟨none, 0, rfl, World.ownsRow_nil _ _ _ _, bfrom hb0 hb1⟩
  | true =>
    have HM := Lib.hid hM
    obtain ⟨hg, hx0, hxn⟩ := memOk_parts hM
    obtain ⟨k, rfl⟩ : ∃ k : Nat, x = (k : Int) := ⟨x.toNat, by omega⟩
    have hkn : k < n := by omega
    have hn9 := hg.hi
    have HBL := Lib.hid (show bpL q ws n (k : Int) = (boS (bpOk ws n k) (fun j => leadV q ws n k j) n).1 from by unfold bpL; rw [hM, Int.toNat_natCast]; rfl)
    have HBT := Lib.hid (show bpT q ws n (k : Int) = decide (0 < (bpL q ws n (k : Int)).length) from rfl)
    rw [HBT.out, HBL.out]
    obtain ⟨b, off, rfl, hsl⟩ := hk.get hg.lo
    have HVO := Lib.hid (fun W (hb : Below ((w.alloc (.cells #[.int .i64 q, .slice (some ⟨b, off, none⟩) n n] 28)).alloc (.cells #[.int .i64 (k : Int)] 3)).heap.size ((w.alloc (.cells #[.int .i64 q, .slice (some ⟨b, off, none⟩) n n] 28)).alloc (.cells #[.int .i64 (k : Int)] 3)) W) => bestOfO_any (bpOk ws n k) (fun j => leadV q ws n k j) (n-1) 22 #[.pointer (some ⟨w.heap.size + 1, 0, none⟩), .pointer (some ⟨w.heap.size, 0, none⟩)] W (by omega)
      ⟨enters_of Tryd.func22 (by kernel_rfl) rfl, fun W' j hj hb' => bp1_any q b off n k j (w.heap.size + 1) w.heap.size ws W' hg hkn (by omega) ((hi.now hb).now hb') ((hx.now hb).now hb') (((hsl.now hb0).now hb).now hb') (((hT.now hb0).now hb).now hb')⟩)
    have hnn : n - 1 + 1 = n := by omega
    rw [hnn] at HVO
    simp only [IntsAt] at HVO
    obtain ⟨L, hL⟩ : ∃ z, z = (boS (bpOk ws n k) (fun j => leadV q ws n k j) n).1 := ⟨_, rfl⟩
    simp only [← hL] at HVO
    rw [← hL]
    clear hL hnn hsl hk hT hM
    have hc1 : ((n : Int) - 1) = ((n - 1 : Nat) : Int) := by omega
    rw [← hc1] at HVO
    clear hc1
    obtain ⟨ln, hln⟩ : ∃ z, z = L.length := ⟨_, rfl⟩
    simp only [← hln] at HVO
    have HLN := Lib.hid hln
    clear hln
    have hx1 := hx
    go_enter Tryd.func7, Tryd.ntmps7
    go_wp2_with fail
    refine HHM.out.mono ?_
    rintro e w1 ⟨rfl, hb1⟩
    rw [HM.out]
    obtain ⟨d0, d1⟩ := (hx1.now hb1).cells
    go_wp2_with (first
      | (go_at_call 25; refine (members_any _ _ n n _).mono ?_; rintro e w2 ⟨rfl, hb2⟩)
      | (go_at_call 24; refine (HVO.out _ (bfrom hb1 hb2)).mono ?_; rintro e w3 ⟨B, cB, rfl, hown, hb3⟩; have HO := Lib.hid hown; clear hown)
      | fail)
    have g2 := bfrom (bfrom hb0 hb1) hb2
    go_ret2
    refine ⟨B, cB, ?_, by rw [← HLN.out]; exact owns_less HO.out g2.size, bfrom g2 hb3⟩
    rw [← HLN.out]
    simp
