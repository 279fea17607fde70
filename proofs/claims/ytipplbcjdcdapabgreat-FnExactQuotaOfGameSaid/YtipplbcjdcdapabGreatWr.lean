/- Contracts of QuotaOfGame: the program's and the model's. -/
import Derived.Test.YtipplbcjdcdapabGreatWi
import Derived.Test.YtipplbcjdcdapabGreatWq
import Derived.Test.YtipplbcjdcdapabGreatJb
import Derived.Test.YtipplbcjdcdapabGreatJ2
import Derived.Test.YtipplbcjdcdapabGreatI6
namespace Go.Proofs.YtipplbcjdcdapabGreat
open Go.RowKit Vo

theorem sets_ne {q : Nat} {L : List (List Int)} (hq : q ≤ 9) (hr : rowsB q L = true) : ∀ s ∈ setsN L, s ≠ 0 := fun s hs e => by
  obtain ⟨l, hl, rfl⟩ : ∃ l ∈ L, ofK l l.length = s := by
    unfold setsN at hs
    obtain ⟨l, hl, e⟩ := List.mem_map.1 hs
    exact ⟨l, hl, e⟩
  have hm := setsN_mem hq hr
  have h0 := (rowsB_row hr hl).1
  have : mem (ofK l l.length) 9 ∈ L := by
    rw [← hm]
    exact List.mem_map.2 ⟨_, List.mem_map.2 ⟨l, hl, rfl⟩, rfl⟩
  have hne := (rowsB_row hr this).1
  rw [e] at hne
  exact hne (by rw [mem_zero]; rfl)
theorem winS_mem {S : List Nat} {s : Nat} : winS S s = true ↔ ∃ t ∈ S, s &&& t = t := by
  unfold winS; rw [List.any_eq_true]
  constructor
  · rintro ⟨t, h, h2⟩; exact ⟨t, h, partB_iff.1 h2⟩
  · rintro ⟨t, h, h2⟩; exact ⟨t, h, partB_iff.2 h2⟩
theorem winS_nil {S : List Nat} (h0 : ∀ s ∈ S, s ≠ 0) : winS S 0 = false := by
  cases h : winS S 0
  · rfl
  · obtain ⟨t, ht, h1⟩ := winS_mem.1 h
    rw [Nat.zero_and] at h1
    exact absurd h1.symm (h0 t ht)
theorem winS_full {S : List Nat} {n : Nat} (hS : ∀ s ∈ S, s < 2^n) (hne : S ≠ []) : winS S (2^n - 1) = true := by
  obtain ⟨t, ht⟩ := List.exists_mem_of_ne_nil _ hne
  refine winS_mem.2 ⟨t, ht, ?_⟩
  rw [Nat.and_comm, Nat.and_two_pow_sub_one_eq_mod, Nat.mod_eq_of_lt (hS t ht)]

/-- What QuotaOfGame answers. -/
def qogOk (m : Int) (L : List (List Int)) (xs : List Int) (k : Nat) : Bool := goodG m L && decide ((k : Int) = m) && numsB 0 1000 xs k && quoOk (lowS (winS (setsN L)) xs k) (highS (winS (setsN L)) xs k)
def qogV (m : Int) (L : List (List Int)) (xs : List Int) (k : Nat) : Int := if qogOk m L xs k then highS (winS (setsN L)) xs k + 1 else 0
theorem qogV_no {m L xs k} (h : qogOk m L xs k = false) : qogV m L xs k = 0 := if_neg (by rw [h]; simp)
theorem qogOk_bad {m L xs k} (h : goodG m L = false) : qogOk m L xs k = false := by unfold qogOk; rw [h]; rfl
theorem qogOk_len {m : Int} {L} {xs : List Int} {k : Nat} (h : ¬ (k : Int) = m) : qogOk m L xs k = false := by unfold qogOk; rw [decide_eq_false h]; simp
theorem qogOk_num {m : Int} {L} {xs : List Int} {k : Nat} (h : numsB 0 1000 xs k = false) : qogOk m L xs k = false := by unfold qogOk; rw [h]; simp
theorem qogOk_yes {L} {xs : List Int} {k : Nat} (hg : goodG (k : Int) L = true) (h : numsB 0 1000 xs k = true) : qogOk (k : Int) L xs k = quoOk (lowS (winS (setsN L)) xs k) (highS (winS (setsN L)) xs k) := by unfold qogOk; rw [hg, h, decide_eq_true rfl]; rfl
theorem qogV_yes {L} {xs : List Int} {k : Nat} (hg : goodG (k : Int) L = true) (h : numsB 0 1000 xs k = true) : qogV (k : Int) L xs k = quoQ (lowS (winS (setsN L)) xs k) (highS (winS (setsN L)) xs k) := by
  unfold qogV; rw [qogOk_yes hg h]; unfold quoOk quoQ
  by_cases hle : lowS (winS (setsN L)) xs k ≤ highS (winS (setsN L)) xs k
  · rw [if_pos hle, decide_eq_true hle]; rfl
  · rw [if_neg hle, decide_eq_false hle]; rfl

set_option maxHeartbeats 1000000 in
theorem everybodyG_any (v : Value) (n : Nat) (w : World) (hn : n < 10) :
    Calls Tryz.prog 107 #[.agg #[.int .i64 n, v]] w fun e w' => e = .returned (.int .u64 ((2^n - 1 : Nat) : Int)) ∧ Below w.heap.size w w' := by
  have hb0 := below1 w (.cells #[.int .i64 n, v] 45)
  obtain ⟨c0, c1⟩ := (BoxT.new 45 w (.int .i64 n) v).cells
  go_enter Tryz.func107, Tryz.ntmps107
  go_wp2_with (go_at_call 110; refine (allMembers_any _ _ hn).mono ?_; rintro e w2 ⟨rfl, rfl⟩)
  go_ret
  exact ⟨rfl, hb0⟩

theorem gameRule (S : List Nat) (base k cap n : Nat) (A : Option Addr) (w : World) (hn : n < 10) (hk : k = S.length) (hs : k ≤ 1048576) (hS : ∀ t ∈ S, t < 512) (h1 : w.ownsRow base 66 1 (.slice A k cap) k (setsV S)) :
    Rule (winS S) n 45 (.agg #[.int .i64 n, .slice A k cap]) 107 109 w :=
  ⟨⟨enters_of Tryz.func109 (by kernel_rfl) rfl, fun _ => by kernel_rfl, fun W s h hb => gWins_any S n s base k cap A W hk hs hS (by have := pow_lt (n := n) (by omega); omega) (owns_now h1 hb)⟩,
    enters_of Tryz.func107 (by kernel_rfl) rfl, fun _ => by kernel_rfl, fun W _ => everybodyG_any _ n W hn⟩

set_option maxRecDepth 20000 in
set_option maxHeartbeats 4000000 in
theorem iQuotaOfGame_any (m : Int) (A : Option Addr) (n cap : Nat) (L : List (List Int)) (b2 off2 k cap2 : Nat) (xs : List Int) (w : World) (hl : n ≤ 1048576) (hk : Lists w A n L) (hm2 : k ≤ 9223372036854775807) (hs : Sl w b2 off2 k xs) :
    Calls Tryz.prog 8 #[.agg #[.int .i64 m, .slice A n cap], .slice (some ⟨b2, off2, none⟩) k cap2] w fun e w' => e = .returned (.tuple #[.int .i64 (qogV m L xs k), .bool (qogOk m L xs k)]) ∧ Below w.heap.size w w' := by
  have HK := Lib.hid (hk.now (below1 w (.cells #[.int .i64 m, .slice A n cap] 29)))
  have HLEN := Lib.hid hk.1
  have HS := Lib.hid hs
  clear hk hs
  have hx := BoxT.new 29 w (.int .i64 m) (.slice A n cap)
  have hb0 := below1 w (.cells #[.int .i64 m, .slice A n cap] 29)
  obtain ⟨c0, c1⟩ := hx.cells
  go_enter Tryz.func8, Tryz.ntmps8
  go_wp2_with fail
  refine (readGame_any m A n cap L _ hl HK.out).mono ?_
  rintro e w1 ⟨hb1, h⟩
  have g1 := bfrom hb0 hb1
  clear c0 c1
  rcases h with ⟨hg, B, cp, rfl, hown⟩ | ⟨hg, rfl⟩
  · obtain ⟨h1, h9, hne, hr, hself⟩ := goodG_parts hg
    clear hself
    obtain ⟨q, rfl⟩ : ∃ q : Nat, m = q := ⟨m.toNat, by omega⟩
    rw [Int.toNat_natCast] at hr
    have hq9 : q ≤ 9 := by omega
    have hq10 : q < 10 := by omega
    have h512 := pow_lt hq9
    rw [HLEN.out] at hown ⊢
    have HSN := Lib.hid (show n = (setsN L).length from by rw [← HLEN.out]; simp [setsN])
    have b2' := below1 w1 (.cells #[.int .i64 q, .slice B n cp] 45)
    have hy := BoxT.new 45 w1 (.int .i64 q) (.slice B n cp)
    obtain ⟨d0, d1⟩ := hy.cells
    have HSL := Lib.hid (HS.out.now (bfrom g1 b2'))
    have HRU := Lib.hid (gameRule (setsN L) _ n cp q B _ hq10 HSN.out hl (setsN_512 hq9 hr) (owns_now hown b2'))
    have HFULL := Lib.hid (winS_full (setsN_lt hq9 hr) (show setsN L ≠ [] from fun e => hne (by unfold setsN at e; exact List.map_eq_nil_iff.1 e)))
    have g2 := bfrom g1 b2'
    by_cases hkq : k = q
    · subst hkq
      have hk1 : 1 ≤ k := by omega
      have hne2 : ((k : Int) != (k : Int)) = false := by simp
      cases hnum : numsB 0 1000 xs k with
      | true =>
        have HOKV := Lib.hid (qogOk_yes hg hnum)
        have HV := Lib.hid (qogV_yes hg hnum)
        have HNUM := Lib.hid hnum
        have HIN := Lib.hid (numsB_parts hnum).2.2
        have hpos := Nat.two_pow_pos k
        have HWL := Lib.hid (winL_pos (p := winS (setsN L)) hq9 (s := 2^k - 1) (by omega) HFULL.out)
        obtain ⟨w2, hw2⟩ : ∃ w2, w2 = w1.alloc (.cells #[.int .i64 k, .slice B n cp] 45) := ⟨_, rfl⟩
        rw [← hw2] at HSL HRU g2
        have HW2 := Lib.hid hw2
        clear hown hg hr hnum hw2 hpos
        rw [HW2.out] at HSL HRU g2
        go_wp2_with (go_at_call 19; refine (areNumbers_in b2 off2 k cap2 0 1000 xs _ hk1 hq9 HSL.out).mono ?_; rintro e w3 ⟨rfl, rfl⟩; rw [HNUM.out])
        refine (borderOf_any (winS (setsN L)) k 45 _ _ _ _ hq10 HRU.out).mono ?_
        rintro e w4 ⟨A2, c12, B2, c22, rfl, hA2, hcc, hB2, hb4⟩
        have g4 := bfrom g2 hb4
        have HSL4 := Lib.hid (HSL.out.now hb4)
        have HCC := Lib.hid (hcc HWL.out)
        have HA4 := Lib.hid hA2
        have HB4 := Lib.hid hB2
        clear hA2 hB2 hcc hb4 d0 d1
        go_wp2_with (go_at_call 20; refine (quotaFor_any (winS (setsN L)) b2 off2 k cap2 xs A2 B2 c12 c22 w4 hq10 HIN.out HSL4.out HWL.out HA4.out HCC.out HB4.out).mono ?_; rintro e w5 ⟨rfl, hb5⟩)
        go_ret2
        exact ⟨by rw [HV.out, HOKV.out]; rfl, bfrom g4 hb5⟩
      | false =>
        have HOKV := Lib.hid (qogOk_num (m := (k : Int)) (L := L) hnum)
        have HNUM := Lib.hid hnum
        clear hown hg hr hnum
        go_wp2_with (go_at_call 19; refine (areNumbers_in b2 off2 k cap2 0 1000 xs _ hk1 hq9 HSL.out).mono ?_; rintro e w3 ⟨rfl, rfl⟩; rw [HNUM.out])
        go_ret2
        exact ⟨by rw [qogV_no HOKV.out, HOKV.out]; rfl, g2⟩
    · have hne2 : ((k : Int) != (q : Int)) = true := by simp; omega
      have HOKV := Lib.hid (qogOk_len (m := (q : Int)) (L := L) (xs := xs) (k := k) (by omega))
      clear hown hg hr
      go_wp2
      go_ret2
      exact ⟨by rw [qogV_no HOKV.out, HOKV.out]; rfl, g2⟩
  · have HOT := Lib.hid (qogOk_bad (xs := xs) (k := k) hg)
    clear hg
    go_wp2
    go_ret2
    exact ⟨by rw [qogV_no HOT.out, HOT.out]; rfl, g1.alloc g1.size _⟩
end Go.Proofs.YtipplbcjdcdapabGreat
