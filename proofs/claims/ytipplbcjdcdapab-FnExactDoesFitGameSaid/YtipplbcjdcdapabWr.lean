/- Contracts of QuotaOfGame: the program's and the model's. -/
import Derived.Test.YtipplbcjdcdapabWi
import Derived.Test.YtipplbcjdcdapabWq
import Derived.Test.YtipplbcjdcdapabJb
import Derived.Test.YtipplbcjdcdapabJ2
import Derived.Test.YtipplbcjdcdapabI6
namespace Go.Proofs.Ytipplbcjdcdapab
open Go.RowKit Vo

theorem sets_ne {q : Nat} {L : List (List Int)} (hq : q ≤ 9) (hr : rowsB q L = true) : ∀ s ∈ setsN L, s ≠ 0 := fun s hs e => by
  obtain ⟨l, hl, rfl⟩ : ∃ l ∈ L, ofK l l.length = s := by
    unfold setsN at hs
    obtain ⟨l, hl, e⟩ := List.mem_map.1 hs
    exact ⟨l, hl, e⟩
  have hm := setsN_mem hq hr
  have h0 := (rowsB_row hr hl).1
  have : mem (ofK l l.length) 9 ∈ L := by
    rw [← hm]
    exact List.mem_map.2 ⟨_, List.mem_map.2 ⟨l, hl, rfl⟩, rfl⟩
  have hne := (rowsB_row hr this).1
  rw [e] at hne
  exact hne (by rw [mem_zero]; rfl)
theorem winS_mem {S : List Nat} {s : Nat} : winS S s = true ↔ ∃ t ∈ S, s &&& t = t := by
  unfold winS; rw [List.any_eq_true]
  constructor
  · rintro ⟨t, h, h2⟩; exact ⟨t, h, partB_iff.1 h2⟩
  · rintro ⟨t, h, h2⟩; exact ⟨t, h, partB_iff.2 h2⟩
theorem winS_nil {S : List Nat} (h0 : ∀ s ∈ S, s ≠ 0) : winS S 0 = false := by
  cases h : winS S 0
  · rfl
  · obtain ⟨t, ht, h1⟩ := winS_mem.1 h
    rw [Nat.zero_and] at h1
    exact absurd h1.symm (h0 t ht)
theorem winS_full {S : List Nat} {n : Nat} (hS : ∀ s ∈ S, s < 2^n) (hne : S ≠ []) : winS S (2^n - 1) = true := by
  obtain ⟨t, ht⟩ := List.exists_mem_of_ne_nil _ hne
  refine winS_mem.2 ⟨t, ht, ?_⟩
  rw [Nat.and_comm, Nat.and_two_pow_sub_one_eq_mod, Nat.mod_eq_of_lt (hS t ht)]

/-- What QuotaOfGame answers. -/
def qogOk (m : Int) (L : List (List Int)) (xs : List Int) (k : Nat) : Bool := goodG m L && decide ((k : Int) = m) && numsB 0 1000 xs k && quoOk (lowS (winS (setsN L)) xs k) (highS (winS (setsN L)) xs k)
def qogV (m : Int) (L : List (List Int)) (xs : List Int) (k : Nat) : Int := if qogOk m L xs k then highS (winS (setsN L)) xs k + 1 else 0
theorem qogV_no {m L xs k} (h : qogOk m L xs k = false) : qogV m L xs k = 0 := if_neg (by rw [h]; simp)
theorem qogOk_bad {m L xs k} (h : goodG m L = false) : qogOk m L xs k = false := by unfold qogOk; rw [h]; rfl
theorem qogOk_len {m : Int} {L} {xs : List Int} {k : Nat} (h : ¬ (k : Int) = m) : qogOk m L xs k = false := by unfold qogOk; rw [decide_eq_false h]; simp
theorem qogOk_num {m : Int} {L} {xs : List Int} {k : Nat} (h : numsB 0 1000 xs k = false) : qogOk m L xs k = false := by unfold qogOk; rw [h]; simp
theorem qogOk_yes {L} {xs : List Int} {k : Nat} (hg : goodG (k : Int) L = true) (h : numsB 0 1000 xs k = true) : qogOk (k : Int) L xs k = quoOk (lowS (winS (setsN L)) xs k) (highS (winS (setsN L)) xs k) := by unfold qogOk; rw [hg, h, decide_eq_true rfl]; rfl
theorem qogV_yes {L} {xs : List Int} {k : Nat} (hg : goodG (k : Int) L = true) (h : numsB 0 1000 xs k = true) : qogV (k : Int) L xs k = quoQ (lowS (winS (setsN L)) xs k) (highS (winS (setsN L)) xs k) := by
  unfold qogV; rw [qogOk_yes hg h]; unfold quoOk quoQ
  by_cases hle : lowS (winS (setsN L)) xs k ≤ highS (winS (setsN L)) xs k
  · rw [if_pos hle, decide_eq_true hle]; rfl
  · rw [if_neg hle, decide_eq_false hle]; rfl

set_option maxHeartbeats 1000000 in
theorem everybodyG_any (v : Value) (n : Nat) (w : World) (hn : n < 10) :
    Calls Try.prog 157 #[.agg #[.int .i64 n, v]] w fun e w' => e = .returned (.int .u64 ((2^n - 1 : Nat) : Int)) ∧ Below w.heap.size w w' := by
  have hb0 := below1 w (.cells #[.int .i64 n, v] 56)
  obtain ⟨c0, c1⟩ := (BoxT.new 56 w (.int .i64 n) v).cells
  go_enter Try.func157, Try.ntmps157
  go_wp2_with (go_at_call 59; refine (allMembers_any _ _ hn).mono ?_; rintro e w2 ⟨rfl, rfl⟩)
  go_ret
  exact ⟨rfl, hb0⟩

theorem gameRule (S : List Nat) (base k cap n : Nat) (A : Option Addr) (w : World) (hn : n < 10) (hk : k = S.length) (hs : k ≤ 1048576) (hS : ∀ t ∈ S, t < 512) (h1 : w.ownsRow base 60 1 (.slice A k cap) k (setsV S)) :
    Rule (winS S) n 56 (.agg #[.int .i64 n, .slice A k cap]) 157 159 w :=
  ⟨⟨enters_of Try.func159 (by kernel_rfl) rfl, fun _ => by kernel_rfl, fun W s h hb => gWins_any S n s base k cap A W hk hs hS (by have := pow_lt (n := n) (by omega); omega) (owns_now h1 hb)⟩,
    enters_of Try.func157 (by kernel_rfl) rfl, fun _ => by kernel_rfl, fun W _ => everybodyG_any _ n W hn⟩

end Go.Proofs.Ytipplbcjdcdapab
