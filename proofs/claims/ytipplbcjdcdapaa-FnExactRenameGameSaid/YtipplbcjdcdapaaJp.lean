/- The program's RenameGame. -/
import Derived.Test.YtipplbcjdcdapaaJj
import Derived.Outline
import Derived.Deep.OwnRows
import Derived.Test.YtipplbcjdcdapaaJd
import Derived.Test.YtipplbcjdcdapaaT12
namespace Go.Proofs.Ytipplbcjdcdapaa
open Go.RowKit Vo

/-- The places below m of an order at which members of s stand. -/
def preN (xs : List Int) (s : Nat) : Nat → Nat
  | 0 => 0
  | m+1 => if s.testBit (xs.getD m 0).toNat then preN xs s m ||| 2^m else preN xs s m
/-- The members at the places in b. -/
def atN (xs : List Int) (b n : Nat) : List Int := (mem b n).map fun i => xs.getD i.toNat 0
def imgN (xs : List Int) (b n : Nat) : Nat := ofK (atN xs b n) (atN xs b n).length

theorem bit_pre (xs : List Int) (s m i : Nat) : (preN xs s m).testBit i = (decide (i < m) && s.testBit (xs.getD i 0).toNat) := by
  induction m with
  | zero => simp [preN]
  | succ m ih =>
    have e1 : preN xs s (m+1) = if s.testBit (xs.getD m 0).toNat then preN xs s m ||| 2^m else preN xs s m := rfl
    rw [e1]
    by_cases e : i = m
    · subst e
      cases hb : s.testBit (xs.getD i 0).toNat
      · rw [if_neg (by simp), ih, hb]; simp
      · rw [if_pos rfl, Nat.testBit_or, ih, Nat.testBit_two_pow_self]; simp
    · have hd : decide (i < m + 1) = decide (i < m) := by rw [decide_eq_decide]; omega
      rw [hd]
      cases hb : s.testBit (xs.getD m 0).toNat
      · rw [if_neg (by simp)]; exact ih
      · rw [if_pos rfl, Nat.testBit_or, ih, Nat.testBit_two_pow, decide_eq_false (Ne.symm e), Bool.or_false]
theorem pre_lt (xs : List Int) (s m : Nat) : preN xs s m < 2^m := Nat.lt_pow_two_of_testBit _ fun i hi => by rw [bit_pre, decide_eq_false (by omega)]; rfl
theorem hasK_iff {xs : List Int} {z : Int} {m : Nat} : hasK xs z m = true ↔ ∃ k, k < m ∧ xs.getD k 0 = z := by
  constructor
  · induction m with
    | zero => intro h; simp [hasK] at h
    | succ m ih =>
      intro h
      simp only [hasK, Bool.or_eq_true, decide_eq_true_eq] at h
      rcases h with h | h
      · obtain ⟨k, h1, h2⟩ := ih h; exact ⟨k, by omega, h2⟩
      · exact ⟨m, by omega, h⟩
  · rintro ⟨k, h1, h2⟩; exact hasK_yes h1 h2
theorem mem_whole {s : Nat} : ∀ {n : Nat}, (mem s n).length = n → ∀ z, z < n → s.testBit z = true
  | 0, _, z, hz => by omega
  | n+1, h, z, hz => by
    have hl := mem_len s n
    rw [mem, List.length_append] at h
    by_cases hb : s.testBit n = true
    · rw [if_pos hb] at h
      by_cases e : z = n
      · subst e; exact hb
      · exact mem_whole (n := n) (by simpa using h) z (by omega)
    · rw [if_neg hb] at h
      simp at h; omega

/-- An order of n members. -/
structure Perm9 (n : Nat) (xs : List Int) : Prop where
  rng : InK 0 ((n : Int) - 1) xs n
  once : onceK xs n = true
theorem orderB_perm {n : Nat} {xs : List Int} {m : Nat} (h : orderB n xs m = true) : m = n ∧ Perm9 n xs := by
  unfold orderB at h
  simp only [Bool.and_eq_true, decide_eq_true_eq] at h
  obtain ⟨rfl, h1, h2⟩ := h
  unfold allB at h1
  exact ⟨rfl, ⟨of_decide_eq_true h1, h2⟩⟩
theorem Perm9.inj {n : Nat} {xs : List Int} (h : Perm9 n xs) {i j : Nat} (hi : i < n) (hj : j < n) (e : xs.getD i 0 = xs.getD j 0) : i = j := by
  rcases Nat.lt_trichotomy i j with h1 | h1 | h1
  · have h2 := onceK_at h.once hj
    rw [hasK_yes h1 e] at h2; cases h2
  · exact h1
  · have h2 := onceK_at h.once hi
    rw [hasK_yes h1 e.symm] at h2; cases h2
theorem Perm9.surj {n : Nat} {xs : List Int} (h : Perm9 n xs) {z : Nat} (hz : z < n) : ∃ i, i < n ∧ xs.getD i 0 = (z : Int) := by
  have h1 := mem_whole (ofK_len h.rng h.once (Nat.le_refl n)) z hz
  rw [ofK_has h.rng] at h1
  exact hasK_iff.1 h1
theorem Perm9.at {n : Nat} {xs : List Int} (h : Perm9 n xs) {i : Nat} (hi : i < n) : ∃ z : Nat, xs.getD i 0 = z ∧ z < n := by
  have := h.rng i hi
  exact ⟨(xs.getD i 0).toNat, by omega, by omega⟩

theorem atN_in {n : Nat} {xs : List Int} (h : Perm9 n xs) (b : Nat) : InK 0 ((n : Int) - 1) (atN xs b n) (atN xs b n).length := fun j hj => by
  have h1 : (atN xs b n).getD j 0 ∈ atN xs b n := by rw [List.getD_eq_getElem?_getD, List.getElem?_eq_getElem hj]; exact List.getElem_mem hj
  generalize (atN xs b n).getD j 0 = y at h1
  obtain ⟨i, hi, rfl⟩ := List.mem_map.1 h1
  obtain ⟨k, hk, rfl, _⟩ := mem_iff.1 hi
  exact h.rng k hk
theorem bit_img {n : Nat} {xs : List Int} (h : Perm9 n xs) (b z : Nat) : (imgN xs b n).testBit z = true ↔ ∃ i, i < n ∧ b.testBit i = true ∧ xs.getD i 0 = (z : Int) := by
  unfold imgN
  rw [ofK_has (atN_in h b), hasK_iff]
  constructor
  · rintro ⟨k, hk, e⟩
    have h1 : (atN xs b n).getD k 0 ∈ atN xs b n := by rw [List.getD_eq_getElem?_getD, List.getElem?_eq_getElem hk]; exact List.getElem_mem hk
    rw [e] at h1
    obtain ⟨i, hi, e2⟩ := List.mem_map.1 h1
    obtain ⟨j, hj, rfl, hb⟩ := mem_iff.1 hi
    exact ⟨j, hj, hb, e2⟩
  · rintro ⟨i, hi, hb, e⟩
    have h1 : (z : Int) ∈ atN xs b n := List.mem_map.2 ⟨(i : Int), mem_iff.2 ⟨i, hi, rfl, hb⟩, e⟩
    obtain ⟨k, hk, e2⟩ := List.mem_iff_getElem.1 h1
    exact ⟨k, hk, by rw [List.getD_eq_getElem?_getD, List.getElem?_eq_getElem hk]; exact e2⟩
theorem img_lt {n : Nat} {xs : List Int} (h : Perm9 n xs) (b : Nat) : imgN xs b n < 2^n := Nat.lt_pow_two_of_testBit _ fun z hz => by
  cases hb : (imgN xs b n).testBit z
  · rfl
  · obtain ⟨i, hi, _, e⟩ := (bit_img h b z).1 hb
    obtain ⟨k, e2, hk⟩ := h.at hi
    omega
theorem below_bit {s n z : Nat} (hs : s < 2^n) (h : s.testBit z = true) : z < n := by
  by_cases hz : z < n
  · exact hz
  · rw [Nat.testBit_lt_two_pow (Nat.lt_of_lt_of_le hs (Nat.pow_le_pow_right (by omega) (by omega)))] at h; cases h
theorem bit_pre_at {n : Nat} {xs : List Int} {s i z : Nat} (hi : i < n) (e : xs.getD i 0 = (z : Int)) : (preN xs s n).testBit i = s.testBit z := by
  rw [bit_pre, e, decide_eq_true hi, Int.toNat_natCast, Bool.true_and]
theorem sub_img {n : Nat} {xs : List Int} (h : Perm9 n xs) {b s : Nat} (hs : s < 2^n) : b &&& preN xs s n = preN xs s n ↔ imgN xs b n &&& s = s := by
  rw [sub_iff, sub_iff]
  constructor
  · intro hp z hz
    obtain ⟨i, hi, e⟩ := h.surj (below_bit hs hz)
    exact (bit_img h b z).2 ⟨i, hi, hp i (by rw [bit_pre_at hi e]; exact hz), e⟩
  · intro hp i hi
    have hin := below_bit (pre_lt xs s n) hi
    obtain ⟨z, e, hz⟩ := h.at hin
    rw [bit_pre_at hin e] at hi
    obtain ⟨j, hj, hb, e2⟩ := (bit_img h b z).1 (hp z hi)
    rw [h.inj hin hj (e.trans e2.symm)]; exact hb
theorem sub_pre {n : Nat} {xs : List Int} (h : Perm9 n xs) {s t : Nat} (ht : t < 2^n) : preN xs s n &&& preN xs t n = preN xs t n ↔ s &&& t = t := by
  rw [sub_iff, sub_iff]
  constructor
  · intro hp z hz
    obtain ⟨i, hi, e⟩ := h.surj (below_bit ht hz)
    have := hp i (by rw [bit_pre_at hi e]; exact hz)
    rwa [bit_pre_at hi e] at this
  · intro hp i hi
    have hin := below_bit (pre_lt xs t n) hi
    obtain ⟨z, e, hz⟩ := h.at hin
    rw [bit_pre_at hin e] at hi ⊢
    exact hp z hi
theorem pre_inj {n : Nat} {xs : List Int} (h : Perm9 n xs) {s t : Nat} (hs : s < 2^n) (ht : t < 2^n) (e : preN xs s n = preN xs t n) : s = t :=
  part_antisymm ((sub_pre h ht).1 (by rw [e]; exact Nat.and_self _)) ((sub_pre h hs).1 (by rw [e]; exact Nat.and_self _))

/-- The sets renamed; those of the renamed game, in order. -/
def preL (xs : List Int) (n : Nat) (S : List Nat) : List Nat := S.map fun s => preN xs s n
def renS (xs : List Int) (n : Nat) (S : List Nat) : List Nat := leastL (inS (preL xs n S))
theorem preL_lt {xs : List Int} {n : Nat} {S : List Nat} : ∀ s ∈ preL xs n S, s < 2^n := fun s hs => by
  obtain ⟨t, _, rfl⟩ := List.mem_map.1 hs
  exact pre_lt xs t n
theorem win_pre {n : Nat} {xs : List Int} (h : Perm9 n xs) {S : List Nat} (hS : ∀ s ∈ S, s < 2^n) : (fun b => winS S (imgN xs b n)) = winS (preL xs n S) := by
  funext b
  rw [Bool.eq_iff_iff, winS_iff, winS_iff]
  constructor
  · rintro ⟨t, ht, h1⟩; exact ⟨_, List.mem_map.2 ⟨t, ht, rfl⟩, (sub_img h (hS t ht)).2 h1⟩
  · rintro ⟨u, hu, h1⟩
    obtain ⟨t, ht, rfl⟩ := List.mem_map.1 hu
    exact ⟨t, ht, (sub_img h (hS t ht)).1 h1⟩
theorem ren_sets {n : Nat} {xs : List Int} (hn : n ≤ 9) (h : Perm9 n xs) {S : List Nat} (hS : ∀ s ∈ S, s < 2^n) : (inOrder n).filter (leastP (fun b => winS S (imgN xs b n)) n) = renS xs n S := by
  rw [win_pre h hS]; exact least_win hn preL_lt
theorem least_nodup (S : Nat → Bool) : (leastL S).Nodup := by
  have h := filter_sorted 9 (minB S)
  unfold Sorted at h
  rw [List.pairwise_map] at h
  exact h.imp fun {a b} hb e => by subst e; rw [before_irrefl] at hb; cases hb
theorem pre_nodup {n : Nat} {xs : List Int} (h : Perm9 n xs) {S : List Nat} (hS : ∀ s ∈ S, s < 2^n) (hn : S.Nodup) : (preL xs n S).Nodup := by
  unfold preL List.Nodup
  rw [List.pairwise_map]
  exact hn.imp_of_mem fun ha hb hne e => hne (pre_inj h (hS _ ha) (hS _ hb) e)
/-- The renamed sets of a game, in order, are those of the renamed game. -/
theorem ren_sorted {n : Nat} {xs : List Int} (hn : n ≤ 9) (h : Perm9 n xs) {S T : List Nat} (hS : ∀ s ∈ S, s < 2^n) (hL : S = leastL (inS S)) (hp : T.Perm (preL xs n S)) (hs : Sorted (T.map fun t => mem t 9)) : T = renS xs n S := by
  have h9 : (2:Nat)^n ≤ 2^9 := Nat.pow_le_pow_right (by omega) hn
  have hS9 : ∀ s, inS S s = true → s < 512 := fun s hs => by have := hS s (inS_iff.1 hs); omega
  have hP9 : ∀ s, inS (preL xs n S) s = true → s < 512 := fun s hs => by have := preL_lt s (inS_iff.1 hs); omega
  refine leastL_unique hP9 hs fun s => ?_
  rw [minB_iff hP9, hp.mem_iff, inS_iff]
  constructor
  · intro hs
    refine ⟨hs, fun t ht hne hpt => ?_⟩
    obtain ⟨a, ha, rfl⟩ := List.mem_map.1 hs
    obtain ⟨c, hc, rfl⟩ := List.mem_map.1 (inS_iff.1 ht)
    have h1 := (sub_pre h (hS c hc)).1 hpt
    have h2 : minB (inS S) a = true := by rw [hL] at ha; exact (mem_leastL hS9).1 ha
    exact ((minB_iff hS9).1 h2).2 c (inS_iff.2 hc) (fun e => hne (by rw [e])) h1
  · exact fun h => h.1
theorem renS_len {xs : List Int} {n : Nat} {S : List Nat} (hn : n ≤ 9) : (renS xs n S).length ≤ 512 := leastL_len fun s hs => by
  have h9 : (2:Nat)^n ≤ 2^9 := Nat.pow_le_pow_right (by omega) hn
  have := preL_lt s (inS_iff.1 hs); omega
end Go.Proofs.Ytipplbcjdcdapaa

namespace Go.Proofs.Ytipplbcjdcdapaa
open Go.RowKit Vo

theorem rowIs_owns {w : World} {base g : Nat} {t : TypeId} {n : Nat} {f : Nat → Value} {xs : List Value} (h : w.rowIs g t n f) (hb : base ≤ g) (hm : n ≤ maxLen) (hl : xs.length = n) (hx : ∀ i, i < n → xs[i]? = some (f i)) : w.ownsRow base t 1 (.slice (some ⟨g, 0, none⟩) n n) n xs := by
  obtain ⟨cur, h1, h2, h3⟩ := h
  refine ⟨by simp [hl], Or.inr ⟨g, n, cur, rfl, hb, h1, Nat.le_refl _, hm, by simp [h2], ?_⟩⟩
  apply List.ext_getElem?
  intro i
  by_cases hi : i < n
  · rw [List.getElem?_take_of_lt (by omega), Array.getElem?_toList, h3 i hi, hx i hi]
  · rw [List.getElem?_eq_none (by rw [List.length_take]; omega), List.getElem?_eq_none (by omega)]

set_option maxRecDepth 20000 in
set_option maxHeartbeats 4000000 in
theorem renamed_any (S : List Nat) (q l cp base b off cap2 : Nat) (B : Option Addr) (xs : List Int) (w : World) (hq : q ≤ 9) (hl : l = S.length) (hl5 : l ≤ 512) (hS : ∀ s ∈ S, s < 2^q) (hp : Perm9 q xs) (hown : w.ownsRow base 96 1 (.slice B l cp) l (setsV S)) (hsl : Sl w b off q xs) :
    Calls Try.prog 94 #[.agg #[.int .i64 q, .slice B l cp], .slice (some ⟨b, off, none⟩) q cap2] w fun e w' => ∃ C c T, e = .returned (.agg #[.int .i64 q, .slice C T.length c]) ∧ T.Perm (preL xs q S) ∧ ((preL xs q S).Nodup → Sorted (T.map fun t => mem t 9)) ∧ w'.ownsRow w.heap.size 96 1 (.slice C T.length c) T.length (setsV T) ∧ Below w.heap.size w w' := by
  have h9 : (2:Nat)^q ≤ 2^9 := Nat.pow_le_pow_right (by omega) hq
  have hS5 : ∀ s ∈ S, s < 512 := fun s h => by have := hS s h; omega
  have CS := Lib.hid (row_cells hl hS5 hown)
  have HSL := Lib.hid hsl
  have HP := Lib.hid hp
  have hb0 : Below w.heap.size w ((w.alloc (.cells #[.int .i64 q, .slice B l cp] 71)).alloc (.cells #[.int .i64 0, .slice none 0 0] 71)) := (below1 w _).alloc (by simp) _
  have hx := (BoxT.new 71 w (.int .i64 q) (.slice B l cp)).alloc (.cells #[.int .i64 0, .slice none 0 0] 71)
  have hr := BoxT.new 71 (w.alloc (.cells #[.int .i64 q, .slice B l cp] 71)) (.int .i64 0) (.slice none 0 0)
  simp only [World.size_alloc] at hr
  obtain ⟨k0, k1⟩ := hx.cells
  obtain ⟨w0, hw0⟩ : ∃ w0, w0 = (w.alloc (.cells #[.int .i64 q, .slice B l cp] 71)).alloc (.cells #[.int .i64 0, .slice none 0 0] 71) := ⟨_, rfl⟩
  have hsz0 : w.heap.size + 2 ≤ w0.heap.size := by rw [hw0]; simp
  have K := Lib.hid (show ∀ W, Below w0.heap.size w0 W → (W.cell? ⟨w.heap.size, 0, none⟩ = some (.int .i64 q) ∧ W.cell? ⟨w.heap.size, 1, none⟩ = some (.slice B l cp) ∧ W.cell? ⟨w.heap.size + 1, 0, none⟩ = some (.int .i64 0) ∧ W.cell? ⟨w.heap.size + 1, 1, none⟩ = some (.slice none 0 0) ∧ W.frozen? ⟨w.heap.size + 1, 0, none⟩ = false ∧ W.frozen? ⟨w.heap.size + 1, 1, none⟩ = false) from fun W hb => by
    rw [hw0] at hb
    exact ⟨(hx.now hb).cells.1, (hx.now hb).cells.2, (hr.now hb).cells.1, (hr.now hb).cells.2, by have h := hr.now hb; unfold BoxT at h; simp [World.frozen?, h], by have h := hr.now hb; unfold BoxT at h; simp [World.frozen?, h]⟩)
  have g0 : Below w.heap.size w w0 := by rw [hw0]; exact hb0
  have HG0 := Lib.hid g0
  have HW0 := Lib.hid hw0
  obtain ⟨i0, hi0, hz0, hz1, hz2i⟩ := info_parts infoSet
  have HPL := Lib.hid (show (preL xs q S).length = l from by unfold preL; rw [List.length_map, hl])
  have HP5 := Lib.hid (show ∀ s ∈ preL xs q S, s < 512 from fun s h => by have := preL_lt s h; omega)
  have HPG := Lib.hid (show ∀ j, j < l → (preL xs q S).getD j 0 = preN xs (S.getD j 0) q from fun j hj => by
    have hj' : j < S.length := by omega
    unfold preL
    rw [List.getD_eq_getElem?_getD, List.getElem?_map, List.getElem?_eq_getElem hj', List.getD_eq_getElem?_getD, List.getElem?_eq_getElem hj']; rfl)
  have HPRE := Lib.hid (show ∀ s t, t ≤ q → preN xs s t < 512 from fun s t h => by have := pre_lt xs s t; have h2 : (2:Nat)^t ≤ 2^q := Nat.pow_le_pow_right (by omega) h; omega)
  clear hx hr hb0 hown hsl hp hS hS5 hl g0 hw0 h9
  go_enter Try.func94, Try.ntmps94
  go_wp2_with (at_make; refine wpList_make_row _ rfl _ _ 68 rfl 96 i0 (.int .u64 0) Try.underlying68 hi0 hz0 hz1 rfl .i64 .i64 l rfl rfl (by rw [hz2i]; omega) (by omega) ?_; rw [← HW0.out]; have hb1 : Below w0.heap.size w0 (w0.alloc (.cells (madeCells #[.int .u64 0] l) 96)) := below1 _ _; obtain ⟨c0, c1, c2, c3, c4, c5⟩ := K.out _ hb1; have hrow1 := World.rowIs_made w0 (.int .u64 0) l 96; clear k0 k1)
  have HR1 := Lib.hid hrow1
  clear hrow1 c0 c1 c2 c3 c4 c5
  go_loopw [6, 7, 17] (fun _ _ i wr => ∃ j : Nat, j ≤ l ∧ i = .int .i64 j ∧ wr.rowIs w0.heap.size 96 l (fun u => .int .u64 ((if u < j then preN xs (S.getD u 0) q else 0 : Nat) : Int)) ∧ Below w0.heap.size w0 wr) (fun _ _ i _ => l - (intOf i).toNat)
  case atStart => exact ⟨0, Nat.zero_le _, rfl, HR1.out.congr fun i _ => by simp, hb1⟩
  case round =>
    obtain ⟨j, hj, rfl, hrow, hb⟩ := hrel
    have HR := Lib.hid hrow
    clear hrow
    by_cases hlt : j < l
    · obtain ⟨g, rfl, hgl, hcell, hs5⟩ := CS.out _ (bfrom HG0.out hb) j hlt
      generalize hsj : S.getD j 0 = s at *
      have HSJ := Lib.hid hsj
      clear hsj
      go_wp2_with fail
      go_loopw [8, 9, 24] (fun _ _ i wi => ∃ t : Nat, t ≤ q ∧ i = .int .i64 t ∧ wi.rowIs w0.heap.size 96 l (fun u => .int .u64 ((if u < j then preN xs (S.getD u 0) q else if u = j then preN xs s t else 0 : Nat) : Int)) ∧ Below w0.heap.size w0 wi) (fun _ _ i _ => q - (intOf i).toNat)
      case atStart => exact ⟨0, Nat.zero_le _, rfl, HR.out.congr fun i _ => by by_cases h : i < j <;> simp [h, preN], hb⟩
      case round =>
        obtain ⟨t, ht, rfl, hrow2, hb2⟩ := hrel
        have HR2 := Lib.hid hrow2
        clear hrow2
        by_cases hlt2 : t < q
        · have hcl := (HSL.out.now (bfrom HG0.out hb2)).cell t hlt2
          obtain ⟨z, hz, hzq⟩ := HP.out.at hlt2
          have HPS := Lib.hid (show preN xs s (t+1) = if s.testBit z then preN xs s t ||| 2^t else preN xs s t from by
            show (if s.testBit (xs.getD t 0).toNat then preN xs s t ||| 2^t else preN xs s t) = _
            rw [hz, Int.toNat_natCast])
          rw [hz] at hcl
          have hpt := HPRE.out s t (by omega)
          have hold := HR2.out.cell hlt
          simp only [Nat.lt_irrefl, if_false, if_true] at hold
          have hfr := HR2.out.frozen j
          generalize hpp : preN xs s t = p at *
          have HPP := Lib.hid hpp
          clear hpp hz
          cases hbit : s.testBit z with
          | true =>
            have HB := Lib.hid hbit
            rw [hbit] at HPS
            clear hbit
            simp only [if_true] at HPS
            have HSET := Lib.hid (HR2.out.set j (.int .u64 ((p ||| 2^t : Nat) : Int)))
            have HO3 := Lib.hid (show World.rowIs (wr.setCell ⟨w0.heap.size, j, none⟩ (.int .u64 ((p ||| 2^t : Nat) : Int))) w0.heap.size 96 l (fun u => .int .u64 ((if u < j then preN xs (S.getD u 0) q else if u = j then preN xs s (t+1) else 0 : Nat) : Int)) from HSET.out.congr fun i _ => by
              by_cases e : i = j
              · subst e; simp [HPS.out]
              · simp [e])
            have HB3 := Lib.hid (hb2.setCell (p := ⟨w0.heap.size, j, none⟩) (Nat.le_refl _) (.int .u64 ((p ||| 2^t : Nat) : Int)))
            clear HSET
            go_wp2_with (first
              | (go_at_call 88; refine (has_any s z _ (by omega) hs5).mono ?_; rintro e w' ⟨rfl, rfl⟩; rw [HB.out])
              | (go_at_call 90; refine (with_any p t _ (by omega) hpt).mono ?_; rintro e w' ⟨rfl, rfl⟩))
            go_roundw
            case rel => exact ⟨t + 1, by omega, by go_num, HO3.out, HB3.out⟩
            case measure => simp [intOf]; omega
          | false =>
            have HB := Lib.hid hbit
            rw [hbit] at HPS
            clear hbit
            simp only [Bool.false_eq_true, if_false] at HPS
            have HO3 := Lib.hid (HR2.out.congr (g := fun u => .int .u64 ((if u < j then preN xs (S.getD u 0) q else if u = j then preN xs s (t+1) else 0 : Nat) : Int)) fun i _ => by
              rw [HPS.out])
            go_wp2_with (go_at_call 88; refine (has_any s z _ (by omega) hs5).mono ?_; rintro e w' ⟨rfl, rfl⟩; rw [HB.out])
            go_roundw
            case rel => exact ⟨t + 1, by omega, by go_num, HO3.out, hb2⟩
            case measure => simp [intOf]; omega
        · obtain rfl : t = q := by omega
          go_wp2
          go_roundw
          case rel =>
            refine ⟨j + 1, by omega, by go_num, HR2.out.congr fun i _ => ?_, hb2⟩
            by_cases e : i = j
            · subst e; simp; rw [← HSJ.out]; simp
            · by_cases h : i < j
              · simp [h, show i < j + 1 from by omega]
              · simp [h, e, show ¬ i < j + 1 from by omega]
          case measure => simp [intOf]; omega
    · obtain rfl : j = l := by omega
      have HOWN := Lib.hid (show wr.ownsRow w0.heap.size 96 1 (.slice (some ⟨w0.heap.size, 0, none⟩) j j) j (setsV (preL xs q S)) from rowIs_owns HR.out (Nat.le_refl _) (by unfold maxLen; omega) (by simp [setsV, HPL.out]) fun i hi => by
        have hi' : i < (preL xs q S).length := by rw [HPL.out]; exact hi
        have e := HPG.out i hi
        rw [List.getD_eq_getElem?_getD, List.getElem?_eq_getElem hi'] at e
        simp only [Option.getD_some] at e
        unfold setsV
        rw [List.getElem?_map, List.getElem?_eq_getElem hi', Option.map_some, e, if_pos hi])
      obtain ⟨c0, c1, c2, c3, c4, c5⟩ := K.out _ hb
      go_wp2_with fail
      go_region_held3 (fun w' => w'.cell? ⟨w.heap.size, 0, none⟩ = some (.int .i64 q) ∧ w'.cell? ⟨w.heap.size, 1, none⟩ = some (.slice B j cp) ∧ (w'.cell? ⟨w.heap.size + 1, 0, none⟩).isSome = true ∧ (w'.cell? ⟨w.heap.size + 1, 1, none⟩).isSome = true ∧ w'.frozen? ⟨w.heap.size + 1, 0, none⟩ = false ∧ w'.frozen? ⟨w.heap.size + 1, 1, none⟩ = false)
        (first | exact ⟨c0, c1, by rw [c2]; rfl, by rw [c3]; rfl, c4, c5⟩ | exact ⟨a0, a1, by rw [a2]; rfl, by rw [a3]; rfl, a4, a5⟩ | ((try dsimp only); (repeat' apply And.intro); all_goals (first | exact isSome_set (isSome_set (Option.isSome_iff_exists.2 ⟨_, a2⟩)) | exact isSome_set (isSome_set (Option.isSome_iff_exists.2 ⟨_, a3⟩)) | go_keep)) | go_keep)
        (first
          | (go_at_call 127; refine (inOrder_any (preL xs q S) w0.heap.size j j _ _ HPL.out.symm (by omega) HP5.out (HOWN.out.drew)).mono ?_; rintro e wA ⟨A3, c7, ss, T, rfl, hss, hpm, hso, how, hbA⟩; have gA := bfrom hb.drew hbA; obtain ⟨a0, a1, a2, a3, a4, a5⟩ := K.out _ gA))
      have hzA : w0.heap.size ≤ wA.heap.size := gA.size
      have HO := Lib.hid how
      rw [hss] at hpm hso
      have HPM := Lib.hid hpm
      have HSO := Lib.hid hso
      have hzr := hb.size
      clear a0 a1 a4 a5 c0 c1 c2 c3 c4 c5 how hpm hso hss
      obtain ⟨tl, htl⟩ : ∃ tl, tl = T.length := ⟨_, rfl⟩
      rw [← htl] at HO ⊢
      have HTL := Lib.hid htl
      clear htl
      go_wp2
      refine bodyPost_ret (v := .agg #[.int .i64 q, .slice A3 tl c7]) (by simp [results, Try.results94, go_sem, a2, a3]) rfl ⟨A3, c7, T, by rw [HTL.out], HPM.out, HSO.out, ?_, ?_⟩
      · rw [← HTL.out]
        exact owns_less (ownsRow_setCell_below (ownsRow_setCell_below HO.out (by show w.heap.size + 1 < wr.heap.size; omega) _) (by show w.heap.size + 1 < wr.heap.size; omega) _) (by show w.heap.size ≤ wr.heap.size; omega)
      · exact ((bfrom HG0.out gA).setCell (by simp) _).setCell (by simp) _
end Go.Proofs.Ytipplbcjdcdapaa

namespace Go.Proofs.Ytipplbcjdcdapaa
open Go.RowKit Vo

/-- Is there a renamed game? Its sets. -/
def renOk (m : Int) (L : List (List Int)) (xs : List Int) (k : Nat) : Bool := goodG m L && orderB m.toNat xs k
def renG (m : Int) (L : List (List Int)) (xs : List Int) : List Nat := renS xs m.toNat (setsN L)
theorem renOk_bad {m : Int} {L : List (List Int)} {xs : List Int} {k : Nat} (h : goodG m L = false) : renOk m L xs k = false := by unfold renOk; rw [h]; rfl
theorem renOk_good {q : Nat} {L : List (List Int)} {xs : List Int} {k : Nat} (h : goodG (q : Int) L = true) : renOk (q : Int) L xs k = orderB q xs k := by unfold renOk; rw [h, Int.toNat_natCast]; rfl
theorem renG_len {m : Int} {L : List (List Int)} {xs : List Int} {k : Nat} (h : renOk m L xs k = true) : (renG m L xs).length ≤ 512 := by
  unfold renOk at h
  simp only [Bool.and_eq_true] at h
  obtain ⟨h1, h9, _⟩ := goodG_parts h.1
  exact renS_len (by omega)

set_option maxRecDepth 20000 in
set_option maxHeartbeats 4000000 in
theorem iRenameGame_any (m : Int) (A : Option Addr) (n cap : Nat) (L : List (List Int)) (b2 off2 k cap2 : Nat) (xs : List Int) (w : World) (hl : n ≤ 1048576) (hk : Lists w A n L) (hm2 : k ≤ 9223372036854775807) (hs : Sl w b2 off2 k xs) :
    Calls Try.prog 50 #[.agg #[.int .i64 m, .slice A n cap], .slice (some ⟨b2, off2, none⟩) k cap2] w fun e w' => AnsG RSS (okM (renOk m L xs k) m) (okG (renOk m L xs k) (renG m L xs)) (renOk m L xs k) w w' e := by
  have hb0 : Below w.heap.size w ((w.alloc (.cells #[.int .i64 m, .slice A n cap] 28)).alloc (.cells #[.int .i64 0, .slice none 0 0] 28)) := (below1 w _).alloc (by simp) _
  have HK := Lib.hid (hk.now hb0)
  have HS := Lib.hid hs
  have hx := (BoxT.new 28 w (.int .i64 m) (.slice A n cap)).alloc (.cells #[.int .i64 0, .slice none 0 0] 28)
  have hr := BoxT.new 28 (w.alloc (.cells #[.int .i64 m, .slice A n cap] 28)) (.int .i64 0) (.slice none 0 0)
  simp only [World.size_alloc] at hr
  clear hk hs
  have KF := Lib.hid (show ∀ W, BoxT 28 W (w.heap.size + 1) (.int .i64 0) (.slice none 0 0) → (W.frozen? ⟨w.heap.size + 1, 0, none⟩ = false ∧ W.frozen? ⟨w.heap.size + 1, 1, none⟩ = false) from fun W h => by unfold BoxT at h; exact ⟨by simp [World.frozen?, h], by simp [World.frozen?, h]⟩)
  have NO := Lib.hid (show renOk m L xs k = false → okM (renOk m L xs k) m = 0 ∧ okG (renOk m L xs k) (renG m L xs) = [] from fun h => ⟨okM_no h, okG_no h⟩)
  obtain ⟨c0, c1⟩ := hx.cells
  go_enter Try.func50, Try.ntmps50
  go_wp2_with fail
  refine (readGame_any m A n cap L _ hl HK.out).mono ?_
  rintro e w1 h
  obtain ⟨m1, B, l, cp, ok1, rfl, hb1, hg1, h01, h91, hy1⟩ := readG_gen h
  have g1 := bfrom hb0 hb1
  have hr1 := hr.now hb1
  have hz1s : w.heap.size + 2 ≤ w1.heap.size := by have := hb1.size; simp at this; omega
  have HY1 := Lib.hid hy1
  clear hx hr hb1 c0 c1 HK h hy1
  have b1a := below1 w1 (.cells #[.int .i64 m1, .slice B l cp] 71)
  have hp := BoxT.new 71 w1 (.int .i64 m1) (.slice B l cp)
  have hr2 := hr1.now b1a
  obtain ⟨p0, p1⟩ := hp.cells
  obtain ⟨c2, c3⟩ := hr2.cells
  obtain ⟨f0, f1⟩ := KF.out _ hr2
  obtain ⟨w2, hw2⟩ : ∃ w2, w2 = w1.alloc (.cells #[.int .i64 m1, .slice B l cp] 71) := ⟨_, rfl⟩
  rw [← hw2] at hp hr2
  have g2 : Below w.heap.size w w2 := by rw [hw2]; exact bfrom g1 b1a
  have HB12 := Lib.hid (show Below w1.heap.size w1 w2 from by rw [hw2]; exact b1a)
  obtain ⟨e2, e3⟩ := hr2.cells
  have hz2 : w1.heap.size < w2.heap.size := by rw [hw2]; simp
  clear hr1 g1 b1a
  cases ok1 with
  | false =>
    have HNOK := Lib.hid (renOk_bad (xs := xs) (k := k) hg1)
    obtain ⟨n1, n2'⟩ := NO.out HNOK.out
    have N1 := Lib.hid n1
    have N2 := Lib.hid n2'
    clear n1 n2' hg1
    go_wp2_with fail
    rw [← hw2]
    refine bodyPost_ret (v := .tuple #[.agg #[.int .i64 0, .slice none 0 0], .bool false]) (by simp [results, Try.results50, go_sem, e2, e3]) rfl ?_
    rw [N1.out, N2.out, HNOK.out]
    exact AnsG.none_ RSS.none_ ((g2.setCell (by simp; try omega) _).setCell (by simp; try omega) _)
  | true =>
    obtain ⟨rfl, hl1, hl0, hl5, ho1⟩ := HY1.out rfl
    have HL1 := Lib.hid hl1
    have HO1 := Lib.hid ho1
    obtain ⟨a1, a9, _, ar, hleast⟩ := goodG_parts hg1
    obtain ⟨q, rfl⟩ : ∃ q : Nat, m1 = q := ⟨m1.toNat, by omega⟩
    rw [Int.toNat_natCast] at ar
    have HROK := Lib.hid (renOk_good (xs := xs) (k := k) hg1)
    have HIO := Lib.hid (fun W hsl => isOrder_any q b2 off2 k cap2 xs W (by omega) hm2 hsl)
    have HS2 := Lib.hid (HS.out.now g2)
    clear hl1 ho1
    cases hord : orderB q xs k with
    | false =>
      have HORD := Lib.hid hord
      rw [hord] at HROK
      have HNOK := Lib.hid (HROK.out)
      obtain ⟨n1, n2'⟩ := NO.out HNOK.out
      have N1 := Lib.hid n1
      have N2 := Lib.hid n2'
      clear n1 n2' hg1 hord
      go_wp2_with (rw [← hw2]; go_at_call 93; refine (HIO.out _ HS2.out).mono ?_; rintro e w5 ⟨rfl, rfl⟩; rw [HORD.out]; rw [hw2])
      rw [← hw2]
      refine bodyPost_ret (v := .tuple #[.agg #[.int .i64 0, .slice none 0 0], .bool false]) (by simp [results, Try.results50, go_sem, e2, e3]) rfl ?_
      rw [N1.out, N2.out, HNOK.out]
      exact AnsG.none_ RSS.none_ ((g2.setCell (by simp; try omega) _).setCell (by simp; try omega) _)
    | true =>
      have HORD := Lib.hid hord
      rw [hord] at HROK
      obtain ⟨rfl, hperm⟩ := orderB_perm hord
      have hS2 : ∀ s ∈ setsN L, s < 2^k := setsN_lt (by omega) ar
      have HRN := Lib.hid (renamed_any (setsN L) k l cp _ b2 off2 cap2 B xs w2 (by omega) HL1.out hl5 hS2 hperm (owns_now HO1.out HB12.out) HS2.out)
      have HSRT := Lib.hid (show ∀ T : List Nat, T.Perm (preL xs k (setsN L)) → ((preL xs k (setsN L)).Nodup → Sorted (T.map fun t => mem t 9)) → T = renG (k : Int) L xs from fun T h1 h2 => by
        unfold renG
        rw [Int.toNat_natCast]
        exact ren_sorted (by omega) hperm hS2 hleast h1 (h2 (pre_nodup hperm hS2 (by rw [hleast]; exact least_nodup _))))
      have HR5 := Lib.hid (show (renG (k : Int) L xs).length ≤ 512 ∧ ∀ s ∈ renG (k : Int) L xs, s < 512 from by
        have h9 : (2:Nat)^k ≤ 2^9 := Nat.pow_le_pow_right (by omega) (by omega)
        unfold renG
        rw [Int.toNat_natCast]
        refine ⟨renS_len (by omega), fun s hs => ?_⟩
        unfold renS at hs
        exact leastL_low (fun s hs => by have := preL_lt s (inS_iff.1 hs); omega) s hs)
      have HM1 := Lib.hid (okM_yes (m := (k : Int)) HROK.out)
      have HM2 := Lib.hid (okG_yes (S := renG (k : Int) L xs) HROK.out)
      have HW2 := Lib.hid hw2
      clear hg1 hord hperm hS2 hleast ar
      obtain ⟨X, hX⟩ : ∃ X, X = renG (k : Int) L xs := ⟨_, rfl⟩
      rw [← hX] at HSRT HR5 HM2
      have HXX := Lib.hid hX
      clear hX
      obtain ⟨pl, hpl⟩ : ∃ p, p = X.length := ⟨_, rfl⟩
      have HPL := Lib.hid hpl
      have HJL := Lib.hid (show (setsL X).length = pl from by rw [setsL_len, hpl])
      clear hpl hw2
      go_wp2_with (first
        | (go_at_call 93; rw [← HW2.out]; refine (HIO.out _ HS2.out).mono ?_; rintro e w5 ⟨rfl, rfl⟩; rw [HORD.out]; obtain ⟨p0, p1⟩ := hp.cells)
        | (go_at_call 94; refine HRN.out.mono ?_; rintro e w6 ⟨C, c, T, rfl, hpm, hso, how, hb6⟩; have hTX := HSRT.out T hpm hso; clear hpm hso; subst hTX; rw [← HPL.out] at how ⊢; have HOW := Lib.hid how; have HB6 := Lib.hid hb6; clear how hb6)
        | (go_at_call 63; refine (told_any T k _ pl _ _ _ HPL.out (by have := HR5.out.1; rw [HPL.out]; exact this) (fun i hi => HR5.out.2 _ (getD_mem (by rw [← HPL.out]; exact hi))) HOW.out).mono ?_; rintro e w7 ⟨D, cD, rfl, hl7, hb7⟩; have HL7 := Lib.hid hl7; clear hl7; have gb7 := bfrom HB6.out hb7; have hr7 := hr2.now gb7; obtain ⟨f0, f1⟩ := KF.out _ hr7; obtain ⟨c2, c3⟩ := hr7.cells))
      have g7 := bfrom g2 gb7
      have hz6 := HB6.out.size
      have hz7 := hb7.size
      refine bodyPost_ret (v := .tuple #[.agg #[.int .i64 k, .slice D pl cD], .bool true]) (by simp [results, Try.results50, go_sem, c2, c3]) rfl ?_
      rw [HM1.out, ← HXX.out, HM2.out, HROK.out]
      refine ⟨D, cD, by rw [HJL.out], ?_, ?_⟩
      · rw [HJL.out]
        exact Lies.rss_wide (Lies.far (Lies.far HL7.out (by first | omega | (simp; done) | (simp; omega)) _) (by first | omega | (simp; done) | (simp; omega)) _) (by omega) (by first | exact Nat.le_refl _ | simp) (by first | exact Nat.le_refl _ | simp)
      · exact (g7.setCell (by simp; try omega) _).setCell (by simp; try omega) _
end Go.Proofs.Ytipplbcjdcdapaa
