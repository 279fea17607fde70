/- Texts of E1, E2. -/
import Derived.Test.YtnldodnpakpeeaaPkQ00
import Derived.Test.YtnldodnpakpeeaaPkQ04
import Derived.Maps.AppendAt
import Derived.Deep.Draws
import Derived.Sort.Grow
namespace Go.Proofs.Ytnldodnpakpeeaa.Vo

/-- Place j of a list whose numbers are each greater by one, noughts behind its end. -/
def pad (a : List Int) (j : Nat) : Int := if j < a.length then a.getD j 0 + 1 else 0
theorem pad_nil (j : Nat) : pad [] j = 0 := by simp [pad]
theorem pad_zero (x : Int) (a : List Int) : pad (x :: a) 0 = x + 1 := by simp [pad]
theorem pad_succ (x : Int) (a : List Int) (j : Nat) : pad (x :: a) (j+1) = pad a j := by simp [pad]
theorem pad_pos : ∀ {a : List Int}, (∀ x ∈ a, 0 ≤ x) → ∀ j, 0 ≤ pad a j
  | [], _, j => by rw [pad_nil]; exact Int.le_refl _
  | x :: a, h, 0 => by rw [pad_zero]; have := h x (by simp); omega
  | x :: a, h, j+1 => by rw [pad_succ]; exact pad_pos (fun y hy => h y (by simp [hy])) j
theorem pad_lt : ∀ {a b : List Int}, (∀ x ∈ a, 0 ≤ x) → (∀ x ∈ b, 0 ≤ x) → ∀ {j : Nat}, (∀ i, i < j → pad a i = pad b i) → pad a j < pad b j → before a b = true
  | [], [], _, _, j, _, h => by simp [pad_nil] at h
  | [], _ :: _, _, _, _, _, _ => rfl
  | x :: a, [], ha, _, j, _, h => by rw [pad_nil] at h; have := pad_pos ha j; omega
  | x :: a, y :: b, ha, hb, 0, _, h => by
    rw [pad_zero, pad_zero] at h
    have e : x ≠ y := by omega
    simp [before, e]; omega
  | x :: a, y :: b, ha, hb, j+1, hp, h => by
    have e : x = y := by have := hp 0 (by omega); rw [pad_zero, pad_zero] at this; omega
    subst e
    simp only [before, if_true]
    rw [pad_succ, pad_succ] at h
    refine pad_lt (fun z hz => ha z (by simp [hz])) (fun z hz => hb z (by simp [hz])) (j := j) (fun i hi => ?_) h
    have := hp (i+1) (by omega)
    rwa [pad_succ, pad_succ] at this
theorem pad_eq : ∀ {a b : List Int}, (∀ x ∈ a, 0 ≤ x) → (∀ x ∈ b, 0 ≤ x) → ∀ {k : Nat}, a.length ≤ k → b.length ≤ k → (∀ i, i < k → pad a i = pad b i) → a = b
  | [], [], _, _, _, _, _, _ => rfl
  | [], y :: b, _, hb, k, _, hl, h => by
    have := h 0 (by simp at hl; omega)
    rw [pad_nil, pad_zero] at this
    have := hb y (by simp); omega
  | x :: a, [], ha, _, k, hl, _, h => by
    have := h 0 (by simp at hl; omega)
    rw [pad_nil, pad_zero] at this
    have := ha x (by simp); omega
  | x :: a, y :: b, ha, hb, 0, hl, _, _ => by simp at hl
  | x :: a, y :: b, ha, hb, k+1, hl, hl2, h => by
    have e : x = y := by have := h 0 (by omega); rw [pad_zero, pad_zero] at this; omega
    subst e
    congr 1
    refine pad_eq (fun z hz => ha z (by simp [hz])) (fun z hz => hb z (by simp [hz])) (k := k) (by simp at hl; omega) (by simp at hl2; omega) fun i hi => ?_
    have := h (i+1) (by omega)
    rwa [pad_succ, pad_succ] at this

theorem mem_nonneg (s k : Nat) : ∀ x ∈ mem s k, 0 ≤ x := fun x hx => by
  obtain ⟨j, _, rfl, _⟩ := mem_iff.1 hx; omega
/-- Place j of the key of a set. -/
def keyAt (s j : Nat) : Int := pad (mem s 9) j
theorem keyAt_bd (s j : Nat) : 0 ≤ keyAt s j ∧ keyAt s j ≤ 9 := by
  refine ⟨pad_pos (mem_nonneg s 9) j, ?_⟩
  unfold keyAt pad
  by_cases h : j < (mem s 9).length
  · rw [if_pos h, List.getD_eq_getElem?_getD, List.getElem?_eq_getElem h]
    obtain ⟨i, hi, e, _⟩ := mem_iff.1 (List.getElem_mem h)
    show (mem s 9)[j] + 1 ≤ 9
    omega
  · rw [if_neg h]; omega
theorem keyAt_inj {s t : Nat} (hs : s < 512) (ht : t < 512) (h : ∀ j, j < 9 → keyAt s j = keyAt t j) : s = t :=
  mem_inj (n := 9) hs ht (pad_eq (mem_nonneg s 9) (mem_nonneg t 9) (mem_len s 9) (mem_len t 9) h)

/-- -1, 0 or 1, as the list of s comes before that of t, is the same, or comes behind it. -/
def ordC (s t : Nat) : Int := if before (mem s 9) (mem t 9) then -1 else if before (mem t 9) (mem s 9) then 1 else 0
theorem ordC_lt {s t j : Nat} (hp : ∀ i, i < j → keyAt s i = keyAt t i) (h : keyAt s j < keyAt t j) : ordC s t = -1 := by
  unfold ordC; rw [pad_lt (mem_nonneg s 9) (mem_nonneg t 9) hp h]; rfl
theorem ordC_gt {s t j : Nat} (hp : ∀ i, i < j → keyAt s i = keyAt t i) (h : keyAt t j < keyAt s j) : ordC s t = 1 := by
  have hb := pad_lt (mem_nonneg t 9) (mem_nonneg s 9) (fun i hi => (hp i hi).symm) h
  unfold ordC; rw [before_asymm hb, hb]; rfl
theorem ordC_eq {s t : Nat} (hp : ∀ i, i < 9 → keyAt s i = keyAt t i) : ordC s t = 0 := by
  have e := pad_eq (mem_nonneg s 9) (mem_nonneg t 9) (mem_len s 9) (mem_len t 9) hp
  unfold ordC; rw [e, before_irrefl]; rfl
theorem ordC_neg {s t : Nat} : ordC s t < 0 ↔ before (mem s 9) (mem t 9) = true := by
  unfold ordC
  by_cases h : before (mem s 9) (mem t 9) = true
  · rw [if_pos h]; simp [h]
  · rw [if_neg h]
    by_cases h2 : before (mem t 9) (mem s 9) = true
    · rw [if_pos h2]; simp [h]
    · rw [if_neg h2]; simp [h]

/-- Has s all members of t? -/
def partB (s t : Nat) : Bool := decide (s &&& t = t)
theorem partB_iff {s t : Nat} : partB s t = true ↔ s &&& t = t := decide_eq_true_iff
theorem part_le {s t : Nat} (h : s &&& t = t) : t ≤ s := by have := Nat.and_le_left (n := s) (m := t); omega
theorem part_trans {s t u : Nat} (h : s &&& t = t) (k : t &&& u = u) : s &&& u = u := by
  rw [← k, ← Nat.and_assoc, h]
theorem part_antisymm {s t : Nat} (h : s &&& t = t) (k : t &&& s = s) : s = t := by
  rw [← k, Nat.and_comm, h]
theorem part_self (s : Nat) : s &&& s = s := Nat.and_self s

/-- Is s one of the sets, and no other one a part of it? -/
def minB (S : Nat → Bool) (s : Nat) : Bool := S s && allK (fun t => !(S t && decide (t ≠ s) && partB s t)) 512
theorem minB_iff {S : Nat → Bool} (hS : ∀ s, S s = true → s < 512) {s : Nat} : minB S s = true ↔ S s = true ∧ ∀ t, S t = true → t ≠ s → s &&& t = t → False := by
  unfold minB
  rw [Bool.and_eq_true, allK_iff]
  constructor
  · rintro ⟨h1, h2⟩
    refine ⟨h1, fun t ht hne hp => ?_⟩
    have := h2 t (hS t ht)
    rw [ht, partB_iff.2 hp] at this
    simp [hne] at this
  · rintro ⟨h1, h2⟩
    refine ⟨h1, fun t _ => ?_⟩
    cases ht : S t
    · rfl
    · by_cases hne : t ≠ s
      · cases hp : partB s t
        · simp
        · exact (h2 t ht hne (partB_iff.1 hp)).elim
      · simp [hne]
/-- Each of the sets has one as a part that has no other one. -/
theorem min_in {S : Nat → Bool} (hS : ∀ s, S s = true → s < 512) : ∀ (t : Nat), S t = true → ∃ m, minB S m = true ∧ t &&& m = m := by
  intro t
  induction t using Nat.strongRecOn with
  | _ t ih =>
    intro ht
    by_cases h : minB S t = true
    · exact ⟨t, h, part_self t⟩
    · have : ∃ u, S u = true ∧ u ≠ t ∧ t &&& u = u := by
        apply Classical.byContradiction
        intro hn
        exact h ((minB_iff hS).2 ⟨ht, fun u hu hne hp => hn ⟨u, hu, hne, hp⟩⟩)
      obtain ⟨u, hu, hne, hp⟩ := this
      have := part_le hp
      obtain ⟨m, h1, h2⟩ := ih u (by omega) hu
      exact ⟨m, h1, part_trans hp h2⟩
/-- What is left after some that are not least have gone: one of which no other one left is a part is least. -/
theorem min_of_left {S M : Nat → Bool} (hS : ∀ s, S s = true → s < 512) (hM : ∀ s, M s = true → S s = true) (hL : ∀ s, minB S s = true → M s = true) {s : Nat} (hs : M s = true)
    (h : ∀ t, M t = true → t ≠ s → s &&& t = t → False) : minB S s = true := by
  refine (minB_iff hS).2 ⟨hM s hs, fun t ht hne hp => ?_⟩
  obtain ⟨m, h1, h2⟩ := min_in hS t ht
  refine h m (hL m h1) (fun e => ?_) (part_trans hp h2)
  subst e
  exact hne (part_antisymm h2 hp)
theorem not_min {S : Nat → Bool} (hS : ∀ s, S s = true → s < 512) {s t : Nat} (ht : S t = true) (hne : t ≠ s) (hp : s &&& t = t) : minB S s = false := by
  cases h : minB S s
  · rfl
  · exact (((minB_iff hS).1 h).2 t ht hne hp).elim

/-- The least ones of the sets, in order. -/
def leastL (S : Nat → Bool) : List Nat := (inOrder 9).filter (minB S)
theorem mem_leastL {S : Nat → Bool} (hS : ∀ s, S s = true → s < 512) {s : Nat} : s ∈ leastL S ↔ minB S s = true := by
  unfold leastL
  rw [List.mem_filter, mem_inOrder]
  constructor
  · exact fun h => h.2
  · exact fun h => ⟨hS s ((minB_iff hS).1 h).1, h⟩
theorem filter_sorted (n : Nat) (P : Nat → Bool) : Sorted (((inOrder n).filter P).map fun t => mem t n) := by
  have := inOrder_sorted n
  unfold Sorted at *
  rw [List.pairwise_map] at *
  exact List.Pairwise.filter P this
theorem map_mem_inj : ∀ {l m : List Nat}, (∀ s ∈ l, s < 512) → (∀ s ∈ m, s < 512) → (l.map fun t => mem t 9) = (m.map fun t => mem t 9) → l = m
  | [], [], _, _, _ => rfl
  | [], _ :: _, _, _, h => by simp at h
  | _ :: _, [], _, _, h => by simp at h
  | a :: l, b :: m, h1, h2, h => by
    simp only [List.map_cons, List.cons.injEq] at h
    rw [mem_inj (n := 9) (h1 a (by simp)) (h2 b (by simp)) h.1, map_mem_inj (fun s hs => h1 s (by simp [hs])) (fun s hs => h2 s (by simp [hs])) h.2]
/-- A sorted list of just the least ones is theirs. -/
theorem leastL_unique {S : Nat → Bool} (hS : ∀ s, S s = true → s < 512) {l : List Nat} (hs : Sorted (l.map fun t => mem t 9)) (hm : ∀ s, s ∈ l ↔ minB S s = true) : l = leastL S := by
  refine map_mem_inj (fun s h => hS s ((minB_iff hS).1 ((hm s).1 h)).1) (fun s h => hS s ((minB_iff hS).1 ((mem_leastL hS).1 h)).1) (sorted_unique hs (filter_sorted 9 _) fun x => ?_)
  rw [List.mem_map, List.mem_map]
  constructor
  · rintro ⟨s, h1, h2⟩; exact ⟨s, (mem_leastL hS).2 ((hm s).1 h1), h2⟩
  · rintro ⟨s, h1, h2⟩; exact ⟨s, (hm s).2 ((mem_leastL hS).1 h1), h2⟩
end Go.Proofs.Ytnldodnpakpeeaa.Vo

namespace Go.Proofs.Ytnldodnpakpeeaa
open Go.RowKit Vo

theorem append_drawn {P : Program} {w w' : World} {v v' : Value} {base : Nat} {t ty e : TypeId} {i : TypeInfo} {z : Value} (ht : P.underlying t = some (.slice e)) (hi : P.info? e = some i) (hz : i.zero = some z)
    {n : Nat} {xs : List Value} (hown : w.ownsRow base e i.size v n xs) {a : Addr} {m c : Nat} {news : List Value} (hl : news.length = m * i.size) (hnews : ∀ j u, news[j]? = some u → w.cell? (a.add j) = some u) (h1 : ∀ u ∈ news, u.oneCell' = true)
    (hm : 0 < m) (h63 : n + m ≤ maxLen) (hbytes : (n + m) * i.bytes ≤ 140737488355328) (hr : (Builtin.append_ #[t, t] ty #[v, .slice (some a) m c]).run P w = .ok v' w') : w.drawn ≤ w'.drawn := by
  have hsmall : n + m ≤ 9223372036854775807 := by simp only [maxLen] at h63; omega
  rcases hown.2 with ⟨rfl, rfl⟩ | ⟨g, cap, cur, rfl, hbg, hg, hnc, hcm, hcs, htake⟩
  · have h2 := run_append_nil (P := P) w t ty e i z ht hi hz a m c news hl hnews (by omega) (by omega) (by have hb := hbytes; simp only [Nat.zero_add] at hb; omega)
    rw [hr] at h2
    injection h2 with _ h3
    subst h3
    exact Nat.le_succ _
  · by_cases hroom : n + m ≤ cap
    · have hfit : n * i.size + news.length ≤ cur.size := by rw [hl, hcs, ← Nat.add_mul]; exact Nat.mul_le_mul_right _ hroom
      have h2 := run_append_room (P := P) w t ty e i ht hi g n cap cur hg a m c news hl hnews h1 hroom hfit
      rw [hr] at h2
      injection h2 with _ h3
      subst h3
      exact Nat.le_refl _
    · have holds : ∀ j u, xs[j]? = some u → w.cell? ((⟨g, 0, none⟩ : Addr).add j) = some u := hown.cells (g := g) rfl
      have h2 := run_append_grow (P := P) w t ty e i z ht hi hz ⟨g, 0, none⟩ n cap xs hown.1 holds a m c news hl hnews (by omega) (by omega) (growslice_fits (by omega) hbytes)
      rw [hr] at h2
      injection h2 with _ h3
      subst h3
      exact Nat.le_succ _

/-- append of one element or more onto a slice of the call's own, with what was drawn. -/
theorem wpList_append_d {P : Program} (w : World) {ops : Array Oper} {rest : List Oper} {o : Oper} {a : Act} {Q : Exit → Act → World → Prop} (hgd : o.guard = none) (s x : Operand) (t : TypeId)
    (ho : o.op = .call { callee := .builtin .append, args := #[s, x], argTypes := #[t, t] })
    (base : Nat) (e : TypeId) (i : TypeInfo) (z : Value) (size bytes : Nat) (ht : P.underlying t = some (.slice e)) (hi : P.info? e = some i) (hz : i.zero = some z)
    (hsize : i.size = size) (hby : i.bytes = bytes) (hzs : z.cells.size = size) (hsz : 0 < size)
    (v : Value) (n : Nat) (xs : List Value) (hs : a.eval s = v) (hown : w.ownsRow base e size v n xs)
    (ad : Addr) (m c : Nat) (news : List Value) (hx : a.eval x = .slice (some ad) m c) (hl : news.length = m * size) (hnews : ∀ j u, news[j]? = some u → w.cell? (ad.add j) = some u) (h1 : ∀ u ∈ news, u.oneCell' = true)
    (hm : 0 < m) (h63 : n + m ≤ maxLen) (hbytes : (n + m) * bytes ≤ 140737488355328) (hbase : base ≤ w.heap.size)
    (h : ∀ gg cap w', w'.ownsRow base e size (.slice (some ⟨gg, 0, none⟩) (n + m) cap) (n + m) (xs ++ news) → w.grownBy w' v.ownBlock → (v.ownBlock = some gg ∨ gg = w.heap.size) → w.drawn ≤ w'.drawn → wpList P ops Q rest (a.put o.dst (.slice (some ⟨gg, 0, none⟩) (n + m) cap)) w') :
    wpList P ops Q (o :: rest) a w := by
  refine wpList_plain hgd fun K hK => ?_
  obtain ⟨v', w', hr, h2, h3, h4, h5⟩ := run_append_own_at (P := P) w base t o.type e i z size bytes ht hi hz hsize hby hzs hsz v n xs hown ad m c news hl hnews h1 h63 hbytes hbase
  have hd : w.drawn ≤ w'.drawn := by subst hsize; subst hby; exact append_drawn ht hi hz hown hl hnews h1 hm h63 hbytes hr
  obtain ⟨gg, cap, rfl⟩ : ∃ gg cap, v' = .slice (some ⟨gg, 0, none⟩) (n + m) cap := by
    rcases h2.2 with ⟨_, h0⟩ | ⟨g, cap, _, rfl, _⟩
    · omega
    · exact ⟨g, cap, rfl⟩
  unfold Oper.wp execOp
  simp only [ho, resolve, invoke, builtin, Sem.run_bind, Sem.run_pure, Result.andThen_ok, List.map_toArray, List.map_cons, List.map_nil, hs, hx, hr]
  refine hK _ _ (h gg cap w' h2 h3 ?_ hd)
  rcases h5 with h5 | h5
  · exact Or.inl (by rw [← h5]; rfl)
  · have : gg = w.heap.size := by simpa [Value.ownBlock] using h5
    exact Or.inr this

/-- make([]T, 0, n), with what was drawn. -/
theorem wpList_make_d {P : Program} (w : World) {ops : Array Oper} {rest : List Oper} {o : Oper} {a : Act} {Q : Exit → Act → World → Prop}
    (hg : o.guard = none) (l c : Operand) (t : TypeId) (hop : o.op = Op.makeSlice t l c)
    (base : Nat) (e : TypeId) (i : TypeInfo) (z : Value) (size : Nat) (h1 : P.underlying t = some (.slice e)) (h2 : P.info? e = some i) (h3 : i.zero = some z) (h4 : i.size = size)
    (kl kc : IntKind) (C : Int) (n : Nat) (hl : a.eval l = .int kl 0) (hc : a.eval c = .int kc C) (hC : C = (n : Int)) (b2 : i.bytes * n ≤ 281474976710656) (b3 : n ≤ maxLen) (b4 : base ≤ w.heap.size)
    (hK : ∀ w', w'.ownsRow base e size (.slice (some ⟨w.heap.size, 0, none⟩) 0 n) 0 [] → w.grownBy w' none → w.drawn ≤ w'.drawn → wpList P ops Q rest (a.put o.dst (.slice (some ⟨w.heap.size, 0, none⟩) 0 n)) w') :
    wpList P ops Q (o :: rest) a w := by
  refine wpList_plain hg fun K hK' => ?_
  obtain ⟨w', hrun, r1, r2⟩ := run_make_own (P := P) w base t e i z size h1 h2 h3 h4 kl kc n b2 b3 b4
  have hd : w.drawn ≤ w'.drawn := by
    have h63 : (n : Int) ≤ 9223372036854775807 := by simp only [maxLen] at b3; omega
    have hb' : (i.bytes : Int) * (n : Int) ≤ 281474976710656 := by
      have h : ((i.bytes * n : Nat) : Int) ≤ 281474976710656 := by omega
      rwa [Int.natCast_mul] at h
    have hr := run_make (P := P) w t e i z h1 h2 h3 kl kc 0 n (Int.le_refl _) (by omega) hb' h63
    rw [hrun] at hr
    injection hr with _ h3
    subst h3
    exact Nat.le_refl _
  subst hC
  unfold Oper.wp
  simp [execOp, hop, hl, hc, hrun, Result.andThen]
  exact hK' _ _ (hK w' r1 r2 hd)

/-- What only lays new blocks and draws is a world that has grown. -/
theorem grown_of {w w' : World} (hb : Below w.heap.size w w') (hd : w.drawn ≤ w'.drawn) : ∃ q os, w' = Sort.grow (w.drewN q) os := by
  refine ⟨w'.drawn - w.drawn, w'.heap.extract w.heap.size w'.heap.size, ?_⟩
  obtain ⟨h1, h2, h3, h4, h5⟩ := hb
  cases w with | mk h t d o p =>
  cases w' with | mk h' t' d' o' p' =>
  simp only at h1 h2 h3 h4 h5 hd
  subst h1 h2 h3
  simp only [Sort.grow, World.drewN]
  congr 1
  · apply Array.ext_getElem?
    intro k
    rw [Array.getElem?_append]
    by_cases hk : k < h.size
    · rw [if_pos hk]; exact h5 k hk
    · rw [if_neg hk]
      rw [Array.getElem?_extract]
      simp only [Nat.min_self]
      by_cases hk2 : k < h'.size
      · rw [if_pos (by omega)]
        congr 1; omega
      · rw [if_neg (by omega)]
        exact Array.getElem?_eq_none (by omega)
  · omega

/-- A list of the call's own, with what was drawn. -/
def IntsD (L : List Int) (w w' : World) (e : Ending) : Prop := IntsAt L w w' e ∧ w.drawn ≤ w'.drawn

set_option maxRecDepth 20000 in
set_option maxHeartbeats 2000000 in
theorem list_d (s : Nat) (w : World) (hs : s < 512) :
    Calls Try.prog 153 #[.int .u64 s] w fun e w' => IntsD (mem s 9) w w' e := by
  obtain ⟨i0, hi0, hz0, hz1, hz2⟩ := infoIntParts
  have h9 := mem_len s 9
  obtain ⟨L, hL⟩ : ∃ L, L = (mem s 9).length := ⟨_, rfl⟩
  rw [← hL] at h9
  have HL := Lib.hid hL
  clear hL
  go_enter Try.func153, Try.ntmps153
  go_wp2_with fail
  refine (size_any s _ hs).mono ?_
  rintro e w1 ⟨rfl, rfl⟩
  rw [← HL.out]
  go_wp2_with (at_make; refine wpList_make_d _ rfl _ _ 35 rfl w.heap.size 3 i0 (.int .i64 0) 1 Try.underlying35 hi0 hz0 hz1 .i64 .i64 L L rfl rfl rfl (by rw [hz2]; omega) (by unfold maxLen; omega) (by simp) ?_; intro w1 hown hgrow hdr0)
  go_loopw [3, 4, 8] (fun v _ i wr => ∃ (k : Nat) (A : Option Addr) (cap : Nat), k ≤ 9 ∧ i = .int .i64 k ∧ v = .slice A (mem s k).length cap ∧ wr.ownsRow w.heap.size 3 1 (.slice A (mem s k).length cap) (mem s k).length ((mem s k).map (Value.int .i64)) ∧ Below w.heap.size w wr ∧ w.drawn ≤ wr.drawn) (fun _ _ i _ => 9 - (intOf i).toNat)
  case atStart => exact ⟨0, some ⟨w.heap.size, 0, none⟩, L, by omega, rfl, rfl, hown, (Below.refl _ _).grown hgrow (Nat.le_refl _) (fun j hj => by cases hj), hdr0⟩
  case round =>
    obtain ⟨k, A, cap, hk, rfl, rfl, hown2, hb, hdw⟩ := hrel
    have HO := Lib.hid hown2
    have HDW := Lib.hid hdw
    clear hown2 hdw
    have hlen := mem_len s k
    have hsz := hb.size
    by_cases hk9 : k < 9
    · cases hbit : s.testBit k
      · have HB := Lib.hid hbit
        have HS := Lib.hid (mem_step0 hbit)
        clear hbit
        go_wp2_with (go_at_call 123; refine (has_any s k _ (by omega) hs).mono ?_; rintro e w' ⟨rfl, rfl⟩; rw [HB.out])
        go_roundw
        case rel => exact ⟨k + 1, A, cap, by omega, by go_num, by rw [HS.out], by rw [HS.out]; exact HO.out, hb, HDW.out⟩
        case measure => simp [intOf]; omega
      · have HB := Lib.hid hbit
        have HS := Lib.hid (mem_step1 hbit)
        clear hbit
        obtain ⟨m, hm⟩ : ∃ m, m = (mem s k).length := ⟨_, rfl⟩
        have HM := Lib.hid hm
        rw [← hm] at hlen HO ⊢
        clear hm
        go_wp2_with (first | (go_at_call 123; refine (has_any s k _ (by omega) hs).mono ?_; rintro e w' ⟨rfl, rfl⟩; rw [HB.out]) | (at_builtin; refine wpList_append_d _ rfl _ _ _ rfl w.heap.size 3 i0 _ 1 8 Try.underlying35 hi0 hz0 hz1 hz2 rfl (by decide) (.slice A m cap) m ((mem s k).map (Value.int .i64)) rfl (HO.out.alloc _) ⟨wr.heap.size, 0, none⟩ 1 1 [.int .i64 k] rfl rfl (World.news_of_block (cs := #[.int .i64 k]) (t := 3) (fr := (0, 0)) (heap_alloc_new wr _)) (by simp [Value.oneCell']) (by omega) (by unfold maxLen; omega) (by omega) (by simp; omega) ?_; intro gg cap2 w4 hown4 hgrow hat hd4))
        have hb4 : Below w.heap.size w w4 := (hb.alloc hsz (.cells #[.int .i64 k] 3)).grown hgrow (by simp; omega) fun j hj => owns_le HO.out hj
        go_roundw
        case rel => exact ⟨k + 1, some ⟨gg, 0, none⟩, cap2, by omega, by go_num, by rw [HS.out, HM.out]; simp, by rw [HS.out]; simpa [HM.out] using hown4, hb4, Nat.le_trans HDW.out hd4⟩
        case measure => simp [intOf]; omega
    · obtain rfl : k = 9 := by omega
      go_wp2
      go_ret
      exact ⟨⟨A, cap, rfl, HO.out, hb⟩, HDW.out⟩
end Go.Proofs.Ytnldodnpakpeeaa
