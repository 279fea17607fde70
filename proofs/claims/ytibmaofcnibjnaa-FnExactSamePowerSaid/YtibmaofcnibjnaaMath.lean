/- Plain facts on weights of sets (numbers whose bits are members), on bits, lists and their order; nothing of any program. -/
namespace Go.Proofs.Ytibmaofcnibjnaa.Vo


/-- The weights of the first k members of a set together. -/
def wtK (ws : List Int) (s : Nat) : Nat → Int
  | 0 => 0
  | k+1 => wtK ws s k + if s.testBit k then ws.getD k 0 else 0
/-- The first k weights together. -/
def sumK (ws : List Int) : Nat → Int
  | 0 => 0
  | k+1 => sumK ws k + ws.getD k 0

/-- The first k numbers lie in lo..hi. -/
def InK (lo hi : Int) (ws : List Int) (k : Nat) : Prop := ∀ j, j < k → lo ≤ ws.getD j 0 ∧ ws.getD j 0 ≤ hi
instance (lo hi ws k) : Decidable (InK lo hi ws k) := by unfold InK; infer_instance

/-- A committee with so many members: its quota and its weights. -/
structure Good (q : Int) (ws : List Int) (n : Nat) : Prop where
  lo : 1 ≤ n
  hi : n ≤ 9
  ok : InK 0 1000 ws n
  q1 : 1 ≤ q
  q2 : q ≤ sumK ws n

theorem good_iff (q ws n) : Good q ws n ↔ (1 ≤ n ∧ n ≤ 9 ∧ InK 0 1000 ws n ∧ 1 ≤ q ∧ q ≤ sumK ws n) :=
  ⟨fun h => ⟨h.lo, h.hi, h.ok, h.q1, h.q2⟩, fun ⟨a, b, c, d, e⟩ => ⟨a, b, c, d, e⟩⟩
instance (q ws n) : Decidable (Good q ws n) := decidable_of_iff _ (good_iff q ws n).symm
def goodB (q : Int) (ws : List Int) (n : Nat) : Bool := decide (Good q ws n)

theorem goodB_true {q ws n} (h : Good q ws n) : goodB q ws n = true := by simp [goodB, h]
theorem goodB_false {q ws n} (h : ¬ Good q ws n) : goodB q ws n = false := by simp [goodB, h]

theorem InK.succ {lo hi ws k} (h : InK lo hi ws k) (h1 : lo ≤ ws.getD k 0) (h2 : ws.getD k 0 ≤ hi) : InK lo hi ws (k+1) := by
  intro j hj
  by_cases e : j = k
  · subst e; exact ⟨h1, h2⟩
  · exact h j (by omega)
theorem InK.mono {lo hi ws k j} (h : InK lo hi ws k) (hj : j ≤ k) : InK lo hi ws j := fun i hi => h i (by omega)
theorem InK.zero {lo hi ws} : InK lo hi ws 0 := fun _ h => by omega

theorem sumK_bd {ws k} (h : InK 0 1000 ws k) : 0 ≤ sumK ws k ∧ sumK ws k ≤ 1000 * k := by
  induction k with
  | zero => simp [sumK]
  | succ k ih =>
    have := ih (h.mono (by omega)); have := h k (by omega)
    simp only [sumK]; omega

theorem wtK_bd {ws s k} (h : InK 0 1000 ws k) : 0 ≤ wtK ws s k ∧ wtK ws s k ≤ sumK ws k := by
  induction k with
  | zero => simp [sumK, wtK]
  | succ k ih =>
    have := ih (h.mono (by omega)); have := h k (by omega)
    simp only [sumK, wtK]; split <;> omega

theorem wtK_full {ws k n} (h : k ≤ n) : wtK ws (2^n - 1) k = sumK ws k := by
  induction k with
  | zero => rfl
  | succ k ih =>
    simp only [sumK, wtK]
    rw [ih (by omega), if_pos]
    simp [Nat.testBit_two_pow_sub_one]; omega

/-- All members but those of s. -/
def co (n s : Nat) : Nat := 2^n - 1 - s
theorem testBit_co {n s k} (hs : s < 2^n) : (co n s).testBit k = (decide (k < n) && !s.testBit k) := by
  unfold co
  rw [show 2^n - 1 - s = 2^n - (s + 1) by omega, Nat.testBit_two_pow_sub_succ hs]
theorem co_lt {n s} (_ : s < 2^n) : co n s < 2^n := by unfold co; have := Nat.two_pow_pos n; omega

theorem wtK_co {ws s k n} (hs : s < 2^n) (h : k ≤ n) : wtK ws (co n s) k = sumK ws k - wtK ws s k := by
  induction k with
  | zero => simp [wtK, sumK]
  | succ k ih =>
    simp only [wtK, sumK]
    rw [ih (by omega), testBit_co hs]
    have : decide (k < n) = true := by simp; omega
    rw [this]
    cases s.testBit k <;> simp <;> omega

theorem Good.tot {q ws n} (h : Good q ws n) : 0 ≤ sumK ws n ∧ sumK ws n ≤ 9000 := by
  have := sumK_bd h.ok; have := h.hi; omega
theorem Good.wt {q ws n s} (h : Good q ws n) : 0 ≤ wtK ws s n ∧ wtK ws s n ≤ 9000 := by
  have := wtK_bd (s := s) h.ok; have := h.tot; omega
theorem Good.all {q ws n} (_ : Good q ws n) : wtK ws (2^n - 1) n = sumK ws n := wtK_full (Nat.le_refl _)
theorem pow_lt {n : Nat} (h : n ≤ 9) : 2 ^ n ≤ 512 := by
  have : (2:Nat) ^ n ≤ 2 ^ 9 := Nat.pow_le_pow_right (by omega) h
  omega

/-- The members below k of a set, increasing. -/
def mem (s : Nat) : Nat → List Int
  | 0 => []
  | k+1 => mem s k ++ if s.testBit k then [(k : Int)] else []

theorem mem_len (s k : Nat) : (mem s k).length ≤ k := by
  induction k with
  | zero => simp [mem]
  | succ k ih => simp only [mem, List.length_append]; split <;> simp <;> omega

theorem mem_stop {s n : Nat} (hs : s < 2^n) {k : Nat} (h : n ≤ k) : mem s k = mem s n := by
  induction k with
  | zero => have : n = 0 := by omega
            rw [this]
  | succ k ih =>
    by_cases e : n = k + 1
    · rw [e]
    · rw [mem, ih (by omega), Nat.testBit_lt_two_pow (Nat.lt_of_lt_of_le hs (Nat.pow_le_pow_right (by omega) (by omega)))]
      simp

theorem mem_iff {s k : Nat} {x : Int} : x ∈ mem s k ↔ ∃ j : Nat, j < k ∧ x = j ∧ s.testBit j = true := by
  induction k with
  | zero => simp [mem]
  | succ k ih =>
    rw [mem, List.mem_append, ih]
    constructor
    · rintro (⟨j, h, e, t⟩ | h)
      · exact ⟨j, by omega, e, t⟩
      · split at h
        · simp at h; exact ⟨k, by omega, h, by assumption⟩
        · simp at h
    · rintro ⟨j, h, e, t⟩
      by_cases hj : j = k
      · subst hj; right; rw [if_pos t]; simp [e]
      · exact Or.inl ⟨j, by omega, e, t⟩

/-- The set with the first k numbers of a list as members. -/
def ofK (xs : List Int) : Nat → Nat
  | 0 => 0
  | k+1 => ofK xs k ||| 2 ^ (xs.getD k 0).toNat

/-- The first k of a list are members below n, each greater than the one before. -/
def RiseK (n : Int) (xs : List Int) (k : Nat) : Prop := ∀ j, j < k → 0 ≤ xs.getD j 0 ∧ xs.getD j 0 < n ∧ (1 ≤ j → xs.getD (j-1) 0 < xs.getD j 0)
instance (n xs k) : Decidable (RiseK n xs k) := by unfold RiseK; infer_instance
def riseB (n : Nat) (xs : List Int) (m : Nat) : Bool := decide (RiseK n xs m)
theorem RiseK.mono {n xs k j} (h : RiseK n xs k) (hj : j ≤ k) : RiseK n xs j := fun i hi => h i (by omega)
theorem RiseK.zero {n xs} : RiseK n xs 0 := fun _ h => by omega
theorem RiseK.succ {n xs k} (h : RiseK n xs k) (a : 0 ≤ xs.getD k 0) (b : xs.getD k 0 < n) (c : 1 ≤ k → xs.getD (k-1) 0 < xs.getD k 0) : RiseK n xs (k+1) := by
  intro j hj
  by_cases e : j = k
  · subst e; exact ⟨a, b, c⟩
  · exact h j (by omega)

theorem ofK_lt {n : Nat} {xs k} (h : RiseK n xs k) : ofK xs k < 2^n := by
  induction k with
  | zero => exact Nat.two_pow_pos n
  | succ k ih =>
    have h1 := ih (h.mono (by omega)); have h2 := h k (by omega)
    exact Nat.or_lt_two_pow h1 (Nat.pow_lt_pow_right (by omega) (by omega))

/-- The last of the first k of a list, -1 if there is none. -/
def lastK (xs : List Int) : Nat → Int
  | 0 => -1
  | k+1 => xs.getD k 0
theorem lastK_ge {n xs k} (h : RiseK n xs k) : -1 ≤ lastK xs k := by
  cases k with
  | zero => simp [lastK]
  | succ k => have := h k (by omega); simp only [lastK]; omega
theorem lastK_lt {n xs k} (h : RiseK n xs k) (hn : 0 ≤ n) : lastK xs k < n := by
  cases k with
  | zero => simp [lastK]; omega
  | succ k => have := h k (by omega); simp only [lastK]; omega
theorem rise_step {n xs k} (h : RiseK n xs k) (h1 : lastK xs k < xs.getD k 0) (h2 : xs.getD k 0 < n) : RiseK n xs (k+1) := by
  have := lastK_ge h
  refine h.succ (by omega) h2 fun hk => ?_
  cases k with
  | zero => omega
  | succ k => simpa [lastK] using h1
theorem rise_stop {n xs m k} (hk : k < m) (h : xs.getD k 0 ≤ lastK xs k ∨ n ≤ xs.getD k 0) : ¬ RiseK n xs m := by
  intro g
  have := g k hk
  cases k with
  | zero => simp only [lastK] at h; omega
  | succ k => have h2 : xs.getD k 0 < xs.getD (k+1) 0 := this.2.2 (by omega); have h3 := this.2.1; simp only [lastK] at h; omega
def ofB (n : Nat) (xs : List Int) (m : Nat) : Nat := if RiseK n xs m then ofK xs m else 0
theorem ofB_yes {n : Nat} {xs m} (h : RiseK n xs m) : ofB n xs m = ofK xs m := if_pos h
theorem ofB_no {n : Nat} {xs m} (h : ¬ RiseK n xs m) : ofB n xs m = 0 := if_neg h
theorem riseB_yes {n : Nat} {xs m} (h : RiseK n xs m) : riseB n xs m = true := decide_eq_true h
theorem riseB_no {n : Nat} {xs m} (h : ¬ RiseK n xs m) : riseB n xs m = false := decide_eq_false h

/-- How many numbers below k are of a kind. -/
def cnt (p : Nat → Bool) : Nat → Nat
  | 0 => 0
  | k+1 => cnt p k + if p k then 1 else 0
theorem cnt_le (p k) : cnt p k ≤ k := by
  induction k with
  | zero => simp [cnt]
  | succ k ih => simp only [cnt]; split <;> omega
theorem cnt_congr {p q : Nat → Bool} {k} (h : ∀ j, j < k → p j = q j) : cnt p k = cnt q k := by
  induction k with
  | zero => rfl
  | succ k ih => simp only [cnt]; rw [ih (fun j hj => h j (by omega)), h k (by omega)]

/-- All numbers below k are of a kind. -/
def allK (p : Nat → Bool) : Nat → Bool
  | 0 => true
  | k+1 => allK p k && p k
theorem allK_iff {p k} : allK p k = true ↔ ∀ j, j < k → p j = true := by
  induction k with
  | zero => simp [allK]
  | succ k ih =>
    simp only [allK, Bool.and_eq_true, ih]
    constructor
    · rintro ⟨a, b⟩ j hj
      by_cases e : j = k
      · subst e; exact b
      · exact a j (by omega)
    · intro h; exact ⟨fun j hj => h j (by omega), h k (by omega)⟩
theorem allK_false {p k} (j : Nat) (hj : j < k) (h : p j = false) : allK p k = false := by
  cases e : allK p k with
  | false => rfl
  | true => rw [allK_iff.1 e j hj] at h; cases h
theorem allK_congr {p q : Nat → Bool} {k} (h : ∀ j, j < k → p j = q j) : allK p k = allK q k := by
  induction k with
  | zero => rfl
  | succ k ih => simp only [allK]; rw [ih (fun j hj => h j (by omega)), h k (by omega)]




/-- One list comes before another one: the first differing element decides, and a beginning comes first. -/
def before : List Int → List Int → Bool
  | [], [] => false
  | [], _ :: _ => true
  | _ :: _, [] => false
  | a :: s, b :: t => if a = b then before s t else decide (a < b)

theorem before_irrefl (a : List Int) : before a a = false := by
  induction a with
  | nil => rfl
  | cons x a ih => simp [before, ih]
theorem before_trans : ∀ {a b c : List Int}, before a b = true → before b c = true → before a c = true := by
  intro a
  induction a with
  | nil => intro b c h1 h2; cases c with
    | nil => cases b <;> simp [before] at h1 h2
    | cons => rfl
  | cons x a ih =>
    intro b c h1 h2
    cases b with
    | nil => simp [before] at h1
    | cons y b =>
      cases c with
      | nil => simp [before] at h2
      | cons z c =>
        simp only [before] at *
        by_cases e1 : x = y
        · subst e1
          rw [if_pos rfl] at h1
          by_cases e2 : x = z
          · subst e2; rw [if_pos rfl] at h2 ⊢; exact ih h1 h2
          · rw [if_neg e2] at h2 ⊢; exact h2
        · rw [if_neg e1] at h1
          by_cases e2 : y = z
          · subst e2; rw [if_neg e1]; exact h1
          · rw [if_neg e2] at h2
            simp at h1 h2
            rw [if_neg (by omega)]; simp; omega
theorem before_total : ∀ {a b : List Int}, before a b = false → a ≠ b → before b a = true := by
  intro a
  induction a with
  | nil => intro b h1 h2; cases b with
    | nil => exact absurd rfl h2
    | cons => simp [before] at h1
  | cons x a ih =>
    intro b h1 h2
    cases b with
    | nil => rfl
    | cons y b =>
      simp only [before] at *
      by_cases e1 : x = y
      · subst e1
        rw [if_pos rfl] at h1 ⊢
        exact ih h1 (fun e => h2 (by rw [e]))
      · rw [if_neg e1] at h1; rw [if_neg (fun e => e1 e.symm)]
        simp at h1 ⊢; omega
theorem before_asymm {a b : List Int} (h : before a b = true) : before b a = false := by
  cases e : before b a with
  | false => rfl
  | true => have := before_trans h e; rw [before_irrefl] at this; cases this

def Sorted (l : List (List Int)) : Prop := l.Pairwise (fun a b => before a b = true)

/-- Two sorted lists with the same elements are the same. -/
theorem sorted_unique {l m : List (List Int)} (hl : Sorted l) (hm : Sorted m) (h : ∀ x, x ∈ l ↔ x ∈ m) : l = m := by
  induction l generalizing m with
  | nil =>
    cases m with
    | nil => rfl
    | cons b m => have := (h b).2 (by simp); cases this
  | cons a l ih =>
    cases m with
    | nil => have := (h a).1 (by simp); cases this
    | cons b m =>
      obtain ⟨ha, hl'⟩ := List.pairwise_cons.1 hl
      obtain ⟨hb, hm'⟩ := List.pairwise_cons.1 hm
      have e : a = b := by
        rcases List.mem_cons.1 ((h a).1 (by simp)) with e | h1
        · exact e
        rcases List.mem_cons.1 ((h b).2 (by simp)) with e | h2
        · exact e.symm
        have := before_asymm (hb a h1); rw [ha b h2] at this; cases this
      subst e
      congr 1
      refine ih hl' hm' fun x => ?_
      constructor
      · intro hx
        rcases List.mem_cons.1 ((h x).1 (by simp [hx])) with e | h1
        · subst e; have := ha x hx; rw [before_irrefl] at this; cases this
        · exact h1
      · intro hx
        rcases List.mem_cons.1 ((h x).2 (by simp [hx])) with e | h1
        · subst e; have := hb x hx; rw [before_irrefl] at this; cases this
        · exact h1

/-- A list put where it belongs: behind all that come before it. -/
def ins (x : List Int) : List (List Int) → List (List Int)
  | [] => [x]
  | y :: l => if before y x then y :: ins x l else x :: y :: l
def sortL (l : List (List Int)) : List (List Int) := l.foldl (fun out x => ins x out) []

theorem mem_ins {x y : List Int} {l} : y ∈ ins x l ↔ y = x ∨ y ∈ l := by
  induction l with
  | nil => simp [ins]
  | cons z l ih =>
    simp only [ins]; split
    · simp [ih]; constructor <;> (rintro (h | h | h) <;> simp [h])
    · simp
theorem sorted_ins {x : List Int} {l} (h : Sorted l) (hx : x ∉ l) : Sorted (ins x l) := by
  induction l with
  | nil => simp [ins, Sorted]
  | cons y l ih =>
    obtain ⟨hy, hl⟩ := List.pairwise_cons.1 h
    simp only [ins]; split
    · rename_i hb
      refine List.pairwise_cons.2 ⟨fun z hz => ?_, ih hl (fun e => hx (by simp [e]))⟩
      rcases mem_ins.1 hz with e | e
      · subst e; exact hb
      · exact hy z e
    · rename_i hb
      have hb' : before x y = true := before_total (by simpa using hb) (fun e => hx (by simp [e]))
      refine List.pairwise_cons.2 ⟨fun z hz => ?_, h⟩
      rcases List.mem_cons.1 hz with e | e
      · subst e; exact hb'
      · exact before_trans hb' (hy z e)
theorem foldl_ins {l out : List (List Int)} (h : Sorted out) (hd : l.Nodup) (hn : ∀ x ∈ l, x ∉ out) :
    Sorted (l.foldl (fun out x => ins x out) out) ∧ ∀ y, y ∈ l.foldl (fun out x => ins x out) out ↔ y ∈ l ∨ y ∈ out := by
  induction l generalizing out with
  | nil => simp [h]
  | cons x l ih =>
    obtain ⟨h1, h2⟩ := List.nodup_cons.1 hd
    have := ih (out := ins x out) (sorted_ins h (hn x (by simp))) h2 (fun z hz e => by
      rcases mem_ins.1 e with e | e
      · subst e; exact h1 hz
      · exact hn z (by simp [hz]) e)
    refine ⟨this.1, fun y => ?_⟩
    rw [List.foldl_cons, this.2, mem_ins]
    simp; constructor
    · rintro (h | h | h) <;> simp [h]
    · rintro ((h | h) | h) <;> simp [h]
theorem sortL_sorted {l : List (List Int)} (hd : l.Nodup) : Sorted (sortL l) := (foldl_ins List.Pairwise.nil hd (fun _ _ => by simp)).1
theorem mem_sortL {l : List (List Int)} (hd : l.Nodup) (y) : y ∈ sortL l ↔ y ∈ l := by
  rw [sortL, (foldl_ins List.Pairwise.nil hd (fun _ _ => by simp)).2]; simp

/-- All sets that begin with s and go on with at least one of the last d of n members, in order. -/
def more (n : Nat) : Nat → Nat → List Nat
  | 0, _ => []
  | d+1, s => (s ||| 2^(n-(d+1))) :: (more n d (s ||| 2^(n-(d+1))) ++ more n d s)
def inOrder (n : Nat) : List Nat := 0 :: more n n 0

/-- Members lists of these. -/
def moreL (n : Nat) : Nat → List (List Int)
  | 0 => []
  | d+1 => [((n-(d+1) : Nat) : Int)] :: ((moreL n d).map (fun x => ((n-(d+1) : Nat) : Int) :: x) ++ moreL n d)

theorem moreL_head {n d : Nat} (hd : d ≤ n) : ∀ x ∈ moreL n d, ∃ a t, x = a :: t ∧ ((n - d : Nat) : Int) ≤ a := by
  induction d with
  | zero => simp [moreL]
  | succ d ih =>
    intro x hx
    simp only [moreL, List.mem_cons, List.mem_append, List.mem_map] at hx
    rcases hx with e | ⟨y, _, e⟩ | h
    · exact ⟨_, _, e, by omega⟩
    · exact ⟨_, _, e.symm, by omega⟩
    · obtain ⟨a, t, e, h⟩ := ih (by omega) x h
      exact ⟨a, t, e, by omega⟩

theorem moreL_sorted {n d : Nat} (hd : d ≤ n) : Sorted (moreL n d) := by
  induction d with
  | zero => exact List.Pairwise.nil
  | succ d ih =>
    have ih := ih (by omega)
    refine List.pairwise_cons.2 ⟨fun x hx => ?_, List.pairwise_append.2 ⟨?_, ih, fun x hx y hy => ?_⟩⟩
    · rcases List.mem_append.1 hx with h | h
      · obtain ⟨y, hy, rfl⟩ := List.mem_map.1 h
        obtain ⟨a, t, rfl, _⟩ := moreL_head (by omega) y hy
        simp [before]
      · obtain ⟨a, t, rfl, h⟩ := moreL_head (by omega) x h
        simp only [before]; rw [if_neg (by omega)]; simp; omega
    · exact List.Pairwise.map _ (fun a b h => by simpa [before] using h) ih
    · obtain ⟨z, hz, rfl⟩ := List.mem_map.1 hx
      obtain ⟨a, t, rfl, h⟩ := moreL_head (by omega) y hy
      simp only [before]; rw [if_neg (by omega)]; simp; omega

theorem mem_or {s j n : Nat} (hs : s < 2^j) (hj : j < n) : mem (s ||| 2^j) n = mem s n ++ [(j : Int)] := by
  have hlt : s ||| 2^j < 2^(j+1) := Nat.or_lt_two_pow (Nat.lt_trans hs (Nat.pow_lt_pow_right (by omega) (by omega))) (Nat.pow_lt_pow_right (by omega) (by omega))
  have hsame : ∀ k, k ≤ j → mem (s ||| 2^j) k = mem s k := by
    intro k
    induction k with
    | zero => intro _; rfl
    | succ k ih =>
      intro hk
      simp only [mem]; rw [ih (by omega)]
      rw [Nat.testBit_or, Nat.testBit_two_pow_of_ne (by omega)]; simp
  rw [mem_stop hlt (by omega), mem_stop hs (by omega), mem, hsame j (Nat.le_refl _), Nat.testBit_or, Nat.testBit_two_pow_self]
  simp

theorem more_mem {n d s : Nat} (hd : d ≤ n) (hs : s < 2^(n-d)) : (more n d s).map (fun t => mem t n) = (moreL n d).map (fun x => mem s n ++ x) := by
  induction d generalizing s with
  | zero => rfl
  | succ d ih =>
    have h1 : s ||| 2^(n-(d+1)) < 2^(n-d) := by
      refine Nat.or_lt_two_pow (Nat.lt_of_lt_of_le hs (Nat.pow_le_pow_right (by omega) (by omega))) (Nat.pow_lt_pow_right (by omega) (by omega))
    have h2 : s < 2^(n-d) := Nat.lt_of_lt_of_le hs (Nat.pow_le_pow_right (by omega) (by omega))
    simp only [more, moreL, List.map_cons, List.map_append, List.map_map]
    rw [ih (by omega) h1, ih (by omega) h2, mem_or hs (by omega)]
    simp [Function.comp_def, List.append_assoc]

theorem mem_zero (k : Nat) : mem 0 k = [] := by
  induction k with
  | zero => rfl
  | succ k ih => simp [mem, ih]

theorem inOrder_lists (n : Nat) : (inOrder n).map (fun t => mem t n) = [] :: moreL n n := by
  simp only [inOrder, List.map_cons, mem_zero]
  rw [more_mem (Nat.le_refl _) (by simp)]
  simp [mem_zero]
theorem inOrder_sorted (n : Nat) : Sorted ((inOrder n).map fun t => mem t n) := by
  rw [inOrder_lists]
  refine List.pairwise_cons.2 ⟨fun x hx => ?_, moreL_sorted (Nat.le_refl _)⟩
  obtain ⟨a, t, rfl, _⟩ := moreL_head (Nat.le_refl _) x hx
  rfl

theorem mem_more {n d s t : Nat} (hd : d ≤ n) (hs : s < 2^(n-d)) : t ∈ more n d s ↔ t < 2^n ∧ t ≠ s ∧ ∀ j, j < n - d → t.testBit j = s.testBit j := by
  induction d generalizing s with
  | zero =>
    simp only [more, Nat.sub_zero] at *
    constructor
    · intro h; cases h
    · rintro ⟨h1, h2, h3⟩
      exfalso; apply h2
      apply Nat.eq_of_testBit_eq
      intro j
      by_cases hj : j < n
      · exact h3 j hj
      · rw [Nat.testBit_lt_two_pow (Nat.lt_of_lt_of_le h1 (Nat.pow_le_pow_right (by omega) (by omega))), Nat.testBit_lt_two_pow (Nat.lt_of_lt_of_le hs (Nat.pow_le_pow_right (by omega) (by omega)))]
  | succ d ih =>
    have h1 : s ||| 2^(n-(d+1)) < 2^(n-d) := by
      refine Nat.or_lt_two_pow (Nat.lt_of_lt_of_le hs (Nat.pow_le_pow_right (by omega) (by omega))) (Nat.pow_lt_pow_right (by omega) (by omega))
    have h2 : s < 2^(n-d) := Nat.lt_of_lt_of_le hs (Nat.pow_le_pow_right (by omega) (by omega))
    have h3 : s ||| 2^(n-(d+1)) < 2^n := Nat.lt_of_lt_of_le h1 (Nat.pow_le_pow_right (by omega) (by omega))
    have hbit : ∀ j, j < n - (d+1) → (s ||| 2^(n-(d+1))).testBit j = s.testBit j := by
      intro j hj; rw [Nat.testBit_or, Nat.testBit_two_pow_of_ne (by omega)]; simp
    have hself : (s ||| 2^(n-(d+1))).testBit (n-(d+1)) = true := by rw [Nat.testBit_or, Nat.testBit_two_pow_self]; simp
    have hs0 : s.testBit (n-(d+1)) = false := Nat.testBit_lt_two_pow hs
    have hne : s ||| 2^(n-(d+1)) ≠ s := fun e => by rw [e, hs0] at hself; cases hself
    simp only [more, List.mem_cons, List.mem_append]
    rw [ih (by omega) h1, ih (by omega) h2]
    constructor
    · rintro (e | ⟨a, b, c⟩ | ⟨a, b, c⟩)
      · subst e; exact ⟨h3, hne, hbit⟩
      · refine ⟨a, fun e => ?_, fun j hj => (c j (by omega)).trans (hbit j hj)⟩
        have := c (n-(d+1)) (by omega); rw [hself, e, hs0] at this; cases this
      · exact ⟨a, b, fun j hj => c j (by omega)⟩
    · rintro ⟨a, b, c⟩
      cases ht : t.testBit (n-(d+1)) with
      | false =>
        right; right
        refine ⟨a, b, fun j hj => ?_⟩
        by_cases e : j = n-(d+1)
        · rw [e, ht, hs0]
        · exact c j (by omega)
      | true =>
        by_cases e : t = s ||| 2^(n-(d+1))
        · exact Or.inl e
        · right; left
          refine ⟨a, e, fun j hj => ?_⟩
          by_cases e : j = n-(d+1)
          · rw [e, ht, hself]
          · rw [hbit j (by omega)]; exact c j (by omega)

theorem mem_inOrder {n t : Nat} : t ∈ inOrder n ↔ t < 2^n := by
  simp only [inOrder, List.mem_cons]
  rw [mem_more (Nat.le_refl _) (by simp)]
  constructor
  · rintro (e | ⟨a, _⟩)
    · subst e; exact Nat.two_pow_pos n
    · exact a
  · intro h
    by_cases e : t = 0
    · exact Or.inl e
    · exact Or.inr ⟨h, e, fun j hj => by omega⟩

theorem mem_inj {n s t : Nat} (hs : s < 2^n) (ht : t < 2^n) (h : mem s n = mem t n) : s = t := by
  apply Nat.eq_of_testBit_eq
  intro j
  by_cases hj : j < n
  · have e : ∀ u : Nat, u.testBit j = decide ((j : Int) ∈ mem u n) := by
      intro u
      rw [Bool.eq_iff_iff, decide_eq_true_iff, mem_iff]
      constructor
      · intro h; exact ⟨j, hj, rfl, h⟩
      · rintro ⟨i, _, e, t⟩; have : i = j := by omega
        subst this; exact t
    rw [e s, e t, h]
  · rw [Nat.testBit_lt_two_pow (Nat.lt_of_lt_of_le hs (Nat.pow_le_pow_right (by omega) (by omega))), Nat.testBit_lt_two_pow (Nat.lt_of_lt_of_le ht (Nat.pow_le_pow_right (by omega) (by omega)))]

/-- The sets of a kind in order, and the same by sorting. -/
theorem order_is_sort (n : Nat) (p : Nat → Bool) : ((inOrder n).filter p).map (fun t => mem t n) = sortL (((List.range (2^n)).filter p).map fun t => mem t n) := by
  have hnd : (((List.range (2^n)).filter p).map fun t => mem t n).Nodup := by
    refine List.pairwise_map.2 ?_
    refine List.Pairwise.imp_of_mem ?_ (List.Pairwise.filter p List.nodup_range)
    intro a b ha hb hne e
    simp at ha hb
    exact hne (mem_inj ha.1 hb.1 e)
  refine sorted_unique ?_ (sortL_sorted hnd) fun x => ?_
  · have := inOrder_sorted n
    unfold Sorted at *
    rw [List.pairwise_map] at *
    exact List.Pairwise.filter p this
  · rw [mem_sortL hnd]
    simp [mem_inOrder]


end Go.Proofs.Ytibmaofcnibjnaa.Vo
