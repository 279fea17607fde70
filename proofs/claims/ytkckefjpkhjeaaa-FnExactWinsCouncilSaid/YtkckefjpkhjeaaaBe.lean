/- Contracts of swings, where the function that is asked may remember what it answered. -/
import Derived.Test.YtkckefjpkhjeaaaBd
namespace Go.Proofs.Ytkckefjpkhjeaaa
open Go.RowKit Vo

theorem Asks.r {p : Nat → Bool} {k : Nat} {first cap : Array Value} {n : Nat} {w : World} (h : Asks p k first cap n w) : AsksR p k first cap n w.heap.size none (fun W => Below w.heap.size w W) :=
  ⟨h.enters, fun _ h => (by cases h), fun _ _ h k => h.trans k, fun _ h => h.size, fun W s hs hI => (h.gives W s hs hI).mono fun _ _ ⟨he, hb⟩ => ⟨he, bfrom hI hb, gof none hb (Nat.le_refl _)⟩⟩
theorem below_of_grown {w w' : World} (h : w.grownBy w' none) : Below w.heap.size w w' := ⟨h.os, h.tape, h.output, h.size, fun k hk => h.block k hk (by simp)⟩

set_option maxHeartbeats 1000000 in
theorem isSwingR_any (p : Nat → Bool) (f : Nat) (first cap : Array Value) (n s k B : Nat) (row : Option Nat) (I : World → Prop) (w : World) (hn : n < 10) (hs : s < 2^n) (hk : k < n) (ha : AsksR p f first cap n B row I) (hI : I w) :
    Calls Try.prog 153 #[.func (.func f) first cap, .int .u64 s, .int .i64 k] w fun e w' => e = .returned (.bool (swP p k s)) ∧ I w' ∧ w.grownBy w' row := by
  have HA := Lib.hid ha
  have eg := ha.enters
  have HI := Lib.hid hI
  have h512 : s < 512 := by have := pow_lt (n := n) (by omega); omega
  have hor : s ||| 2^k < 2^n := or_pow_lt hs hk
  have HOR := Lib.hid hor
  have HS := Lib.hid hs
  have HP := Lib.hid (show swP p k s = (!s.testBit k && (!p s && p (s ||| 2^k))) from rfl)
  clear ha hs hor hI
  cases ht : s.testBit k
  · cases hd : p s
    · have HT := Lib.hid ht
      have HD := Lib.hid hd
      clear ht hd
      go_enter Try.func153, Try.ntmps153
      go_wp2_with (first
        | (go_at_call 147; refine (has_any s k _ (by omega) h512).mono ?_; rintro e w0 ⟨rfl, rfl⟩; rw [HT.out])
        | (go_at_call 129; refine (with_any s k _ (by omega) h512).mono ?_; rintro e w2 ⟨rfl, rfl⟩)
        | (go_at_fn f; (with_reducible refine (HA.out.gives _ s HS.out HI.out).mono ?_); rintro e w1 ⟨rfl, hi1, hg1⟩; rw [HD.out]; have HI1 := Lib.hid hi1; have HG1 := Lib.hid hg1; clear hi1 hg1)
        | (go_at_fn f; (with_reducible refine (HA.out.gives _ (s ||| 2^k) HOR.out HI1.out).mono ?_); rintro e w3 ⟨rfl, hi3, hg3⟩; have HI3 := Lib.hid hi3; have HG3 := Lib.hid hg3; clear hi3 hg3)
        | fail)
      go_ret
      exact ⟨by rw [HP.out, HT.out, HD.out]; simp, HI3.out, HG1.out.trans HG3.out⟩
    · have HT := Lib.hid ht
      have HD := Lib.hid hd
      clear ht hd
      go_enter Try.func153, Try.ntmps153
      go_wp2_with (first
        | (go_at_call 147; refine (has_any s k _ (by omega) h512).mono ?_; rintro e w0 ⟨rfl, rfl⟩; rw [HT.out])
        | (go_at_fn f; (with_reducible refine (HA.out.gives _ s HS.out HI.out).mono ?_); rintro e w1 ⟨rfl, hi1, hg1⟩; rw [HD.out]; have HI1 := Lib.hid hi1; have HG1 := Lib.hid hg1; clear hi1 hg1)
        | fail)
      go_ret
      exact ⟨by rw [HP.out, HT.out, HD.out]; rfl, HI1.out, HG1.out⟩
  · have HT := Lib.hid ht
    clear ht
    go_enter Try.func153, Try.ntmps153
    go_wp2_with (go_at_call 147; refine (has_any s k _ (by omega) h512).mono ?_; rintro e w0 ⟨rfl, rfl⟩; rw [HT.out])
    go_ret
    exact ⟨by rw [HP.out, HT.out]; simp, HI.out, World.grownBy.refl _ _⟩

set_option maxHeartbeats 1000000 in
theorem swings1R_any (p : Nat → Bool) (f : Nat) (first cap : Array Value) (n s k g g2 B : Nat) (row : Option Nat) (I : World → Prop) (w : World) (hn : n < 10) (hs : s < 2^n) (hk : k < n) (ha : AsksR p f first cap n B row I) (hI : I w) (hx : Box1 78 w g (.func (.func f) first cap)) (hi : BoxI w g2 (.int .i64 k)) :
    Calls Try.prog 152 #[.int .u64 s, .pointer (some ⟨g, 0, none⟩), .pointer (some ⟨g2, 0, none⟩)] w fun e w' => e = .returned (.bool (swP p k s)) ∧ I w' ∧ w.grownBy w' row := by
  have HA := Lib.hid ha
  have HI := Lib.hid hI
  clear ha hI
  have hcx := hx.cell
  have hci := hi.cell
  go_enter Try.func152, Try.ntmps152
  go_wp2_with fail
  refine (isSwingR_any p f first cap n s k B row I _ hn hs hk HA.out HI.out).mono ?_
  rintro e w1 ⟨rfl, hi1, hg1⟩
  have HI1 := Lib.hid hi1
  have HG1 := Lib.hid hg1
  clear hi1 hg1
  go_wp2
  go_ret
  exact ⟨rfl, HI1.out, HG1.out⟩
theorem Box1.gkeep {t : TypeId} {w w' : World} {g B : Nat} {v : Value} (h : Box1 t w g v) (hb : Below B w w') (hg : g < B) : Box1 t w' g v := (hb.block g hg).trans h
theorem Box1.ggrow {t : TypeId} {w w' : World} {g : Nat} {v : Value} {row : Option Nat} (h : Box1 t w g v) (hb : w.grownBy w' row) (hg : some g ≠ row) : Box1 t w' g v := (hb.block g h.lt hg).trans h

/-- The function of swings of member k, its two captured variables in g and g2, which lie between the old base and the new one. -/
theorem swings_asksR (p : Nat → Bool) (f : Nat) (first cap : Array Value) (n k g g2 B B2 : Nat) (row : Option Nat) (I : World → Prop) (hn : n < 10) (hk : k < n) (hg : B ≤ g) (hg2 : B ≤ g2) (h3 : g < B2) (h4 : g2 < B2) (hB : B ≤ B2) (ha : AsksR p f first cap n B row I) :
    AsksR (swP p k) 152 #[] #[.pointer (some ⟨g, 0, none⟩), .pointer (some ⟨g2, 0, none⟩)] n B2 row (fun W => I W ∧ B2 ≤ W.heap.size ∧ Box1 78 W g (.func (.func f) first cap) ∧ BoxI W g2 (.int .i64 k)) :=
  ⟨enters_of Try.func152 (by kernel_rfl) rfl, fun r hr => Nat.lt_of_lt_of_le (ha.low r hr) hB,
   fun W W' h hb => ⟨ha.keeps W W' h.1 (hb.mono hB), Nat.le_trans h.2.1 hb.size, h.2.2.1.gkeep hb h3, Box1.gkeep (t := 3) h.2.2.2 hb h4⟩, fun W h => h.2.1,
   fun W s hs h => (swings1R_any p f first cap n s k g g2 B row I W hn hs hk ha h.1 h.2.2.1 h.2.2.2).mono fun e W' ⟨he, hi, hgr⟩ =>
     ⟨he, ⟨hi, Nat.le_trans h.2.1 hgr.size, h.2.2.1.ggrow hgr (fun e => by have := ha.low g e.symm; omega), Box1.ggrow (t := 3) h.2.2.2 hgr (fun e => by have := ha.low g2 e.symm; omega)⟩, hgr⟩⟩

set_option maxHeartbeats 1000000 in
theorem countSwingsR_any (p : Nat → Bool) (f : Nat) (first cap : Array Value) (n k B : Nat) (row : Option Nat) (I : World → Prop) (w : World) (hn : n < 10) (hk : k < n) (ha : AsksR p f first cap n B row I) (hI : I w) :
    Calls Try.prog 144 #[.int .i64 n, .func (.func f) first cap, .int .i64 k] w fun e w' => e = .returned (.int .i64 (cnt (swP p k) (2^n) : Nat)) ∧ I w' ∧ w.grownBy w' row := by
  have hBw := ha.big w hI
  have HA := Lib.hid ha
  have hb0 : Below w.heap.size w ((w.alloc (.cells #[.func (.func f) first cap] 78)).alloc (.cells #[.int .i64 k] 3)) := (below1 w _).alloc (by simp) _
  have hx := (Box1.new 78 w (.func (.func f) first cap)).alloc (.cells #[.int .i64 k] 3)
  have hi := BoxI.new (w.alloc (.cells #[.func (.func f) first cap] 78)) (.int .i64 k)
  simp only [World.size_alloc] at hi
  have HI0 := Lib.hid (ha.keeps _ _ hI (hb0.mono hBw))
  have HQ := Lib.hid (swings_asksR p f first cap n k w.heap.size (w.heap.size + 1) B (w.heap.size + 2) row I hn hk hBw (by omega) (by omega) (by omega) (by omega) ha)
  clear ha hI
  go_enter Try.func144, Try.ntmps144
  go_wp2_with fail
  refine (countSetsR_any (swP p k) _ _ _ n _ row _ _ hn HQ.out ⟨HI0.out, by simp, hx, hi⟩).mono ?_
  rintro e w2 ⟨rfl, hi2, hg2⟩
  have HI2 := Lib.hid hi2.1
  have HG2 := Lib.hid (gcons hb0 hg2)
  clear hi2 hg2
  go_wp2
  go_ret
  exact ⟨rfl, HI2.out, HG2.out⟩

/-- The function value (k, first, cap), called with a member, answers a number; of what was there it turns one block alone. -/
structure NumsR (f : Nat → Nat) (k : Nat) (first cap : Array Value) (n B : Nat) (row : Option Nat) (I : World → Prop) : Prop where
  enters : ∀ args W, (callFunc k args).run Try.prog W = .ok (.enter k args) W
  low : ∀ r, row = some r → r < B
  keeps : ∀ W W', I W → Below B W W' → I W'
  big : ∀ W, I W → B ≤ W.heap.size
  gives : ∀ (W : World) (j : Nat), j < n → I W → Calls Try.prog k (first.push (.int .i64 j) ++ cap) W fun e W' => e = .returned (.int .i64 (f j : Nat)) ∧ I W' ∧ W.grownBy W' row

/-- A row of the call's own of these numbers; of what was there one block alone has turned. -/
def IntsAtR (L : List Int) (row : Option Nat) (I : World → Prop) (w w' : World) (e : Ending) : Prop :=
  ∃ A cap, e = .returned (.slice A L.length cap) ∧ w'.ownsRow w.heap.size 3 1 (.slice A L.length cap) L.length (L.map (Value.int .i64)) ∧ I w' ∧ w.grownBy w' row

set_option maxHeartbeats 2000000 in
theorem forEachOfR_any (f : Nat → Nat) (k : Nat) (first cap2 : Array Value) (n B : Nat) (row : Option Nat) (I : World → Prop) (w : World) (hn : n < 10) (hf : NumsR f k first cap2 n B row I) (hI : I w) :
    Calls Try.prog 142 #[.int .i64 n, .func (.func k) first cap2] w fun e w' => IntsAtR (perL f n) row I w w' e := by
  have hBw := hf.big w hI
  have HF := Lib.hid hf
  have HI := Lib.hid hI
  have eg := hf.enters
  have HRB := Lib.hid (show ∀ r, row = some r → r < w.heap.size from fun r hr => by have := hf.low r hr; omega)
  clear hf hI
  obtain ⟨i0, hi0, hz0, hz1, hz2⟩ := infoIntParts
  go_enter Try.func142, Try.ntmps142
  go_wp2_with (first
    | (at_make; refine wpList_make_own _ rfl _ _ 29 rfl w.heap.size 3 i0 (.int .i64 0) 1 Try.underlying29 hi0 hz0 hz1 .i64 .i64 n n rfl rfl rfl (by rw [hz2]; omega) (by unfold maxLen; omega) (by simp) ?_; intro w2 hown hgrow; have b2 : Below w.heap.size w w2 := (Below.refl _ _).grown hgrow (Nat.le_refl _) (fun j hj => by cases hj); have HO2 := Lib.hid hown; clear hown hgrow)
    | fail)
  have HI2 := Lib.hid (HF.out.keeps _ _ HI.out (b2.mono hBw))
  have HG2 := Lib.hid (gof row b2 (Nat.le_refl _))
  go_loopw [5, 6, 10] (fun u _ i wr => ∃ (j : Nat) (A : Option Addr) (cap : Nat), j ≤ n ∧ i = .int .i64 j ∧ u = .slice A j cap ∧ wr.ownsRow w.heap.size 3 1 (.slice A j cap) j ((perL f j).map (Value.int .i64)) ∧ I wr ∧ w.grownBy wr row) (fun _ _ i _ => n - (intOf i).toNat)
  case atStart => exact ⟨0, some ⟨w.heap.size, 0, none⟩, n, Nat.zero_le _, rfl, rfl, HO2.out, HI2.out, HG2.out⟩
  case round =>
    obtain ⟨j, A, cap3, hj, rfl, rfl, hown, hir, hgr⟩ := hrel
    have HO := Lib.hid hown
    have HIR := Lib.hid hir
    have HG := Lib.hid hgr
    have hszr := hgr.size
    clear hown hir hgr
    by_cases hlt : j < n
    · have HS := Lib.hid (perL_succ f j)
      go_wp2_with (first | (go_at_fn k; refine (HF.out.gives _ j hlt HIR.out).mono ?_; rintro e w5 ⟨rfl, hi5, hg5⟩; have HO5 := Lib.hid (owns_gnow HO.out hg5 HRB.out); have HI5 := Lib.hid hi5; have HG5 := Lib.hid (HG.out.trans hg5); have hsz5 := HG5.out.size; clear hi5 hg5) | (at_builtin; refine wpList_append_lies _ rfl _ _ _ rfl w.heap.size 3 i0 _ 1 8 Try.underlying29 hi0 hz0 hz1 hz2 rfl (by decide) (.slice A j cap3) j ((perL f j).map (Value.int .i64)) rfl (HO5.out.alloc _) ⟨w5.heap.size, 0, none⟩ 1 1 [.int .i64 (f j : Nat)] rfl rfl (World.news_of_block (cs := #[.int .i64 (f j : Nat)]) (t := 3) (fr := (0, 0)) (heap_alloc_new w5 _)) (by simp [Value.oneCell']) (by omega) (by unfold maxLen; omega) (by omega) (by simp; omega) (w5.heap.size + 1) (by simp) ?_; intro gg cap4 w6 hown6 hgrow6 hat hlt6) | fail)
      have b6 : Below w.heap.size w5 w6 := ((Below.refl _ _).alloc hsz5 (.cells #[.int .i64 (f j : Nat)] 3)).grown hgrow6 (by simp; omega) fun i hi => owns_le HO5.out hi
      have HI6 := Lib.hid (HF.out.keeps _ _ HI5.out (b6.mono hBw))
      have HG6 := Lib.hid (gstep (gstep HG5.out (World.grownBy_alloc w5 (.cells #[.int .i64 (f j : Nat)] 3) none) (fun j hj => by cases hj)) hgrow6 (fun i hi => owns_le HO5.out hi))
      go_roundw
      case rel => exact ⟨j + 1, some ⟨gg, 0, none⟩, cap4, by omega, by go_num, by simp, by rw [HS.out]; simpa using hown6, HI6.out, HG6.out⟩
      case measure => simp [intOf]; omega
    · obtain rfl : j = n := by omega
      have HLE := Lib.hid (perL_len f j)
      go_wp2
      go_ret
      exact ⟨A, cap3, by rw [HLE.out]; rfl, by rw [HLE.out]; exact HO.out, HIR.out, HG.out⟩

set_option maxHeartbeats 1000000 in
theorem swingsOfEach1R_any (p : Nat → Bool) (f : Nat) (first cap : Array Value) (n k g g2 B : Nat) (row : Option Nat) (I : World → Prop) (w : World) (hn : n < 10) (hk : k < n) (ha : AsksR p f first cap n B row I) (hI : I w) (hi : BoxI w g (.int .i64 n)) (hx : Box1 78 w g2 (.func (.func f) first cap)) :
    Calls Try.prog 143 #[.int .i64 k, .pointer (some ⟨g, 0, none⟩), .pointer (some ⟨g2, 0, none⟩)] w fun e w' => e = .returned (.int .i64 (cnt (swP p k) (2^n) : Nat)) ∧ I w' ∧ w.grownBy w' row := by
  have HA := Lib.hid ha
  have HI := Lib.hid hI
  clear ha hI
  have hcx := hx.cell
  have hci := hi.cell
  go_enter Try.func143, Try.ntmps143
  go_wp2_with fail
  refine (countSwingsR_any p f first cap n k B row I _ hn hk HA.out HI.out).mono ?_
  rintro e w1 ⟨rfl, hi1, hg1⟩
  have HI1 := Lib.hid hi1
  have HG1 := Lib.hid hg1
  clear hi1 hg1
  go_wp2
  go_ret
  exact ⟨rfl, HI1.out, HG1.out⟩
theorem swingsOfEach_numsR (p : Nat → Bool) (f : Nat) (first cap : Array Value) (n g g2 B B2 : Nat) (row : Option Nat) (I : World → Prop) (hn : n < 10) (hg : B ≤ g) (hg2 : B ≤ g2) (h3 : g < B2) (h4 : g2 < B2) (hB : B ≤ B2) (ha : AsksR p f first cap n B row I) :
    NumsR (fun k => cnt (swP p k) (2^n)) 143 #[] #[.pointer (some ⟨g, 0, none⟩), .pointer (some ⟨g2, 0, none⟩)] n B2 row (fun W => I W ∧ B2 ≤ W.heap.size ∧ BoxI W g (.int .i64 n) ∧ Box1 78 W g2 (.func (.func f) first cap)) :=
  ⟨enters_of Try.func143 (by kernel_rfl) rfl, fun r hr => Nat.lt_of_lt_of_le (ha.low r hr) hB,
   fun W W' h hb => ⟨ha.keeps W W' h.1 (hb.mono hB), Nat.le_trans h.2.1 hb.size, Box1.gkeep (t := 3) h.2.2.1 hb h3, h.2.2.2.gkeep hb h4⟩, fun W h => h.2.1,
   fun W k hk h => (swingsOfEach1R_any p f first cap n k g g2 B row I W hn hk ha h.1 h.2.2.1 h.2.2.2).mono fun e W' ⟨he, hi, hgr⟩ =>
     ⟨he, ⟨hi, Nat.le_trans h.2.1 hgr.size, Box1.ggrow (t := 3) h.2.2.1 hgr (fun e => by have := ha.low g e.symm; omega), h.2.2.2.ggrow hgr (fun e => by have := ha.low g2 e.symm; omega)⟩, hgr⟩⟩

set_option maxHeartbeats 1000000 in
theorem swingsOfEachR_any (p : Nat → Bool) (f : Nat) (first cap : Array Value) (n B : Nat) (row : Option Nat) (I : World → Prop) (w : World) (hn : n < 10) (ha : AsksR p f first cap n B row I) (hI : I w) :
    Calls Try.prog 126 #[.int .i64 n, .func (.func f) first cap] w fun e w' => IntsAtR (perL (fun k => cnt (swP p k) (2^n)) n) row I w w' e := by
  have hBw := ha.big w hI
  have hb0 : Below w.heap.size w ((w.alloc (.cells #[.int .i64 n] 3)).alloc (.cells #[.func (.func f) first cap] 78)) := (below1 w _).alloc (by simp) _
  have hi : BoxI ((w.alloc (.cells #[.int .i64 n] 3)).alloc (.cells #[.func (.func f) first cap] 78)) w.heap.size (.int .i64 n) := Box1.alloc (t := 3) (BoxI.new w (.int .i64 n)) (.cells #[.func (.func f) first cap] 78)
  have hx := Box1.new 78 (w.alloc (.cells #[.int .i64 n] 3)) (.func (.func f) first cap)
  simp only [World.size_alloc] at hx
  have hci := Box1.cell (t := 3) hi
  have HI0 := Lib.hid (ha.keeps _ _ hI (hb0.mono hBw))
  have HQ := Lib.hid (swingsOfEach_numsR p f first cap n w.heap.size (w.heap.size + 1) B (w.heap.size + 2) row I hn hBw (by omega) (by omega) (by omega) (by omega) ha)
  clear ha hI
  go_enter Try.func126, Try.ntmps126
  go_wp2_with fail
  refine (forEachOfR_any _ _ _ _ n _ row _ _ hn HQ.out ⟨HI0.out, by simp, hi, hx⟩).mono ?_
  rintro e w2 ⟨A, cap2, rfl, hown, hi2, hg2⟩
  have HI2 := Lib.hid hi2.1
  have HG2 := Lib.hid (gcons hb0 hg2)
  have HO2 := Lib.hid (owns_less hown hb0.size)
  clear hi2 hg2 hown
  go_wp2
  go_ret
  exact ⟨A, cap2, rfl, HO2.out, HI2.out, HG2.out⟩
end Go.Proofs.Ytkckefjpkhjeaaa
