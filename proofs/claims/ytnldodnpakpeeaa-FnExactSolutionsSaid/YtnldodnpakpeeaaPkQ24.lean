/- Texts of Eb, I1. -/
import Derived.Test.YtnldodnpakpeeaaPkQ23
import Derived.Outline
import Derived.Test.YtnldodnpakpeeaaPkQ20
namespace Go.Proofs.Ytnldodnpakpeeaa
open Go.RowKit Vo

theorem eq_int (d : Nat) (a b : Int) (w : World) : (Op.equalIn (d + 1) 3 (.int .i64 a) (.int .i64 b)).run Try.prog w = .ok (a == b) w := run_equalIn_int w d 3 .i64 .i64 a b Try.underlying3
theorem part_int (xs : Array Value) (i : Nat) (a : Int) (h : xs[i]? = some (.int .i64 a)) (w : World) : (part 3 xs i).run Try.prog w = .ok (.int .i64 a) w := by
  simp [part, Try.isAgg3, h]

theorem eq_list (xs ys : Array Value) (f g : Nat → Int) (w : World) : ∀ (l : List Nat), (∀ i ∈ l, xs[i]? = some (.int .i64 (f i)) ∧ ys[i]? = some (.int .i64 (g i))) →
    (forIn l ((none, ()) : Option Bool × Unit) (fun i (_ : Option Bool × Unit) => (do
      let a ← part 3 xs (i * 1)
      let b ← part 3 ys (i * 1)
      let r ← Op.equalIn 9999 3 a b
      if (!r) = true then pure (ForInStep.done (some false, ())) else pure (ForInStep.yield (none, ())) : Sem (ForInStep (Option Bool × Unit))))).run Try.prog w = .ok (if l.all (fun i => f i == g i) then (none, ()) else (some false, ())) w
  | [], _ => by simp
  | i :: l, h => by
    obtain ⟨h1, h2⟩ := h i (by simp)
    have ih := eq_list xs ys f g w l (fun j hj => h j (by simp [hj]))
    have heq : (Op.equalIn 9999 3 (.int .i64 (f i)) (.int .i64 (g i))).run Try.prog w = .ok (f i == g i) w := eq_int 9998 (f i) (g i) w
    simp only [Nat.mul_one] at ih ⊢
    simp only [List.forIn_cons, Sem.run_bind, part_int xs i _ h1, part_int ys i _ h2, Result.andThen_ok, heq, List.all_cons]
    by_cases he : f i = g i
    · have hb : (f i == g i) = true := by simpa using he
      simp only [hb, Bool.not_true, Bool.false_eq_true, if_false, Sem.run_pure, Result.andThen_ok, Bool.true_and]
      exact ih
    · have hb : (f i == g i) = false := by simpa using he
      simp only [hb, Bool.not_false, if_true, Sem.run_pure, Result.andThen_ok, Bool.false_and, Bool.false_eq_true, if_false]
theorem keys_all {s t : Nat} (hs : s < 512) (ht : t < 512) : ([0, 1, 2, 3, 4, 5, 6, 7, 8] : List Nat).all (fun i => keyAt s i == keyAt t i) = decide (s = t) := by
  rw [Bool.eq_iff_iff, List.all_eq_true, decide_eq_true_iff]
  constructor
  · intro h
    refine keyAt_inj hs ht fun j hj => ?_
    have hj' : j = 0 ∨ j = 1 ∨ j = 2 ∨ j = 3 ∨ j = 4 ∨ j = 5 ∨ j = 6 ∨ j = 7 ∨ j = 8 := by omega
    have := h j (by simp; exact hj')
    simpa using this
  · rintro rfl i _; simp

set_option maxHeartbeats 1000000 in
theorem eq_keys {s t : Nat} (hs : s < 512) (ht : t < 512) (w : World) : (Op.equalIn 10000 161 (keyV s) (keyV t)).run Try.prog w = .ok (decide (s = t)) w := by
  have hz := Try.sizeOf3
  have hu := run_underlying Try.underlying161
  have hl := eq_list #[.int .i64 (keyAt s 0), .int .i64 (keyAt s 1), .int .i64 (keyAt s 2), .int .i64 (keyAt s 3), .int .i64 (keyAt s 4), .int .i64 (keyAt s 5), .int .i64 (keyAt s 6), .int .i64 (keyAt s 7), .int .i64 (keyAt s 8)]
    #[.int .i64 (keyAt t 0), .int .i64 (keyAt t 1), .int .i64 (keyAt t 2), .int .i64 (keyAt t 3), .int .i64 (keyAt t 4), .int .i64 (keyAt t 5), .int .i64 (keyAt t 6), .int .i64 (keyAt t 7), .int .i64 (keyAt t 8)] (keyAt s) (keyAt t) w [0, 1, 2, 3, 4, 5, 6, 7, 8] (fun i hi => by
      simp at hi
      rcases hi with rfl | rfl | rfl | rfl | rfl | rfl | rfl | rfl | rfl <;> exact ⟨rfl, rfl⟩)
  rw [keys_all hs ht] at hl
  unfold keyV
  rw [show (10000 : Nat) = 9999 + 1 from rfl]
  unfold Op.equalIn
  simp only [Sem.run_bind, hu, Result.andThen_ok, hz]
  simp only [Std.Legacy.Range.forIn_eq_forIn_range', Std.Legacy.Range.size, List.range']
  refine (congrArg (fun r => Result.andThen r _) hl).trans ?_
  cases decide (s = t) <;> rfl

/-- The test that the program makes. -/
theorem neq_keys {s t : Nat} (hs : s < 512) (ht : t < 512) (w : World) : (binOp .neq 161 (keyV s) (keyV t)).run Try.prog w = .ok (.bool (!decide (s = t))) w := by
  have h := eq_keys hs ht w
  unfold keyV at h ⊢
  rw [run_neq_struct, h]
  rfl
end Go.Proofs.Ytnldodnpakpeeaa

namespace Go.Proofs.Ytnldodnpakpeeaa
open Go.RowKit Vo

set_option maxHeartbeats 400000 in
theorem hasAll_any (s t : Nat) (w : World) (hs : s < 512) (ht : t < 512) :
    Calls Try.prog 111 #[.int .u64 s, .int .u64 t] w fun e w' => e = .returned (.bool (partB s t)) ∧ w = w' := by
  have hb : bits BinOp.and IntKind.u64 (s : Int) (t : Int) = ((s &&& t : Nat) : Int) := u64_and_nat s t (by omega) (by omega)
  have HB := Lib.hid hb
  clear hb
  go_enter Try.func111, Try.ntmps111
  go_wp2
  go_ret
  refine ⟨ret_bool ?_, rfl⟩
  rw [HB.out]
  unfold partB
  rw [Bool.eq_iff_iff]
  simp
  omega

theorem nodup_len : ∀ (n : Nat) (l : List Nat), l.Nodup → (∀ s ∈ l, s < n) → l.length ≤ n
  | 0, [], _, _ => by simp
  | 0, s :: l, _, h => by have := h s (by simp); omega
  | n+1, l, hd, h => by
    by_cases hn : n ∈ l
    · have h1 := nodup_len n (l.erase n) (hd.erase n) (fun s hs => by
        have h2 := (hd.mem_erase_iff).1 hs
        have := h s h2.2
        have := h2.1
        omega)
      rw [List.length_erase_of_mem hn] at h1
      omega
    · have h1 := nodup_len n l hd (fun s hs => by
        have h2 : s ≠ n := fun e => hn (by rw [← e]; exact hs)
        have := h s hs
        omega)
      omega

/-- How far the parting has come. -/
structure Parted (S M : Nat → Bool) (left : Lit → Bool) : Prop where
  sub : ∀ s, M s = true → S s = true
  all : ∀ s, minB S s = true → M s = true
  done : ∀ s, M s = true → left (klit s) = false → minB S s = true
theorem Parted.start {S : Nat → Bool} {left : Lit → Bool} (hS : ∀ s, S s = true → s < 512) (hl : ∀ s, S s = true → left (klit s) = true) : Parted S S left :=
  ⟨fun _ h => h, fun s h => ((minB_iff hS).1 h).1, fun s h h2 => by rw [hl s h] at h2; cases h2⟩
theorem Parted.stays {S M : Nat → Bool} {left : Lit → Bool} (hS : ∀ s, S s = true → s < 512) (h : Parted S M left) {s : Nat} (hs : M s = true) (hn : ∀ t, M t = true → t ≠ s → s &&& t = t → False) : Parted S M (fun z => left z && !z.sameKey (klit s)) := by
  refine ⟨h.sub, h.all, fun t ht h2 => ?_⟩
  have hs5 := hS s (h.sub s hs)
  have ht5 := hS t (h.sub t ht)
  by_cases e : t = s
  · subst e; exact min_of_left hS h.sub h.all ht hn
  · refine h.done t ht ?_
    rw [same_klit ht5 hs5] at h2
    simpa [e] using h2
theorem Parted.goes {S M : Nat → Bool} {left : Lit → Bool} (hS : ∀ s, S s = true → s < 512) (h : Parted S M left) {s t : Nat} (hs : M s = true) (ht : M t = true) (hne : t ≠ s) (hp : s &&& t = t) : Parted S (fun u => M u && decide (u ≠ s)) (fun z => left z && !z.sameKey (klit s)) := by
  have hs5 := hS s (h.sub s hs)
  refine ⟨fun u hu => h.sub u (by simp at hu; exact hu.1), fun u hu => ?_, fun u hu h2 => ?_⟩
  · by_cases e : u = s
    · subst e; rw [not_min hS (h.sub t ht) hne hp] at hu; cases hu
    · simp [h.all u hu, e]
  · simp at hu
    have hu5 := hS u (h.sub u hu.1)
    refine h.done u hu.1 ?_
    rw [same_klit hu5 hs5] at h2
    simpa [hu.2] using h2

theorem Own.nineV {w : World} {s : Nat} (t : TypeId) : Own (w.alloc (.cells #[.int .i64 (keyAt s 0), .int .i64 (keyAt s 1), .int .i64 (keyAt s 2), .int .i64 (keyAt s 3), .int .i64 (keyAt s 4), .int .i64 (keyAt s 5), .int .i64 (keyAt s 6), .int .i64 (keyAt s 7), .int .i64 (keyAt s 8)] t)) w.heap.size t 9 (fun j => .int .i64 (keyAt s j)) :=
  ⟨_, heap_alloc_new w _, by simp, fun i hi => by
    rcases i with _ | _ | _ | _ | _ | _ | _ | _ | _ | i
    all_goals first | rfl | omega⟩

set_option maxRecDepth 20000 in
set_option maxHeartbeats 8000000 in
theorem leastOf_any (S : List Nat) (base k cap : Nat) (A : Option Addr) (w : World) (hk : k = S.length) (hk5 : k ≤ 1048576) (hin : ∀ s ∈ S, s < 512) (hown : w.ownsRow base 107 1 (.slice A k cap) k (setsV S)) :
    Calls Try.prog 161 #[.slice A k cap] w fun e w' => SetsAt w.heap.size (leastL (fun s => decide (s ∈ S))) w w' e := by
  have hmm := @run_makeMap Try.prog
  have HCELL := Lib.hid (show ∀ W, Below w.heap.size w W → ∀ j, j < k → ∃ g, A = some ⟨g, 0, none⟩ ∧ g < w.heap.size ∧ W.cell? ⟨g, j, none⟩ = some (.int .u64 (S.getD j 0 : Nat)) ∧ S.getD j 0 < 512 from fun W hW j h => by
    obtain ⟨g, cap', hv, hg, _, _⟩ := owns_head hown (by omega)
    obtain ⟨rfl, rfl⟩ : A = some ⟨g, 0, none⟩ ∧ cap = cap' := by simpa using hv
    have hlt : g < w.heap.size := owns_lt hown rfl
    have ho : Own w g 107 k (fun i => .int .u64 (S.getD i 0 : Nat)) := Own.of_own hown (fun i hi => by
      have : i < S.length := by omega
      simp [setsV, List.getD_eq_getElem?_getD, this])
    refine ⟨g, rfl, hlt, (Own.below ho hW hlt).cell h, hin _ ?_⟩
    rw [List.getD_eq_getElem?_getD, List.getElem?_eq_getElem (by omega)]
    exact List.getElem_mem _)
  have HTK := Lib.hid (show ∀ j, j < k → ∀ s, decide (s ∈ S.take (j+1)) = (decide (s = S.getD j 0) || decide (s ∈ S.take j)) from fun j hj s => by
    rw [List.take_add_one, List.getElem?_eq_getElem (by omega)]
    rw [List.getD_eq_getElem?_getD, List.getElem?_eq_getElem (by omega)]
    rw [Bool.eq_iff_iff]
    simp only [List.mem_append, Option.toList, List.mem_singleton, Bool.or_eq_true, decide_eq_true_eq, Option.getD_some]
    exact Or.comm)
  have HALL := Lib.hid (show S.take k = S from by rw [hk, List.take_length])
  obtain ⟨S0, hS0⟩ : ∃ S0 : Nat → Bool, S0 = fun s => decide (s ∈ S) := ⟨_, rfl⟩
  have HS0 := Lib.hid hS0
  have HSI := Lib.hid (show ∀ s, S0 s = true → s < 512 from fun s h => by rw [hS0] at h; exact hin s (by simpa using h))
  rw [← hS0]
  clear hS0 hin hown hk
  go_enter Try.func161, Try.ntmps161
  go_wp2_with fail
  go_loopw [5, 13] (fun _ i wr => ∃ (j : Nat) (D : DU), j ≤ k ∧ i = .int .i64 j ∧ wr.ownsMap Try.prog 161 (plainElem (H := Unit) Try.prog 107) w.heap.size j D ∧ MapIs D (fun s => decide (s ∈ S.take j)) ∧ Below w.heap.size w wr) (fun _ i _ => k - (intOf i).toNat)
  case atStart => exact ⟨0, .map [], Nat.zero_le _, rfl, World.ownsMap_made _ _ _ _, MapIs.nil.congr (fun s => by simp), below1 _ _⟩
  case round =>
    obtain ⟨j, D, hj, rfl, hom, hmi, hb⟩ := hrel
    have HMI := Lib.hid hmi
    have HOM := Lib.hid hom
    have hsz := hb.size
    clear hmi hom
    by_cases hlt : j < k
    · obtain ⟨g, rfl, hg, hcell, hs5⟩ := HCELL.out _ hb j hlt
      have HT := Lib.hid (HTK.out j hlt)
      have hHM := HOM.out.lt
      generalize S.getD j 0 = s at *
      have hkey := key_reads s
      unfold keyV at hkey
      have HKEY := Lib.hid hkey
      clear hkey
      go_wp2_with fail
      refine (key_any s _ hs5).mono ?_
      rintro e w1 ⟨rfl, hg1⟩
      unfold keyV
      have hom1 := Lib.hid (ownsMap_below HOM.out hg1.1)
      have hb1 := bfrom hb hg1.1
      have HB1 := Lib.hid hb1
      clear hb1 hg1
      go_wp2_with (first | (at_mapUpdate; refine wpList_mapUpdate_own _ rfl _ _ _ 217 rfl 161 107 keyLaw Try.underlying217 _ w.heap.size j _ rfl hom1.out (by unfold maxLen; omega) _ _ _ rfl rfl HKEY.out _ [] (plainElem_int Try.underlying107 (WalkArith.wf_u64 (by omega))) ?_; intro w2 hom2 hgr2) | go_in)
      have HOM2 := Lib.hid hom2
      have hb2 : Below w.heap.size w w2 := HB1.out.grown hgr2 HB1.out.size (fun i hi => by injection hi with hi; omega)
      clear hom2
      go_roundw
      case rel => exact ⟨j + 1, _, by omega, by go_num, HOM2.out, (HMI.out.put hs5).congr (fun t => by rw [HT.out]), hb2⟩
      case measure => simp [intOf]; omega
    · obtain rfl : k = j := by omega
      have HMS := Lib.hid (show MapIs D S0 from HMI.out.congr (fun s => by rw [HALL.out, HS0.out]))
      clear HMI
      obtain ⟨b, hbe⟩ : ∃ b, b = w.heap.size := ⟨_, rfl⟩
      rw [← hbe] at HOM
      have HBE := Lib.hid hbe
      have HB := Lib.hid hb
      have hlb := HOM.out.lt
      rw [← hbe]
      go_wp2_with (first | (at_range; refine wpList_range_own _ rfl _ 217 rfl 161 107 keyLaw Try.underlying217 _ b k D rfl HOM.out ?_; intro w0 hrg0 hg0 hs0) | go_in)
      go_frame
      obtain ⟨r, hre⟩ : ∃ r, r = wr.heap.size := ⟨_, rfl⟩
      rw [← hre] at hrg0 ⊢
      have hb0 : Below b w w0 := by rw [HBE.out]; exact HB.out.grown hg0 HB.out.size (fun i hi => by cases hi)
      have hbr : b ≤ r := by rw [HBE.out, hre]; exact HB.out.size
      have HRG0 := Lib.hid hrg0
      have HB0 := Lib.hid hb0
      have hsw : b ≤ w0.heap.size := by rw [HBE.out]; rw [HBE.out] at hb0; exact hb0.size
      have HBW := Lib.hid (show w.heap.size ≤ b from by rw [HBE.out]; exact Nat.le_refl _)
      clear hrg0 hb0 hg0 hs0 HOM hsz hbe hre hb hlb
      go_loopw [7] (fun _ wq => ∃ (left : Lit → Bool) (cnt : Nat) (D1 : DU) (M : Nat → Bool), wq.ranges Try.prog 161 (plainElem (H := Unit) Try.prog 107) b r k D1 left cnt ∧ MapIs D1 M ∧ Parted S0 M left ∧ Below b w wq ∧ b ≤ wq.heap.size) (fun _ wq => wq.rangeLeft b r)
      case atStart => exact ⟨_, _, D, S0, HRG0.out, HMS.out, Parted.start HSI.out (fun s h => by rw [HMS.out.has s (HSI.out s h)]; exact h), HB0.out, hsw⟩
      case round =>
        obtain ⟨left, cnt, D1, M, hrg, hmi, hpa, hbq, hbs⟩ := hrel
        have HRG := Lib.hid hrg
        have HMI := Lib.hid hmi
        have HPA := Lib.hid hpa
        have HBQ := Lib.hid hbq
        clear hrg hmi hpa hbq HRG0 HB0 hsw
        go_wp2_with (first | (at_next; refine wpList_next_sets _ rfl _ rfl b r k _ M _ _ rfl HRG.out HMI.out ?_ ?_) | go_in)
        · intro hc0 hl0
          have HFM := Lib.hid (show ∀ s, M s = true ↔ minB S0 s = true from fun s => ⟨fun h => HPA.out.done s h (hl0 s (HMI.out.dom s h)), HPA.out.all s⟩)
          clear hl0 hc0
          have hBx := below1 wr (.cells #[.map (some b)] 217)
          have hbx := Box1.new 217 wr (.map (some b))
          have hst := mapValues_stops wr.heap.size b k D1 M HMI.out (wr.alloc (.cells #[.map (some b)] 217)) (by simp) hbx.cell (HRG.out.alloc _).owns
          have HF := Lib.hid (collect_any 209 #[.pointer (some ⟨wr.heap.size, 0, none⟩)] (enters_of Try.func209 (by kernel_rfl) rfl) KeepsWalks _ (fun _ => True) k hk5 _ walksK_t (fun W l o o' _ h2 _ h4 => KeepsWalks.putObj _ h2 h4) (fun _ _ h _ => keeps_walks h) hst)
          clear hst hbx
          go_wp2_with (go_at_call 191; refine (mapValues_any b _).mono ?_; rintro e w1 ⟨rfl, rfl⟩)
          refine HF.out.mono ?_
          rintro e w2 ⟨v, ss, rfl, ⟨hnd, hmem⟩, hown, _, hb2⟩
          rw [enc_map] at hown
          have hlen : (ss.map (·.1)).length ≤ 512 := nodup_len 512 _ hnd (fun s hs => by obtain ⟨x, _, rfl⟩ := List.mem_map.1 hs; exact x.2)
          have HM2 := Lib.hid hmem
          have HND := Lib.hid hnd
          have HI2 := Lib.hid (show ∀ s ∈ ss.map (·.1), s < 512 from fun s hs => by obtain ⟨x, _, rfl⟩ := List.mem_map.1 hs; exact x.2)
          obtain ⟨T, hT⟩ : ∃ T, T = ss.map (·.1) := ⟨_, rfl⟩
          rw [← hT] at hown hlen HM2 HND HI2
          obtain ⟨m, hm⟩ : ∃ m, m = T.length := ⟨_, rfl⟩
          rw [show ss.length = m from by rw [hm, hT]; simp] at hown
          rw [← hm] at hlen
          obtain ⟨A2, cap2, rfl⟩ : ∃ A cap, v = .slice A m cap := by
            rcases hown.2 with ⟨rfl, h0⟩ | ⟨g', cap, _, rfl, _⟩
            · exact ⟨none, 0, by rw [h0]⟩
            · exact ⟨_, cap, rfl⟩
          have HO2 := Lib.hid hown
          have HML := Lib.hid hm
          clear hown hm hT hnd hmem
          go_wp2_with fail
          refine (inOrder_any T _ m cap2 A2 _ HML.out hlen HI2.out HO2.out).mono ?_
          rintro e w3 ⟨A3, cap3, ss3, S3, rfl, hss3, hp3, hs3, hown3, hb3⟩
          have HO3 := Lib.hid hown3
          have HEQ := Lib.hid (show S3 = leastL S0 from leastL_unique HSI.out (hs3 (by rw [hss3]; exact HND.out)) (fun s => by rw [hp3.mem_iff, hss3, HM2.out s, HFM.out s]))
          have hbb := bfrom hBx hb2
          have HBB := Lib.hid (bfrom hbb hb3)
          have hz3 := hbb.size
          clear hown3 hp3 hs3 hss3
          go_wp2
          go_ret
          have hBF : Below w.heap.size w wr := by rw [← HBE.out]; exact HBQ.out
          have hsq : w.heap.size ≤ wr.heap.size := hBF.size
          refine ⟨A3, cap3, by rw [← HEQ.out]; rfl, ?_, bfrom hBF HBB.out⟩
          rw [← HEQ.out]
          exact owns_less HO3.out (by omega)
        · intro s w2 cnt2 hs hMs hls hrg2 hlt2 hg2 hs2 hen
          have HR2 := Lib.hid hrg2
          have hkey := key_reads s
          unfold keyV at hen hkey ⊢
          have HKEY := Lib.hid hkey
          have hb2 : Below b w w2 := HBQ.out.grown hg2 hbs (fun i hi => by injection hi with hi; omega)
          have hr2 : r < w2.heap.size := by rw [hs2]; exact HRG.out.lt
          have HB2 := Lib.hid hb2
          have HLT2 := Lib.hid hlt2
          have HMS2 := Lib.hid hMs
          have HGK := Lib.hid (Own.nineV (w := w2) (s := s) 161)
          have hz2 := hg2.size
          clear hrg2 hkey hb2 hg2 hlt2 hls hMs hs2
          go_wp2_with (first | (at_range; refine wpList_range_own _ rfl _ 217 rfl 161 107 keyLaw Try.underlying217 _ b k D1 rfl (HR2.out.alloc _).owns ?_; intro w3 hrgI hgI hsI) | go_in)
          go_frame
          have hrgO : w3.ranges Try.prog 161 (plainElem (H := Unit) Try.prog 107) b r k D1 (fun z => left z && !z.sameKey (klit s)) cnt2 := (HR2.out.alloc _).kept hgI (by simp) (by simp)
          have hgk : Own w3 w2.heap.size 161 9 (fun j => .int .i64 (keyAt s j)) := HGK.out.grown hgI (by simp)
          have hb3 : Below b w w3 := (HB2.out.alloc (by omega) (.cells #[.int .i64 (keyAt s 0), .int .i64 (keyAt s 1), .int .i64 (keyAt s 2), .int .i64 (keyAt s 3), .int .i64 (keyAt s 4), .int .i64 (keyAt s 5), .int .i64 (keyAt s 6), .int .i64 (keyAt s 7), .int .i64 (keyAt s 8)] 161)).grown hgI (by simp; omega) (fun i hi => by cases hi)
          simp only [World.size_alloc] at hrgI hsI ⊢
          obtain ⟨gk, hgke⟩ : ∃ gk, gk = w2.heap.size := ⟨_, rfl⟩
          rw [← hgke] at hrgI hsI hgk hr2 ⊢
          have HRI := Lib.hid hrgI
          have HRO := Lib.hid hrgO
          have HG3 := Lib.hid hgk
          have HB3 := Lib.hid hb3
          have hs3 : b ≤ w3.heap.size := by rw [hsI]; omega
          clear hrgI hrgO hgk hb3 hgI hgke HGK HB2 HR2 hen
          go_loopw [9] (fun _ wi => ∃ (leftI : Lit → Bool) (cntI : Nat), wi.ranges Try.prog 161 (plainElem (H := Unit) Try.prog 107) b (gk + 1) k D1 leftI cntI ∧ wi.ranges Try.prog 161 (plainElem (H := Unit) Try.prog 107) b r k D1 (fun z => left z && !z.sameKey (klit s)) cnt2 ∧ Own wi gk 161 9 (fun j => .int .i64 (keyAt s j)) ∧ (∀ t, M t = true → leftI (klit t) = false → t ≠ s → s &&& t = t → False) ∧ Below b w wi ∧ b ≤ wi.heap.size) (fun _ wi => wi.rangeLeft b (gk + 1))
          case atStart => exact ⟨_, _, HRI.out, HRO.out, HG3.out, fun t ht h => (by rw [HMI.out.has t (HMI.out.dom t ht), ht] at h; cases h), HB3.out, hs3⟩
          case round =>
            obtain ⟨leftI, cntI, hrI, hrO, hgk, hseen, hbi, hbsi⟩ := hrel
            have HRI4 := Lib.hid hrI
            have HRO4 := Lib.hid hrO
            have HG4 := Lib.hid hgk
            have HSEEN := Lib.hid hseen
            have HBI := Lib.hid hbi
            have hgks := hgk.lt
            clear hrI hrO hgk hseen hbi HRI HRO HG3 HB3
            go_wp2_with (first | (at_next; refine wpList_next_sets _ rfl _ rfl b (gk + 1) k _ M _ _ rfl HRI4.out HMI.out ?_ ?_) | go_in)
            · intro hc0 hl0
              have HPN := Lib.hid (HPA.out.stays HSI.out HMS2.out (fun t ht => HSEEN.out t ht (hl0 t (HMI.out.dom t ht))))
              clear hl0 hc0
              go_wp2
              go_roundw
              case rel => exact ⟨_, cnt2, D1, M, HRO4.out, HMI.out, HPN.out, HBI.out, hbsi⟩
              case measure => rw [HRO4.out.left_eq, HRG.out.left_eq]; exact HLT2.out
            · intro t w4 cnt4 ht hMt hlt hrI4 hltI hg4 hs4 hen4
              have hz4 := hg4.size
              clear hs4
              unfold keyV at hen4 ⊢
              have HRO5 := Lib.hid (show (w4.alloc (.cells #[.int .i64 (keyAt t 0), .int .i64 (keyAt t 1), .int .i64 (keyAt t 2), .int .i64 (keyAt t 3), .int .i64 (keyAt t 4), .int .i64 (keyAt t 5), .int .i64 (keyAt t 6), .int .i64 (keyAt t 7), .int .i64 (keyAt t 8)] 161)).ranges Try.prog 161 (plainElem (H := Unit) Try.prog 107) b r k D1 (fun z => left z && !z.sameKey (klit s)) cnt2 from (HRO4.out.kept hg4 (by simp; omega) (by simp; omega)).alloc _)
              have HRI5 := Lib.hid (show (w4.alloc (.cells #[.int .i64 (keyAt t 0), .int .i64 (keyAt t 1), .int .i64 (keyAt t 2), .int .i64 (keyAt t 3), .int .i64 (keyAt t 4), .int .i64 (keyAt t 5), .int .i64 (keyAt t 6), .int .i64 (keyAt t 7), .int .i64 (keyAt t 8)] 161)).ranges Try.prog 161 (plainElem (H := Unit) Try.prog 107) b (gk + 1) k D1 (fun z => leftI z && !z.sameKey (klit t)) cnt4 from hrI4.alloc _)
              have HGK5 := Lib.hid (show Own (w4.alloc (.cells #[.int .i64 (keyAt t 0), .int .i64 (keyAt t 1), .int .i64 (keyAt t 2), .int .i64 (keyAt t 3), .int .i64 (keyAt t 4), .int .i64 (keyAt t 5), .int .i64 (keyAt t 6), .int .i64 (keyAt t 7), .int .i64 (keyAt t 8)] 161)) gk 161 9 (fun j => .int .i64 (keyAt s j)) from (HG4.out.grown hg4 (by simp)).alloc _)
              have HBI5 := Lib.hid (show Below b w (w4.alloc (.cells #[.int .i64 (keyAt t 0), .int .i64 (keyAt t 1), .int .i64 (keyAt t 2), .int .i64 (keyAt t 3), .int .i64 (keyAt t 4), .int .i64 (keyAt t 5), .int .i64 (keyAt t 6), .int .i64 (keyAt t 7), .int .i64 (keyAt t 8)] 161)) from (HBI.out.grown hg4 hbsi (fun i hi => by injection hi with hi; omega)).alloc (by omega) _)
              have hsz5 : b ≤ (w4.alloc (.cells #[.int .i64 (keyAt t 0), .int .i64 (keyAt t 1), .int .i64 (keyAt t 2), .int .i64 (keyAt t 3), .int .i64 (keyAt t 4), .int .i64 (keyAt t 5), .int .i64 (keyAt t 6), .int .i64 (keyAt t 7), .int .i64 (keyAt t 8)] 161)).heap.size := by simp; omega
              have HMT := Lib.hid hMt
              have HLI := Lib.hid hltI
              have HNEQ := Lib.hid (fun W => neq_keys ht hs W)
              have hgd : Try.prog.eqGuardType Try.prog.depth 161 = false := by kernel_rfl
              clear hrI4 hg4 hMt hltI hlt
              have y0 := HGK5.out.cell (i := 0) (by omega)
              have y1 := HGK5.out.cell (i := 1) (by omega)
              have y2 := HGK5.out.cell (i := 2) (by omega)
              have y3 := HGK5.out.cell (i := 3) (by omega)
              have y4 := HGK5.out.cell (i := 4) (by omega)
              have y5 := HGK5.out.cell (i := 5) (by omega)
              have y6 := HGK5.out.cell (i := 6) (by omega)
              have y7 := HGK5.out.cell (i := 7) (by omega)
              have y8 := HGK5.out.cell (i := 8) (by omega)
              by_cases e : t = s
              · have hneq := HNEQ.out
                rw [decide_eq_true e] at hneq
                unfold keyV at hneq
                simp only [Bool.not_true] at hneq
                have HSN := Lib.hid (show ∀ u, M u = true → (fun z : Lit => leftI z && !z.sameKey (klit t)) (klit u) = false → u ≠ s → s &&& u = u → False from fun u hu h hne hp => by
                  have hu5 := HMI.out.dom u hu
                  simp only [same_klit hu5 ht] at h
                  have hne2 : u ≠ t := by rw [e]; exact hne
                  exact HSEEN.out u hu (by simpa [hne2] using h) hne hp)
                clear e
                go_wp2
                go_roundw
                case rel => exact ⟨_, cnt4, HRI5.out, HRO5.out, HGK5.out, HSN.out, HBI5.out, hsz5⟩
                case measure => rw [HRI5.out.left_eq, HRI4.out.left_eq]; exact HLI.out
              · have hneq := HNEQ.out
                rw [decide_eq_false e] at hneq
                unfold keyV at hneq
                simp only [Bool.not_false] at hneq
                have HE := Lib.hid e
                clear e
                cases hpb : partB s t
                · have HPB := Lib.hid hpb
                  clear hpb
                  have HSN := Lib.hid (show ∀ u, M u = true → (fun z : Lit => leftI z && !z.sameKey (klit t)) (klit u) = false → u ≠ s → s &&& u = u → False from fun u hu h hne hp => by
                    have hu5 := HMI.out.dom u hu
                    simp only [same_klit hu5 ht] at h
                    by_cases e2 : u = t
                    · subst e2; rw [partB_iff.2 hp] at HPB; cases HPB.out
                    · exact HSEEN.out u hu (by simpa [e2] using h) hne hp)
                  go_wp2_with (go_at_call 111; refine (hasAll_any s t _ hs ht).mono ?_; rintro e w' ⟨rfl, rfl⟩; rw [HPB.out])
                  go_roundw
                  case rel => exact ⟨_, cnt4, HRI5.out, HRO5.out, HGK5.out, HSN.out, HBI5.out, hsz5⟩
                  case measure => rw [HRI5.out.left_eq, HRI4.out.left_eq]; exact HLI.out
                · have HPB := Lib.hid hpb
                  have HPN := Lib.hid (HPA.out.goes HSI.out HMS2.out HMT.out HE.out (partB_iff.1 hpb))
                  clear hpb
                  go_wp2_with (first
                    | (go_at_call 111; refine (hasAll_any s t _ hs ht).mono ?_; rintro e w' ⟨rfl, rfl⟩; rw [HPB.out])
                    | (at_delete; refine wpList_delete_ranges _ rfl _ _ 217 161 rfl 107 keyLaw Try.underlying217 _ b r k D1 _ cnt2 rfl HRO5.out _ (klit s) rfl HKEY.out ?_; intro w6 cnt6 hrg6 hle6 hturn6; go_frame))
                  rw [Go.Maps.strike_twice] at hrg6
                  have HRG6 := Lib.hid hrg6
                  have HLE := Lib.hid hle6
                  have hb6 : Below b w w6 := HBI5.out.grown hturn6.grown hsz5 (fun i hi => by injection hi with hi; omega)
                  have hs6 : b ≤ w6.heap.size := Nat.le_trans hsz5 hturn6.grown.size
                  clear hrg6 hle6 hturn6
                  go_roundw
                  case rel => exact ⟨_, cnt6, _, _, HRG6.out, HMI.out.del hs, HPN.out, hb6, hs6⟩
                  case measure => rw [HRG6.out.left_eq, HRG.out.left_eq]; have := HLE.out; have := HLT2.out; omega
end Go.Proofs.Ytnldodnpakpeeaa

namespace Go.Proofs.Ytnldodnpakpeeaa.Vo

theorem rise_before {n : Int} {xs : List Int} : ∀ {m : Nat}, RiseK n xs (m+1) → ∀ i, i < m → xs.getD i 0 < xs.getD m 0
  | 0, _, i, hi => by omega
  | m+1, h, i, hi => by
    have h1 := (h (m+1) (by omega)).2.2 (by omega)
    simp only [Nat.add_sub_cancel] at h1
    by_cases e : i = m
    · subst e; exact h1
    · have h2 := rise_before (h.mono (by omega)) i (show i < m by omega)
      omega
theorem rise_take {n : Nat} {xs : List Int} (hn : n ≤ 9) : ∀ {m : Nat}, m ≤ xs.length → RiseK n xs m → mem (ofK xs m) 9 = xs.take m
  | 0, _, _ => by simp [ofK, mem_zero]
  | m+1, hl, h => by
    have ih := rise_take hn (m := m) (by omega) (h.mono (by omega))
    have hm := h m (by omega)
    have hlt : ofK xs m < 2 ^ (xs.getD m 0).toNat := ofK_lt (n := (xs.getD m 0).toNat) (fun i hi => by
      have h1 := rise_before h i hi
      have h2 := h i (by omega)
      exact ⟨h2.1, by omega, h2.2.2⟩)
    have hj : (xs.getD m 0).toNat < 9 := by omega
    simp only [ofK]
    rw [mem_or hlt hj, ih, List.take_add_one, List.getElem?_eq_getElem (by omega)]
    congr 1
    rw [List.getD_eq_getElem?_getD, List.getElem?_eq_getElem (by omega)] at hm ⊢
    simp at hm ⊢
    omega
theorem rise_mem {n : Nat} {xs : List Int} (hn : n ≤ 9) (h : RiseK n xs xs.length) : mem (ofK xs xs.length) 9 = xs := by
  have := rise_take hn (Nat.le_refl _) h
  rwa [List.take_length] at this
theorem ofK_zero {n : Nat} {xs : List Int} (hn : n ≤ 9) (h : RiseK n xs xs.length) : ofK xs xs.length = 0 ↔ xs.length = 0 := by
  constructor
  · intro e
    have := rise_mem hn h
    rw [e, mem_zero] at this
    rw [← this]; rfl
  · intro e; rw [e]; rfl

/-- Chains of sets of nine members, all sets among them. -/
def chains9 : List (List Nat) := [[0, 1, 3, 7, 15, 31, 63, 127, 255, 511], [2, 6, 14, 30, 62, 126, 254, 510], [4, 5, 13, 29, 61, 125, 253, 509], [8, 9, 11, 27, 59, 123, 251, 507], [16, 17, 19, 23, 55, 119, 247, 503], [32, 33, 35, 39, 47, 111, 239, 495], [64, 65, 67, 71, 79, 95, 223, 479], [128, 129, 131, 135, 143, 159, 191, 447], [256, 257, 259, 263, 271, 287, 319, 383], [10, 26, 58, 122, 250, 506], [12, 28, 60, 124, 252, 508], [18, 22, 54, 118, 246, 502], [20, 21, 53, 117, 245, 501], [24, 25, 57, 121, 249, 505], [34, 38, 46, 110, 238, 494], [36, 37, 45, 109, 237, 493], [40, 41, 43, 107, 235, 491], [48, 49, 51, 115, 243, 499], [66, 70, 78, 94, 222, 478], [68, 69, 77, 93, 221, 477], [72, 73, 75, 91, 219, 475], [80, 81, 83, 87, 215, 471], [96, 97, 99, 103, 231, 487], [130, 134, 142, 158, 190, 446], [132, 133, 141, 157, 189, 445], [136, 137, 139, 155, 187, 443], [144, 145, 147, 151, 183, 439], [160, 161, 163, 167, 175, 431], [192, 193, 195, 199, 207, 463], [258, 262, 270, 286, 318, 382], [260, 261, 269, 285, 317, 381], [264, 265, 267, 283, 315, 379], [272, 273, 275, 279, 311, 375], [288, 289, 291, 295, 303, 367], [320, 321, 323, 327, 335, 351], [384, 385, 387, 391, 399, 415], [42, 106, 234, 490], [44, 108, 236, 492], [50, 114, 242, 498], [52, 116, 244, 500], [56, 120, 248, 504], [74, 90, 218, 474], [76, 92, 220, 476], [82, 86, 214, 470], [84, 85, 213, 469], [88, 89, 217, 473], [98, 102, 230, 486], [100, 101, 229, 485], [104, 105, 233, 489], [112, 113, 241, 497], [138, 154, 186, 442], [140, 156, 188, 444], [146, 150, 182, 438], [148, 149, 181, 437], [152, 153, 185, 441], [162, 166, 174, 430], [164, 165, 173, 429], [168, 169, 171, 427], [176, 177, 179, 435], [194, 198, 206, 462], [196, 197, 205, 461], [200, 201, 203, 459], [208, 209, 211, 467], [224, 225, 227, 483], [266, 282, 314, 378], [268, 284, 316, 380], [274, 278, 310, 374], [276, 277, 309, 373], [280, 281, 313, 377], [290, 294, 302, 366], [292, 293, 301, 365], [296, 297, 299, 363], [304, 305, 307, 371], [322, 326, 334, 350], [324, 325, 333, 349], [328, 329, 331, 347], [336, 337, 339, 343], [352, 353, 355, 359], [386, 390, 398, 414], [388, 389, 397, 413], [392, 393, 395, 411], [400, 401, 403, 407], [416, 417, 419, 423], [448, 449, 451, 455], [170, 426], [172, 428], [178, 434], [180, 436], [184, 440], [202, 458], [204, 460], [210, 466], [212, 468], [216, 472], [226, 482], [228, 484], [232, 488], [240, 496], [298, 362], [300, 364], [306, 370], [308, 372], [312, 376], [330, 346], [332, 348], [338, 342], [340, 341], [344, 345], [354, 358], [356, 357], [360, 361], [368, 369], [394, 410], [396, 412], [402, 406], [404, 405], [408, 409], [418, 422], [420, 421], [424, 425], [432, 433], [450, 454], [452, 453], [456, 457], [464, 465], [480, 481]]
def comparB (s t : Nat) : Bool := decide (s &&& t = s) || decide (s &&& t = t)
theorem chains9_len : chains9.length = 126 := by decide +kernel
theorem chains9_chain : chains9.all (fun c => c.all fun s => c.all fun t => comparB s t) = true := by decide +kernel
theorem chains9_all : (List.range 512).all (fun s => chains9.any fun c => c.contains s) = true := by decide +kernel

theorem sperner_any : ∀ (C : List (List Nat)) (l : List Nat), l.Nodup → (∀ s ∈ l, ∀ t ∈ l, s ≠ t → comparB s t = false) → (∀ s ∈ l, ∃ c ∈ C, s ∈ c) → (∀ c ∈ C, ∀ s ∈ c, ∀ t ∈ c, comparB s t = true) → l.length ≤ C.length
  | [], l, _, _, h, _ => by
    cases l with
    | nil => simp
    | cons s l => obtain ⟨c, hc, _⟩ := h s (by simp); cases hc
  | c :: C, l, hd, ha, h, hc => by
    by_cases hx : ∃ x ∈ l, x ∈ c
    · obtain ⟨x, hx, hxc⟩ := hx
      have := sperner_any C (l.erase x) (hd.erase x) (fun s hs t ht => ha s (List.mem_of_mem_erase hs) t (List.mem_of_mem_erase ht)) (fun s hs => by
        obtain ⟨hne, hs2⟩ := (hd.mem_erase_iff).1 hs
        obtain ⟨c2, hc2, hsc⟩ := h s hs2
        rcases List.mem_cons.1 hc2 with rfl | hc2
        · have h1 := hc _ (by simp) s hsc x hxc
          rw [ha s hs2 x hx hne] at h1; cases h1
        · exact ⟨c2, hc2, hsc⟩) (fun c2 hc2 => hc c2 (by simp [hc2]))
      rw [List.length_erase_of_mem hx] at this
      simp; omega
    · have := sperner_any C l hd ha (fun s hs => by
        obtain ⟨c2, hc2, hsc⟩ := h s hs
        rcases List.mem_cons.1 hc2 with rfl | hc2
        · exact absurd ⟨s, hs, hsc⟩ hx
        · exact ⟨c2, hc2, hsc⟩) (fun c2 hc2 => hc c2 (by simp [hc2]))
      simp; omega
theorem sperner9 (l : List Nat) (hd : l.Nodup) (h5 : ∀ s ∈ l, s < 512) (ha : ∀ s ∈ l, ∀ t ∈ l, s ≠ t → comparB s t = false) : l.length ≤ 126 := by
  rw [← chains9_len]
  refine sperner_any chains9 l hd ha (fun s hs => ?_) (fun c hc s hs t ht => ?_)
  · have := List.all_eq_true.1 chains9_all s (List.mem_range.2 (h5 s hs))
    obtain ⟨c, hc, h⟩ := List.any_eq_true.1 this
    exact ⟨c, hc, by simpa using h⟩
  · exact List.all_eq_true.1 (List.all_eq_true.1 (List.all_eq_true.1 chains9_chain c hc) s hs) t ht

/-- The sets that lists tell. -/
def setsN (L : List (List Int)) : List Nat := L.map fun l => ofK l l.length
def inS (S : List Nat) (s : Nat) : Bool := decide (s ∈ S)
/-- Are all lists sets of n members, none of them empty? -/
def rowsB (n : Nat) (L : List (List Int)) : Bool := L.all fun l => decide (l.length ≠ 0) && riseB n l l.length
theorem rowsB_row {n : Nat} {L : List (List Int)} (h : rowsB n L = true) {l : List Int} (hl : l ∈ L) : l.length ≠ 0 ∧ RiseK n l l.length := by
  have := List.all_eq_true.1 h l hl
  simp only [Bool.and_eq_true, decide_eq_true_eq] at this
  exact ⟨this.1, of_decide_eq_true this.2⟩
theorem setsN_lt {n : Nat} {L : List (List Int)} (_hn : n ≤ 9) (h : rowsB n L = true) : ∀ s ∈ setsN L, s < 2 ^ n := fun s hs => by
  obtain ⟨l, hl, rfl⟩ := List.mem_map.1 hs
  exact ofK_lt (rowsB_row h hl).2
theorem setsN_512 {n : Nat} {L : List (List Int)} (hn : n ≤ 9) (h : rowsB n L = true) : ∀ s ∈ setsN L, s < 512 := fun s hs => by
  have h1 := setsN_lt hn h s hs
  have h2 := pow_lt hn
  omega
theorem setsN_mem {n : Nat} {L : List (List Int)} (hn : n ≤ 9) (h : rowsB n L = true) : (setsN L).map (fun s => mem s 9) = L := by
  unfold setsN
  rw [List.map_map]
  conv => rhs; rw [← List.map_id L]
  exact List.map_congr_left fun l hl => rise_mem hn (rowsB_row h hl).2
/-- Is this a game? -/
def goodG (m : Int) (L : List (List Int)) : Bool := decide (1 ≤ m ∧ m ≤ 9 ∧ L ≠ []) && (rowsB m.toNat L && decide (setsN L = leastL (inS (setsN L))))
/-- What the model asks: each list behind the one before, none with another one as a part. -/
def ordK (L : List (List Int)) (S : List Nat) (k : Nat) : Prop := ∀ i, i < k → (1 ≤ i → before (L.getD (i-1) []) (L.getD i []) = true) ∧ ∀ j, j < i → S.getD i 0 &&& S.getD j 0 ≠ S.getD i 0 ∧ S.getD i 0 &&& S.getD j 0 ≠ S.getD j 0

theorem inS_iff {S : List Nat} {s : Nat} : inS S s = true ↔ s ∈ S := decide_eq_true_iff
theorem getD_mem {S : List Nat} {i : Nat} (h : i < S.length) : S.getD i 0 ∈ S := by
  rw [List.getD_eq_getElem?_getD, List.getElem?_eq_getElem h]; exact List.getElem_mem h
theorem sorted_of_steps {L : List (List Int)} (h : ∀ i, i < L.length → 1 ≤ i → before (L.getD (i-1) []) (L.getD i []) = true) : Sorted L := by
  have key : ∀ d i, i + d + 1 < L.length → before (L.getD i []) (L.getD (i + d + 1) []) = true := by
    intro d
    induction d with
    | zero => intro i hi; have := h (i+1) hi (by omega); simpa using this
    | succ d ih =>
      intro i hi
      have h1 := ih i (by omega)
      have h2 := h (i + d + 1 + 1) hi (by omega)
      rw [show i + d + 1 + 1 - 1 = i + d + 1 from by omega] at h2
      exact before_trans h1 h2
  unfold Sorted
  rw [List.pairwise_iff_getElem]
  intro i j hi hj hij
  have := key (j - i - 1) i (by omega)
  rw [show i + (j - i - 1) + 1 = j from by omega] at this
  rw [List.getD_eq_getElem?_getD, List.getElem?_eq_getElem hi, List.getD_eq_getElem?_getD, List.getElem?_eq_getElem hj] at this
  exact this
theorem ordK_sets {n : Nat} {L : List (List Int)} (hn : n ≤ 9) (hr : rowsB n L = true) : ordK L (setsN L) L.length ↔ setsN L = leastL (inS (setsN L)) := by
  have hS : ∀ s, inS (setsN L) s = true → s < 512 := fun s h => setsN_512 hn hr s (inS_iff.1 h)
  have hL := setsN_mem hn hr
  have hlen : (setsN L).length = L.length := by simp [setsN]
  constructor
  · intro h
    refine leastL_unique hS (by rw [hL]; exact sorted_of_steps fun i hi h1 => (h i hi).1 h1) fun s => ?_
    rw [minB_iff hS, inS_iff]
    constructor
    · intro hs
      refine ⟨hs, fun t ht hne hp => ?_⟩
      rw [inS_iff] at ht
      obtain ⟨i, hi, rfl⟩ := List.mem_iff_getElem.1 hs
      obtain ⟨j, hj, rfl⟩ := List.mem_iff_getElem.1 ht
      have e1 : (setsN L)[i] = (setsN L).getD i 0 := by rw [List.getD_eq_getElem?_getD, List.getElem?_eq_getElem hi]; rfl
      have e2 : (setsN L)[j] = (setsN L).getD j 0 := by rw [List.getD_eq_getElem?_getD, List.getElem?_eq_getElem hj]; rfl
      rw [e1, e2] at hp hne
      rcases Nat.lt_trichotomy i j with h1 | h1 | h1
      · have := ((h j (by omega)).2 i h1).1
        rw [Nat.and_comm] at this
        exact this hp
      · subst h1; exact hne rfl
      · exact ((h i (by omega)).2 j h1).2 hp
    · exact fun h => h.1
  · intro h i hi
    have hs : Sorted L := by
      have := filter_sorted 9 (minB (inS (setsN L)))
      have e : (setsN L).map (fun t => mem t 9) = ((inOrder 9).filter (minB (inS (setsN L)))).map fun t => mem t 9 := congrArg (fun l => l.map fun t => mem t 9) h
      rw [← e, hL] at this
      exact this
    unfold Sorted at hs
    rw [List.pairwise_iff_getElem] at hs
    have hnb : ∀ a b, a < b → b < L.length → before (L.getD a []) (L.getD b []) = true := fun a b hab hb => by
      have := hs a b (by omega) hb hab
      rw [List.getD_eq_getElem?_getD, List.getElem?_eq_getElem (by omega : a < L.length), List.getD_eq_getElem?_getD, List.getElem?_eq_getElem hb]
      exact this
    refine ⟨fun h1 => hnb (i-1) i (by omega) hi, fun j hj => ?_⟩
    have hne : (setsN L).getD i 0 ≠ (setsN L).getD j 0 := fun e => by
      have h1 := hnb j i hj hi
      have ei : mem ((setsN L).getD i 0) 9 = L.getD i [] := by
        conv => rhs; rw [← hL]
        rw [List.getD_eq_getElem?_getD, List.getD_eq_getElem?_getD, List.getElem?_map, List.getElem?_eq_getElem (by omega)]; rfl
      have ej : mem ((setsN L).getD j 0) 9 = L.getD j [] := by
        conv => rhs; rw [← hL]
        rw [List.getD_eq_getElem?_getD, List.getD_eq_getElem?_getD, List.getElem?_map, List.getElem?_eq_getElem (by omega)]; rfl
      rw [← ei, ← ej, e, before_irrefl] at h1; cases h1
    have mi : minB (inS (setsN L)) ((setsN L).getD i 0) = true := (mem_leastL hS).1 (by rw [← h]; exact getD_mem (by omega))
    have mj : minB (inS (setsN L)) ((setsN L).getD j 0) = true := (mem_leastL hS).1 (by rw [← h]; exact getD_mem (by omega))
    refine ⟨fun e => ?_, fun e => ?_⟩
    · exact ((minB_iff hS).1 mj).2 _ (inS_iff.2 (getD_mem (by omega))) hne (by rw [Nat.and_comm]; exact e)
    · exact ((minB_iff hS).1 mi).2 _ (inS_iff.2 (getD_mem (by omega))) (fun e => hne e.symm) e
/-- A game has no more than 126 least winning sets. -/
theorem game_126 {n : Nat} {L : List (List Int)} (hn : n ≤ 9) (hr : rowsB n L = true) (h : setsN L = leastL (inS (setsN L))) : L.length ≤ 126 := by
  have hS : ∀ s, inS (setsN L) s = true → s < 512 := fun s h => setsN_512 hn hr s (inS_iff.1 h)
  have hlen : (setsN L).length = L.length := by simp [setsN]
  rw [← hlen]
  refine sperner9 _ ?_ (setsN_512 hn hr) fun s hs t ht hne => ?_
  · have := filter_sorted 9 (minB (inS (setsN L)))
    have hnd : (leastL (inS (setsN L))).Nodup := by
      unfold Sorted at this
      rw [List.pairwise_map] at this
      exact this.imp fun {a b} hb e => by rw [e, before_irrefl] at hb; cases hb
    rw [h]; exact hnd
  · have ms : minB (inS (setsN L)) s = true := (mem_leastL hS).1 (by rw [← h]; exact hs)
    have mt : minB (inS (setsN L)) t = true := (mem_leastL hS).1 (by rw [← h]; exact ht)
    unfold comparB
    rw [Bool.or_eq_false_iff]
    refine ⟨decide_eq_false fun e => ?_, decide_eq_false fun e => ?_⟩
    · exact ((minB_iff hS).1 mt).2 s (inS_iff.2 hs) hne (by rw [Nat.and_comm]; exact e)
    · exact ((minB_iff hS).1 ms).2 t (inS_iff.2 ht) (fun e => hne e.symm) e
end Go.Proofs.Ytnldodnpakpeeaa.Vo
