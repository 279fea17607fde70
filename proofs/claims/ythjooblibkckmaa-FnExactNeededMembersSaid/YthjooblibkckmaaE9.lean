/- Contracts of the library's iterator over the values of a map of sets. -/
import Derived.Test.YthjooblibkckmaaE7
import Derived.Test.YthjooblibkckmaaE8
import Derived.Sort.MapsRangeIn
import Derived.RegionIn
namespace Go.Proofs.Ythjooblibkckmaa
open Go.RowKit Vo
attribute [local go_sem] Oper.semAt_some

theorem wpListIn_next_sets {F : Fence} {m : Nat} (w : World) {ops : Array Oper} {rest : List Oper} {o : Oper} {a : Act} {Q : Exit → Act → World → Prop} (hg : o.guard = none) (it : Operand) (hop : o.op = Op.next it false) (b r n : Nat) (D : DU) (M : Nat → Bool) (left : Lit → Bool) (cnt : Nat)
    (hit : a.eval it = .pointer (some ⟨r, 0, none⟩)) (h : w.ranges Try.prog 116 (plainElem (H := Unit) Try.prog 78) b r n D left cnt) (hM : MapIs D M)
    (hDone : cnt = 0 → (∀ s, s < 512 → left (klit s) = false) → wpListIn F m Try.prog ops Q rest (a.put o.dst (.tuple #[.bool false])) w)
    (hMore : ∀ (s : Nat) (w' : World) (cnt' : Nat), s < 512 → M s = true → left (klit s) = true → w'.ranges Try.prog 116 (plainElem (H := Unit) Try.prog 78) b r n D (fun z => left z && !z.sameKey (klit s)) cnt' → cnt' < cnt →
      w.grownBy w' (some r) → w'.heap.size = w.heap.size → (Instr.entry (.pointer (some ⟨r, 0, none⟩))).run Try.prog w' = .ok (.tuple #[keyV s, .int .u64 (s : Int)]) w' → wpListIn F m Try.prog ops Q rest (a.put o.dst (.tuple #[.bool true, keyV s, .int .u64 (s : Int)])) w') :
    wpListIn F m Try.prog ops Q (o :: rest) a w := by
  refine wpListIn_plain hg fun K' hK' => ?_
  unfold Oper.wpIn
  refine ⟨by simp [Oper.about, hop], ?_⟩
  rw [Oper.semAt_plain F _ _ (by rw [hop]; intro c hc'; cases hc')]
  rcases h.next keyLaw o.type with ⟨h0, hl, hrun⟩ | ⟨key, v, kl, y, w', cnt', hkey, hlk, hv, hat, hrun, hrg, hlt, hgr, hsz, hen⟩
  · simp [execOp, hop, hit, hrun, Result.andThen]
    exact hK' _ _ (hDone h0 (fun s _ => hl _))
  · obtain ⟨s, hs, rfl⟩ := hM.only kl (Go.Maps.has_true_of_atKey hat)
    have hMs : M s = true := by rw [← hM.has s hs]; exact Go.Maps.has_true_of_atKey hat
    obtain rfl : key = keyV s := keyLaw.inj hkey (key_reads s)
    obtain ⟨c, rfl, rfl, _⟩ := Go.plainElem_int_inv (q := .u64) Try.underlying78 hv
    have hc : c = (s : Int) := by
      have h1 := hat (.lit (.bool false))
      rw [hM.at_ s hMs] at h1
      simpa using h1.symm
    subst hc
    simp [execOp, hop, hit, hrun, Result.andThen]
    exact hK' _ _ (hMore s w' cnt' hs hMs hlk hrg hlt hgr hsz hen)

theorem map_size_le {w : World} {b n : Nat} {D : DU} (h : w.ownsMap Try.prog 116 (plainElem (H := Unit) Try.prog 78) b n D) : Go.Maps.size D ≤ n := by
  obtain ⟨es, clock, _, F, hs, rfl⟩ := h
  show (List.foldr DataW.insert [] _).length ≤ n
  rw [(Go.WideShapes.sorted_perm _).length_eq]; simpa using hs

/-- What has come: each once, just those that are no longer to come. -/
structure Came (M : Nat → Bool) (left : Lit → Bool) (ps : List Set9) : Prop where
  nodup : (ps.map (·.1)).Nodup
  iff : ∀ s, s ∈ ps.map (·.1) ↔ (M s = true ∧ left (klit s) = false)
theorem Came.start {D : DU} {M : Nat → Bool} (h : MapIs D M) : Came M (Go.Maps.has D) [] := by
  refine ⟨List.Pairwise.nil, fun s => ⟨fun h => by simp at h, fun ⟨h1, h2⟩ => ?_⟩⟩
  rw [h.has s (h.dom s h1), h1] at h2; cases h2
theorem Came.step {M : Nat → Bool} (hd : ∀ s, M s = true → s < 512) {left : Lit → Bool} {ps : List Set9} (h : Came M left ps) {s : Nat} (hs : s < 512) (hM : M s = true) (hl : left (klit s) = true) : Came M (fun z => left z && !z.sameKey (klit s)) (ps ++ [⟨s, hs⟩]) := by
  refine ⟨?_, fun t => ?_⟩
  · rw [List.map_append, List.nodup_append]
    refine ⟨h.nodup, by simp, fun a ha b hb e => ?_⟩
    simp at hb
    subst e; subst hb
    have := (h.iff _).1 ha
    rw [hl] at this; cases this.2
  · rw [List.map_append, List.mem_append, h.iff t]
    constructor
    · rintro (⟨h1, h2⟩ | h1)
      · exact ⟨h1, by rw [h2]; rfl⟩
      · simp at h1; subst h1; exact ⟨hM, by rw [same_klit hs hs]; simp⟩
    · rintro ⟨h1, h2⟩
      by_cases e : t = s
      · subst e; right; simp
      · left
        refine ⟨h1, ?_⟩
        rw [same_klit (hd t h1) hs] at h2
        simpa [e] using h2

set_option maxRecDepth 100000 in
set_option maxHeartbeats 1000000 in
theorem mapValues1_in (F : Fence) (n : Nat) (hf : F.fn 134) (hro : F.round = none) (hn : 1 ≤ n) (l Bm b nn : Nat) (D0 : DU) (M : Nat → Bool) (hM : MapIs D0 M) (J Jx : List Set9 → World → Prop)
    (hY : ∀ pre x W, J pre W → pre.length < nn → YieldAt F (n - 1) Try.prog l #[Value.int .u64 (x.1 : Int)] W fun e W' =>
      (e = .returned (.bool true) ∧ J (pre ++ [x]) W' ∧ KeepsWalks W W') ∨ (e = .returned (.bool false) ∧ Jx (pre ++ [x]) W'))
    (W : World) (hJ : AbidesFrom W.heap.size J) (hm : W.cell? ⟨Bm, 0, none⟩ = some (.map (some b))) (hown : W.ownsMap Try.prog 116 (plainElem (H := Unit) Try.prog 78) b nn D0) (h0 : J [] W) :
    CallsIn F n Try.prog 134 #[.func (.yield l) #[] #[], .pointer (some ⟨Bm, 0, none⟩)] W fun e W' => (∃ v, e = .returned v) ∧
      ((∃ xs : List Set9, ((xs.map (·.1)).Nodup ∧ ∀ s, s ∈ xs.map (·.1) ↔ M s = true) ∧ J xs W') ∨ (∃ pre, Jx pre W')) := by
  have hsz := map_size_le hown
  have HM := Lib.hid hM
  clear hM
  refine callsIn_of_wp Try.func134 rfl hf ?_ hro
  simp only [Try.ntmps134, List.size_toArray, List.length_cons, List.length_nil, Nat.reduceAdd, Nat.reduceSub, Array.replicate_succ, Array.replicate_zero, List.push_toArray, List.append_toArray, List.nil_append, List.cons_append]
  gi_wp2_with (first
    | (gi_at_range; refine wpListIn_range_own _ rfl _ 114 rfl 116 78 keyLaw Try.underlying114 _ b nn _ rfl hown ?_; intro w0 hrg0 hg0 hs0)
    | gi_in)
  go_frame
  gi_loopw [4] (fun _ wr => ∃ (left : Lit → Bool) (cnt : Nat) (ps : List Set9), wr.ranges Try.prog 116 (plainElem (H := Unit) Try.prog 78) b W.heap.size nn D0 left cnt ∧ ps.length + cnt ≤ nn ∧ Came M left ps ∧ J ps wr)
    (fun _ wr => wr.rangeLeft b W.heap.size)
  case atStart =>
    exact ⟨_, _, [], hrg0, by simpa using hsz, Came.start HM.out, hJ [] W w0 none h0 hg0 (fun r e => by cases e)⟩
  case round =>
    obtain ⟨left, cnt, ps, hrg, hcs, hC, hJs⟩ := hrel
    gi_wp2_with (first
      | (gi_at_next; refine wpListIn_next_sets _ rfl _ rfl b W.heap.size nn _ M _ _ rfl hrg HM.out ?_ ?_)
      | gi_in)
    · intro hc0 hl0
      gi_wp2
      go_end0
      exact ⟨⟨_, rfl⟩, .inl ⟨ps, ⟨hC.nodup, fun s => by
        rw [hC.iff s]
        exact ⟨fun h => h.1, fun h => ⟨h, hl0 s (HM.out.dom s h)⟩⟩⟩, hJs⟩⟩
    · intro s w2 cnt2 hs hMs hls hrg2 hlt hg2 hs2 hen
      have hJ2 : J ps w2 := hJ ps wr w2 (some W.heap.size) hJs hg2 (fun r e => by cases e; exact ⟨Nat.le_refl _, hrg.iter_walk⟩)
      obtain ⟨fn, tmps, assign, body, hy, hR⟩ := hY ps ⟨s, hs⟩ w2 hJ2 (by omega)
      dsimp only at hy
      have HC2 := Lib.hid (hC.step HM.out.dom hs hMs hls)
      clear hs2 hC
      unfold keyV at hen ⊢
      gi_wp2
      refine hR.mono ?_
      rintro e W3 (⟨rfl, hJ3, hk3⟩ | ⟨rfl, hJx3⟩)
      · gi_wp2
        have hrg3 := hrg2.of_walks hk3
        go_roundw
        case rel => exact ⟨_, cnt2, ps ++ [⟨s, hs⟩], hrg3, by simp; omega, HC2.out, hJ3⟩
        case measure => rw [hrg3.left_eq, hrg.left_eq]; exact hlt
      · gi_wp2
        refine bodyPost_ret (results_none rfl _ _ _) rfl ?_
        exact ⟨⟨_, rfl⟩, .inr ⟨ps ++ [⟨s, hs⟩], hJx3⟩⟩

set_option maxHeartbeats 1000000 in
theorem mapValues_any (b : Nat) (w : World) :
    Calls Try.prog 122 #[.map (some b)] w fun e w' => e = .returned (.func (.func 134) #[] #[.pointer (some ⟨w.heap.size, 0, none⟩)]) ∧ w' = w.alloc (.cells #[.map (some b)] 114) := by
  go_enter Try.func122, Try.ntmps122
  go_wp2
  go_ret
  exact ⟨rfl, rfl⟩

theorem ownsMap_below {w w' : World} {b n : Nat} {D : DU} (h : w.ownsMap Try.prog 116 (plainElem (H := Unit) Try.prog 78) b n D) (hb : Below w.heap.size w w') : w'.ownsMap Try.prog 116 (plainElem (H := Unit) Try.prog 78) b n D := by
  have hlt := h.lt
  obtain ⟨es, clock, hbk, F, hs, hD⟩ := h
  exact ⟨es, clock, (hb.block b hlt).trans hbk, F, hs, hD⟩

theorem mapValues_stops (Bm b nn : Nat) (D0 : DU) (M : Nat → Bool) (hM : MapIs D0 M) (w : World) (hBm : Bm < w.heap.size) (hm : w.cell? ⟨Bm, 0, none⟩ = some (.map (some b))) (hown : w.ownsMap Try.prog 116 (plainElem (H := Unit) Try.prog 78) b nn D0) :
    SeqStopsK Fence.wide 8 Try.prog 134 #[.pointer (some ⟨Bm, 0, none⟩)] (fun x : Set9 => #[Value.int .u64 (x.1 : Int)]) KeepsWalks (fun xs => (xs.map (·.1)).Nodup ∧ ∀ s, s ∈ xs.map (·.1) ↔ M s = true) (fun _ => True) nn w := fun l J Jx W hW hJ _ hY h0 =>
  (mapValues1_in Fence.wide 8 trivial rfl (by omega) l Bm b nn D0 M hM J Jx hY W hJ ((hW.cell (p := ⟨Bm, 0, none⟩) hBm).trans hm) (ownsMap_below hown hW) h0).mono fun e W' ⟨he, h⟩ => ⟨he, h.imp id fun ⟨pre, h2⟩ => ⟨pre, trivial, h2⟩⟩
end Go.Proofs.Ythjooblibkckmaa
