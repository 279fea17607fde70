/- Texts of E7, E9. -/
import Derived.Test.YtnldodnpakpeeaaPkQ22
import Derived.Sort.MapsRangeIn
import Derived.RegionIn
import Derived.Test.YtnldodnpakpeeaaPkQ21
import Derived.Test.YtnldodnpakpeeaaPkQ07
import Derived.Maps.RangeWalk
import Derived.Maps.OwnOps
import Derived.Maps.OwnSet
import Derived.DeepKeys4
namespace Go.Proofs.Ytnldodnpakpeeaa
open Go.RowKit Vo
attribute [local go_sem] Oper.semAt_some

set_option maxHeartbeats 1000000 in
theorem sliceValues_any (A : Option Addr) (len cap : Nat) (w : World) :
    Calls Try.prog 165 #[.slice A len cap] w fun e w' => e = .returned (.func (.func 194) #[] #[.pointer (some ⟨w.heap.size, 0, none⟩)]) ∧ w' = w.alloc (.cells #[.slice A len cap] 93) := by
  go_enter Try.func165, Try.ntmps165
  go_wp2
  go_ret
  exact ⟨rfl, rfl⟩

theorem sliceValues_stops (F : Fence) (n : Nat) (hf : F.fn 194) (hro : F.round = none) (hn : 1 ≤ n) (Bs n₀ : Nat) (A : Option Addr) (len cap : Nat) (D : List Set9) (hlen : len = D.length) (hsz : len ≤ 512) (w : World) (hBs : Bs < w.heap.size) (hn₀ : n₀ ≤ w.heap.size)
    (hc : w.cell? ⟨Bs, 0, none⟩ = some (.slice A len cap)) (hD : ∀ j (h : j < D.length), ∃ b, A = some ⟨b, 0, none⟩ ∧ b < n₀ ∧ w.cell? ⟨b, j, none⟩ = some (.int .u64 (D[j].1 : Int))) :
    SeqStopsK F n Try.prog 194 #[.pointer (some ⟨Bs, 0, none⟩)] (fun x : Set9 => #[Value.int .u64 (x.1 : Int)]) (Below n₀) (fun ys => ys = D) (fun _ => True) len w := fun l J Jx W hW _ _ hY h0 =>
  (sliceValues1_in F n hf hro hn l Bs n₀ A len cap D hlen J Jx hY W ((hW.cell (p := ⟨Bs, 0, none⟩) hBs).trans hc) (fun j h => by
    obtain ⟨b, hA, hb, hcell⟩ := hD j h
    exact ⟨b, hA, hb, (hW.cell (p := ⟨b, j, none⟩) (Nat.lt_of_lt_of_le hb hn₀)).trans hcell⟩) hsz h0).mono fun e W' ⟨he, h⟩ => ⟨he, h.imp id fun ⟨pre, _, h2⟩ => ⟨pre, trivial, h2⟩⟩

theorem collect_any (g : Nat) (lb : Array Value) (eg : ∀ args w, (callFunc g args).run Try.prog w = .ok (.enter g args) w)
    (Kp : World → World → Prop) (S Sp : List Set9 → Prop) (N : Nat) (hN : N ≤ 1048576) (w : World) (hKt : ∀ {A B C : World}, Kp A B → Kp B C → Kp A C)
    (hKb : ∀ (W : World) (l : Nat) (o o' : Obj), w.heap.size + 1 ≤ l → W.heap[l]? = some o → o.isCells = false → o.isWalk = false → Kp W (W.putObj l o')) (hKp : ∀ W W', KeepsOthers W W' → Below w.heap.size W W' → Kp W W')
    (hseq : SeqStopsK Fence.wide 8 Try.prog g lb (fun x : Set9 => #[Value.int .u64 (x.1 : Int)]) Kp S Sp N w) :
    Calls Try.prog 190 #[.func (.func g) #[] lb] w fun e w' => Collects S w w' e :=
  callsIn_wide.1 (collect_in Fence.wide 10 trivial trivial rfl (by omega) g lb trivial eg Kp S Sp N hN w hKt hKb hKp hseq)

/-- Sets put in order, in a slice of the call's own. -/
def Ordered (S : List Set9 → Prop) (w w' : World) (e : Ending) : Prop :=
  ∃ (A : Option Addr) (cap : Nat) (ss : List Set9) (S' : List Nat), e = .returned (.slice A S'.length cap) ∧ S ss ∧ S'.Perm (ss.map (·.1)) ∧ ((ss.map (·.1)).Nodup → Sorted (S'.map fun t => mem t 9)) ∧ w'.ownsRow w.heap.size 107 1 (.slice A S'.length cap) S'.length (setsV S') ∧ Below w.heap.size w w'

theorem enc_map (ss : List Set9) : ss.map (fun x => Value.int .u64 (x.1 : Int)) = setsV (ss.map (·.1)) := by
  unfold setsV; rw [List.map_map]; rfl
set_option maxRecDepth 20000 in
set_option maxHeartbeats 1000000 in
theorem sortedFunc_any (g : Nat) (lb : Array Value) (eg : ∀ args w, (callFunc g args).run Try.prog w = .ok (.enter g args) w)
    (Kp : World → World → Prop) (S Sp : List Set9 → Prop) (N : Nat) (hN : N ≤ 512) (w : World) (hS : ∀ ss, S ss → ss.length ≤ 512) (hKt : ∀ {A B C : World}, Kp A B → Kp B C → Kp A C)
    (hKb : ∀ (W : World) (l : Nat) (o o' : Obj), w.heap.size + 1 ≤ l → W.heap[l]? = some o → o.isCells = false → o.isWalk = false → Kp W (W.putObj l o')) (hKp : ∀ W W', KeepsOthers W W' → Below w.heap.size W W' → Kp W W')
    (hseq : SeqStopsK Fence.wide 8 Try.prog g lb (fun x : Set9 => #[Value.int .u64 (x.1 : Int)]) Kp S Sp N w) :
    Calls Try.prog 164 #[.func (.func g) #[] lb, .func (.func 77) #[] #[]] w fun e w' => Ordered S w w' e := by
  have HC := Lib.hid (collect_any g lb eg Kp S Sp N (by omega) w hKt hKb hKp hseq)
  have HSS := Lib.hid hS
  clear hseq hKt hKb hKp hS
  go_enter Try.func164, Try.ntmps164
  go_wp2_with fail
  refine HC.out.mono ?_
  rintro e w1 ⟨v, ss, rfl, hss, hown, _, hb⟩
  rw [enc_map] at hown
  obtain ⟨k, hk⟩ : ∃ k, k = ss.length := ⟨_, rfl⟩
  rw [← hk] at hown
  obtain ⟨A, cap, rfl⟩ : ∃ A cap, v = .slice A k cap := by
    rcases hown.2 with ⟨rfl, h0⟩ | ⟨g', cap, _, rfl, _⟩
    · exact ⟨none, 0, by rw [h0]⟩
    · exact ⟨_, cap, rfl⟩
  have hk5 : k ≤ 512 := by have := HSS.out ss hss; omega
  have HO := Lib.hid hown
  have HK := Lib.hid (show k = (ss.map (·.1)).length from by simpa using hk)
  have HS2 := Lib.hid hss
  clear hown hk hss
  go_wp2_with fail
  refine (sortFunc_any (ss.map (·.1)) w.heap.size k cap A _ HK.out hk5 (fun s hs => by obtain ⟨x, _, rfl⟩ := List.mem_map.1 hs; exact x.2) HO.out).mono ?_
  rintro e w2 ⟨rfl, S', hp, hs, hown2, hg⟩
  have HP := Lib.hid hp
  have HSO := Lib.hid hs
  have HO2 := Lib.hid hown2
  have HG := Lib.hid hg
  clear hp hs hown2 hg
  have hl : S'.length = k := by rw [HP.out.length_eq, ← HK.out]
  have HLL := Lib.hid hl
  clear hl
  go_wp2
  go_ret
  exact ⟨A, cap, ss, S', by rw [HLL.out]; rfl, HS2.out, HP.out, HSO.out, by rw [HLL.out]; exact HO2.out, hb.grown HG.out hb.size (fun j hj => by
    have : (Value.slice A k cap).ownBlock = some j := by cases A with
      | none => cases hj
      | some a => simpa [Value.ownBlock] using hj
    exact owns_le HO.out this)⟩

set_option maxRecDepth 20000 in
set_option maxHeartbeats 1000000 in
theorem inOrder_any (S : List Nat) (base k cap : Nat) (A : Option Addr) (w : World) (hk : k = S.length) (hk5 : k ≤ 512) (hin : ∀ s ∈ S, s < 512) (hown : w.ownsRow base 107 1 (.slice A k cap) k (setsV S)) :
    Calls Try.prog 125 #[.slice A k cap] w fun e w' => Ordered (fun ss => ss.map (·.1) = S) w w' e := by
  obtain ⟨D, hD⟩ : ∃ D, D = subL S hin := ⟨_, rfl⟩
  have hDl : k = D.length := by rw [hD, subL_len, hk]
  have hDv : D.map (·.1) = S := by rw [hD]; exact subL_val S hin
  have hDD : ∀ W, Below w.heap.size w W → ∀ j (h : j < D.length), ∃ b, A = some ⟨b, 0, none⟩ ∧ b < w.heap.size ∧ W.cell? ⟨b, j, none⟩ = some (.int .u64 (D[j].1 : Int)) := fun W hW j h => by
    obtain ⟨g, cap', hv, hg, _, _⟩ := owns_head hown (by omega)
    obtain ⟨rfl, rfl⟩ : A = some ⟨g, 0, none⟩ ∧ cap = cap' := by simpa using hv
    have hlt : g < w.heap.size := owns_lt hown rfl
    have ho : Own w g 107 k (fun i => .int .u64 (S.getD i 0 : Nat)) := Own.of_own hown (fun i hi => by
      have : i < S.length := by omega
      simp [setsV, List.getD_eq_getElem?_getD, this])
    refine ⟨g, rfl, hlt, ?_⟩
    rw [(Own.below ho hW hlt).cell (i := j) (by omega)]
    have : S.getD j 0 = D[j].1 := by
      rw [← hDv, List.getD_eq_getElem?_getD, List.getElem?_map, List.getElem?_eq_getElem h]; rfl
    rw [this]
  have HDD := Lib.hid hDD
  have HDL := Lib.hid hDl
  have HDV := Lib.hid hDv
  clear hDD hDl hDv hD hown hk
  go_enter Try.func125, Try.ntmps125
  go_wp2_with (go_at_call 165; refine (sliceValues_any A k cap _).mono ?_; rintro e w1 ⟨rfl, rfl⟩)
  have hB := below1 w (.cells #[.slice A k cap] 93)
  have hbx := Box1.new 93 w (.slice A k cap)
  have hst := sliceValues_stops Fence.wide 8 trivial rfl (by omega) w.heap.size w.heap.size A k cap D HDL.out hk5 (w.alloc (.cells #[.slice A k cap] 93)) (by simp) (by simp) hbx.cell (HDD.out _ hB)
  have HF := Lib.hid (sortedFunc_any 194 #[.pointer (some ⟨w.heap.size, 0, none⟩)] (enters_of Try.func194 (by kernel_rfl) rfl) (Below w.heap.size) (fun ys => ys = D) (fun _ => True) k hk5 _ (fun ss h => by rw [h, ← HDL.out]; exact hk5) belowK_t (fun W l o o' h1 h2 h3 h4 => belowK_b (w := w) (Nat.le_refl _) W l o o' (by simp at h1; omega) h2 h3 h4) (fun _ _ _ h => h.mono (by simp)) hst)
  clear hst hbx
  go_wp2_with fail
  refine HF.out.mono ?_
  rintro e w2 ⟨A2, cap2, ss, S', rfl, rfl, hp, hs, hown2, hb2⟩
  have HP := Lib.hid hp
  have HSO := Lib.hid hs
  have HO2 := Lib.hid hown2
  clear hp hs hown2
  go_wp2
  go_ret
  exact ⟨A2, cap2, ss, S', rfl, HDV.out, HP.out, HSO.out, owns_less HO2.out (by simp), bfrom hB hb2⟩
end Go.Proofs.Ytnldodnpakpeeaa

namespace Go.Proofs.Ytnldodnpakpeeaa
open Go.RowKit Vo

theorem mapLaid : laidOutB Try.prog = true := by kernel_rfl
theorem keyLaw : Go.Maps.Keyed Try.prog 161 :=
  Go.Maps.Keyed.of_law (deep_law_laid mapLaid (m := 3) (by omega) (of_decide_eq_true (by kernel_rfl)) (by kernel_rfl) (by rw [Try.underlying161]))

theorem wf_small {a : Int} (h0 : 0 ≤ a) (h1 : a ≤ 9) : (Lit.int .i64 a).wf = true := WalkArith.wf_i64 (by omega)
theorem keyLits9 (d : Nat) (a0 a1 a2 a3 a4 a5 a6 a7 a8 : Int) (h0 : (Lit.int .i64 a0).wf = true) (h1 : (Lit.int .i64 a1).wf = true) (h2 : (Lit.int .i64 a2).wf = true) (h3 : (Lit.int .i64 a3).wf = true) (h4 : (Lit.int .i64 a4).wf = true) (h5 : (Lit.int .i64 a5).wf = true) (h6 : (Lit.int .i64 a6).wf = true) (h7 : (Lit.int .i64 a7).wf = true) (h8 : (Lit.int .i64 a8).wf = true) :
    Try.prog.keyLits (d + 2) 161 [.int .i64 a0, .int .i64 a1, .int .i64 a2, .int .i64 a3, .int .i64 a4, .int .i64 a5, .int .i64 a6, .int .i64 a7, .int .i64 a8] = some [.int .i64 a0, .int .i64 a1, .int .i64 a2, .int .i64 a3, .int .i64 a4, .int .i64 a5, .int .i64 a6, .int .i64 a7, .int .i64 a8] := by
  have hc : Try.prog.cellsOf 161 = 9 := by kernel_rfl
  have hi : Try.prog.cellsOf 3 = 1 := by kernel_rfl
  have e : ∀ a : Int, (Lit.int .i64 a).wf = true → Try.prog.keyLits (d + 1) 3 [.int .i64 a] = some [.int .i64 a] := fun a h => by
    simp only [Program.keyLits, Try.underlying3]
    rw [if_pos ⟨trivial, h⟩]
  unfold Program.keyLits
  rw [Try.underlying161]
  simp only [hc, hi, List.length_cons, List.length_nil, Nat.reduceAdd, if_true]
  rw [show List.range 9 = [0, 1, 2, 3, 4, 5, 6, 7, 8] from rfl]
  simp [e, h0, h1, h2, h3, h4, h5, h6, h7, h8]

/-- What the key of a set reads as. -/
def klit (s : Nat) : Lit := .string (keyBytes [.int .i64 (keyAt s 0), .int .i64 (keyAt s 1), .int .i64 (keyAt s 2), .int .i64 (keyAt s 3), .int .i64 (keyAt s 4), .int .i64 (keyAt s 5), .int .i64 (keyAt s 6), .int .i64 (keyAt s 7), .int .i64 (keyAt s 8)])
theorem keyV_cells (s : Nat) : (keyV s).cells.toList = [.int .i64 (keyAt s 0), .int .i64 (keyAt s 1), .int .i64 (keyAt s 2), .int .i64 (keyAt s 3), .int .i64 (keyAt s 4), .int .i64 (keyAt s 5), .int .i64 (keyAt s 6), .int .i64 (keyAt s 7), .int .i64 (keyAt s 8)] := rfl
theorem keyV_formed (s : Nat) : (keyV s).formed Try.prog 161 = true := by
  have hc : Try.prog.cellsOf 161 = 9 := by kernel_rfl
  unfold keyV Value.formed
  rw [Try.underlying161]
  simp [hc]
theorem key_reads (s : Nat) : keyOf Try.prog 161 (keyV s) = some (klit s) := by
  have hw : ∀ j, (Lit.int .i64 (keyAt s j)).wf = true := fun j => wf_small (keyAt_bd s j).1 (keyAt_bd s j).2
  have hk : Try.prog.keyType 161 = true := by kernel_rfl
  have hf := keyV_formed s
  obtain ⟨d, hd⟩ : ∃ d, Try.prog.types.size + 1 = d + 2 := ⟨Try.prog.types.size - 1, by
    have : 0 < Try.prog.types.size := of_decide_eq_true (by kernel_rfl)
    omega⟩
  have h9 := keyLits9 d _ _ _ _ _ _ _ _ _ (hw 0) (hw 1) (hw 2) (hw 3) (hw 4) (hw 5) (hw 6) (hw 7) (hw 8)
  unfold keyOf
  rw [Try.underlying161]
  show (if (Try.prog.keyType 161 && (keyV s).formed Try.prog 161) = true then _ else none) = _
  rw [hk, hf, hd, keyV_cells, h9]
  rfl
theorem klit_key (s : Nat) : WideAt.IsKeyLit (klit s) := keyLaw.key (key_reads s)
theorem keyV_inj {s t : Nat} (hs : s < 512) (ht : t < 512) (h : keyV s = keyV t) : s = t := by
  have e := congrArg (fun v : Value => v.cells.toList) h
  simp only [keyV_cells] at e
  simp only [List.cons.injEq, Value.int.injEq, true_and, and_true] at e
  obtain ⟨h0, h1, h2, h3, h4, h5, h6, h7, h8⟩ := e
  refine keyAt_inj hs ht fun j hj => ?_
  have hj' : j = 0 ∨ j = 1 ∨ j = 2 ∨ j = 3 ∨ j = 4 ∨ j = 5 ∨ j = 6 ∨ j = 7 ∨ j = 8 := by omega
  rcases hj' with rfl | rfl | rfl | rfl | rfl | rfl | rfl | rfl | rfl
  · exact h0
  · exact h1
  · exact h2
  · exact h3
  · exact h4
  · exact h5
  · exact h6
  · exact h7
  · exact h8
theorem klit_inj {s t : Nat} (hs : s < 512) (ht : t < 512) (h : klit s = klit t) : s = t :=
  keyV_inj hs ht (keyLaw.inj (key_reads s) (by rw [h]; exact key_reads t))
theorem same_klit {s t : Nat} (hs : s < 512) (ht : t < 512) : (klit s).sameKey (klit t) = decide (s = t) := by
  by_cases e : s = t
  · subst e; rw [WideAt.sameKey_self (klit_key s)]; simp
  · rw [Go.Maps.sameKey_ne (fun h => e (klit_inj hs ht h))]; simp [e]

abbrev DU : Type := DataW Unit
/-- The map has just the sets of M, each at its key. -/
structure MapIs (D : DU) (M : Nat → Bool) : Prop where
  map : Go.Maps.IsMap D
  dom : ∀ s, M s = true → s < 512
  has : ∀ s, s < 512 → Go.Maps.has D (klit s) = M s
  only : ∀ kl, Go.Maps.has D kl = true → ∃ s, s < 512 ∧ kl = klit s
  at_ : ∀ s, M s = true → ∀ zd, D.atKey (klit s) zd = .lit (.int .u64 (s : Int))
theorem MapIs.nil : MapIs (.map []) (fun _ => false) :=
  ⟨Go.Maps.isMap_empty, fun _ h => by simp at h, fun _ _ => rfl, fun _ h => by simp [Go.Maps.has] at h, fun _ h => by simp at h⟩
theorem MapIs.put {D : DU} {M : Nat → Bool} (h : MapIs D M) {s : Nat} (hs : s < 512) : MapIs (D.put (klit s) (.lit (.int .u64 (s : Int)))) (fun t => decide (t = s) || M t) := by
  refine ⟨h.map.put _ _, fun t ht => ?_, fun t ht => ?_, fun kl hkl => ?_, fun t ht zd => ?_⟩
  · simp at ht; rcases ht with rfl | ht
    · exact hs
    · exact h.dom t ht
  · by_cases e : t = s
    · subst e; rw [Go.Maps.has_put_same h.map (klit_key t)]; simp
    · rw [Go.Maps.has_put_other (fun h' => e (klit_inj ht hs h')), h.has t ht]; simp [e]
  · by_cases e : kl = klit s
    · exact ⟨s, hs, e⟩
    · rw [Go.Maps.has_put_other e] at hkl; exact h.only kl hkl
  · by_cases e : t = s
    · subst e; rw [Go.Maps.atKey_put_same h.map (klit_key t)]
    · simp [e] at ht
      rw [Go.Maps.atKey_put_other (fun h' => e (klit_inj (h.dom t ht) hs h'))]
      exact h.at_ t ht zd
theorem MapIs.del {D : DU} {M : Nat → Bool} (h : MapIs D M) {s : Nat} (hs : s < 512) : MapIs (D.del (klit s)) (fun t => M t && decide (t ≠ s)) := by
  refine ⟨h.map.del _, fun t ht => ?_, fun t ht => ?_, fun kl hkl => ?_, fun t ht zd => ?_⟩
  · simp at ht; exact h.dom t ht.1
  · by_cases e : t = s
    · subst e; rw [Go.Maps.has_del_same]; simp
    · rw [Go.Maps.has_del_other (fun h' => e (klit_inj ht hs h')), h.has t ht]; simp [e]
  · by_cases e : kl = klit s
    · rw [e, Go.Maps.has_del_same] at hkl; cases hkl
    · rw [Go.Maps.has_del_other e] at hkl; exact h.only kl hkl
  · simp at ht
    rw [Go.Maps.atKey_del_other (fun h' => ht.2 (klit_inj (h.dom t ht.1) hs h'))]
    exact h.at_ t ht.1 zd
theorem MapIs.congr {D : DU} {M M' : Nat → Bool} (h : MapIs D M) (e : ∀ s, M s = M' s) : MapIs D M' := by
  have : M = M' := funext e
  rw [← this]; exact h

/-- The sets of the map that are still to come. -/
def toCome (left : Lit → Bool) (s : Nat) : Bool := left (klit s)

section
variable (w : World) {ops : Array Oper} {rest : List Oper} {o : Oper} {a : Act} {Q : Exit → Act → World → Prop}
/-- The step of a range over such a map: nothing is left, or some set that is to come comes. -/
theorem wpList_next_sets (hg : o.guard = none) (it : Operand) (hop : o.op = Op.next it false) (b r n : Nat) (D : DU) (M : Nat → Bool) (left : Lit → Bool) (cnt : Nat)
    (hit : a.eval it = .pointer (some ⟨r, 0, none⟩)) (h : w.ranges Try.prog 161 (plainElem (H := Unit) Try.prog 107) b r n D left cnt) (hM : MapIs D M)
    (hDone : cnt = 0 → (∀ s, s < 512 → left (klit s) = false) → wpList Try.prog ops Q rest (a.put o.dst (.tuple #[.bool false])) w)
    (hMore : ∀ (s : Nat) (w' : World) (cnt' : Nat), s < 512 → M s = true → left (klit s) = true → w'.ranges Try.prog 161 (plainElem (H := Unit) Try.prog 107) b r n D (fun z => left z && !z.sameKey (klit s)) cnt' → cnt' < cnt →
      w.grownBy w' (some r) → w'.heap.size = w.heap.size → (Instr.entry (.pointer (some ⟨r, 0, none⟩))).run Try.prog w' = .ok (.tuple #[keyV s, .int .u64 (s : Int)]) w' → wpList Try.prog ops Q rest (a.put o.dst (.tuple #[.bool true, keyV s, .int .u64 (s : Int)])) w') :
    wpList Try.prog ops Q (o :: rest) a w := by
  refine wpList_plain hg fun K' hK' => ?_
  unfold Oper.wp
  rcases h.next keyLaw o.type with ⟨h0, hl, hrun⟩ | ⟨key, v, kl, y, w', cnt', hkey, hlk, hv, hat, hrun, hrg, hlt, hgr, hsz, hen⟩
  · simp [execOp, hop, hit, hrun, Result.andThen]
    exact hK' _ _ (hDone h0 (fun s _ => hl _))
  · obtain ⟨s, hs, rfl⟩ := hM.only kl (Go.Maps.has_true_of_atKey hat)
    have hMs : M s = true := by rw [← hM.has s hs]; exact Go.Maps.has_true_of_atKey hat
    obtain rfl : key = keyV s := keyLaw.inj hkey (key_reads s)
    obtain ⟨c, rfl, rfl, _⟩ := Go.plainElem_int_inv (q := .u64) Try.underlying107 hv
    have hc : c = (s : Int) := by
      have h1 := hat (.lit (.bool false))
      rw [hM.at_ s hMs] at h1
      simpa using h1.symm
    subst hc
    simp [execOp, hop, hit, hrun, Result.andThen]
    exact hK' _ _ (hMore s w' cnt' hs hMs hlk hrg hlt hgr hsz hen)
end
end Go.Proofs.Ytnldodnpakpeeaa

namespace Go.Proofs.Ytnldodnpakpeeaa
open Go.RowKit Vo
attribute [local go_sem] Oper.semAt_some

theorem wpListIn_next_sets {F : Fence} {m : Nat} (w : World) {ops : Array Oper} {rest : List Oper} {o : Oper} {a : Act} {Q : Exit → Act → World → Prop} (hg : o.guard = none) (it : Operand) (hop : o.op = Op.next it false) (b r n : Nat) (D : DU) (M : Nat → Bool) (left : Lit → Bool) (cnt : Nat)
    (hit : a.eval it = .pointer (some ⟨r, 0, none⟩)) (h : w.ranges Try.prog 161 (plainElem (H := Unit) Try.prog 107) b r n D left cnt) (hM : MapIs D M)
    (hDone : cnt = 0 → (∀ s, s < 512 → left (klit s) = false) → wpListIn F m Try.prog ops Q rest (a.put o.dst (.tuple #[.bool false])) w)
    (hMore : ∀ (s : Nat) (w' : World) (cnt' : Nat), s < 512 → M s = true → left (klit s) = true → w'.ranges Try.prog 161 (plainElem (H := Unit) Try.prog 107) b r n D (fun z => left z && !z.sameKey (klit s)) cnt' → cnt' < cnt →
      w.grownBy w' (some r) → w'.heap.size = w.heap.size → (Instr.entry (.pointer (some ⟨r, 0, none⟩))).run Try.prog w' = .ok (.tuple #[keyV s, .int .u64 (s : Int)]) w' → wpListIn F m Try.prog ops Q rest (a.put o.dst (.tuple #[.bool true, keyV s, .int .u64 (s : Int)])) w') :
    wpListIn F m Try.prog ops Q (o :: rest) a w := by
  refine wpListIn_plain hg fun K' hK' => ?_
  unfold Oper.wpIn
  refine ⟨by simp [Oper.about, hop], ?_⟩
  rw [Oper.semAt_plain F _ _ (by rw [hop]; intro c hc'; cases hc')]
  rcases h.next keyLaw o.type with ⟨h0, hl, hrun⟩ | ⟨key, v, kl, y, w', cnt', hkey, hlk, hv, hat, hrun, hrg, hlt, hgr, hsz, hen⟩
  · simp [execOp, hop, hit, hrun, Result.andThen]
    exact hK' _ _ (hDone h0 (fun s _ => hl _))
  · obtain ⟨s, hs, rfl⟩ := hM.only kl (Go.Maps.has_true_of_atKey hat)
    have hMs : M s = true := by rw [← hM.has s hs]; exact Go.Maps.has_true_of_atKey hat
    obtain rfl : key = keyV s := keyLaw.inj hkey (key_reads s)
    obtain ⟨c, rfl, rfl, _⟩ := Go.plainElem_int_inv (q := .u64) Try.underlying107 hv
    have hc : c = (s : Int) := by
      have h1 := hat (.lit (.bool false))
      rw [hM.at_ s hMs] at h1
      simpa using h1.symm
    subst hc
    simp [execOp, hop, hit, hrun, Result.andThen]
    exact hK' _ _ (hMore s w' cnt' hs hMs hlk hrg hlt hgr hsz hen)

theorem map_size_le {w : World} {b n : Nat} {D : DU} (h : w.ownsMap Try.prog 161 (plainElem (H := Unit) Try.prog 107) b n D) : Go.Maps.size D ≤ n := by
  obtain ⟨es, clock, _, F, hs, rfl⟩ := h
  show (List.foldr DataW.insert [] _).length ≤ n
  rw [(Go.WideShapes.sorted_perm _).length_eq]; simpa using hs

/-- What has come: each once, just those that are no longer to come. -/
structure Came (M : Nat → Bool) (left : Lit → Bool) (ps : List Set9) : Prop where
  nodup : (ps.map (·.1)).Nodup
  iff : ∀ s, s ∈ ps.map (·.1) ↔ (M s = true ∧ left (klit s) = false)
theorem Came.start {D : DU} {M : Nat → Bool} (h : MapIs D M) : Came M (Go.Maps.has D) [] := by
  refine ⟨List.Pairwise.nil, fun s => ⟨fun h => by simp at h, fun ⟨h1, h2⟩ => ?_⟩⟩
  rw [h.has s (h.dom s h1), h1] at h2; cases h2
theorem Came.step {M : Nat → Bool} (hd : ∀ s, M s = true → s < 512) {left : Lit → Bool} {ps : List Set9} (h : Came M left ps) {s : Nat} (hs : s < 512) (hM : M s = true) (hl : left (klit s) = true) : Came M (fun z => left z && !z.sameKey (klit s)) (ps ++ [⟨s, hs⟩]) := by
  refine ⟨?_, fun t => ?_⟩
  · rw [List.map_append, List.nodup_append]
    refine ⟨h.nodup, by simp, fun a ha b hb e => ?_⟩
    simp at hb
    subst e; subst hb
    have := (h.iff _).1 ha
    rw [hl] at this; cases this.2
  · rw [List.map_append, List.mem_append, h.iff t]
    constructor
    · rintro (⟨h1, h2⟩ | h1)
      · exact ⟨h1, by rw [h2]; rfl⟩
      · simp at h1; subst h1; exact ⟨hM, by rw [same_klit hs hs]; simp⟩
    · rintro ⟨h1, h2⟩
      by_cases e : t = s
      · subst e; right; simp
      · left
        refine ⟨h1, ?_⟩
        rw [same_klit (hd t h1) hs] at h2
        simpa [e] using h2

set_option maxRecDepth 100000 in
set_option maxHeartbeats 1000000 in
theorem mapValues1_in (F : Fence) (n : Nat) (hf : F.fn 209) (hro : F.round = none) (hn : 1 ≤ n) (l Bm b nn : Nat) (D0 : DU) (M : Nat → Bool) (hM : MapIs D0 M) (J Jx : List Set9 → World → Prop)
    (hY : ∀ pre x W, J pre W → pre.length < nn → YieldAt F (n - 1) Try.prog l #[Value.int .u64 (x.1 : Int)] W fun e W' =>
      (e = .returned (.bool true) ∧ J (pre ++ [x]) W' ∧ KeepsWalks W W') ∨ (e = .returned (.bool false) ∧ Jx (pre ++ [x]) W'))
    (W : World) (hJ : AbidesFrom W.heap.size J) (hm : W.cell? ⟨Bm, 0, none⟩ = some (.map (some b))) (hown : W.ownsMap Try.prog 161 (plainElem (H := Unit) Try.prog 107) b nn D0) (h0 : J [] W) :
    CallsIn F n Try.prog 209 #[.func (.yield l) #[] #[], .pointer (some ⟨Bm, 0, none⟩)] W fun e W' => (∃ v, e = .returned v) ∧
      ((∃ xs : List Set9, ((xs.map (·.1)).Nodup ∧ ∀ s, s ∈ xs.map (·.1) ↔ M s = true) ∧ J xs W') ∨ (∃ pre, Jx pre W')) := by
  have hsz := map_size_le hown
  have HM := Lib.hid hM
  clear hM
  refine callsIn_of_wp Try.func209 rfl hf ?_ hro
  simp only [Try.ntmps209, List.size_toArray, List.length_cons, List.length_nil, Nat.reduceAdd, Nat.reduceSub, Array.replicate_succ, Array.replicate_zero, List.push_toArray, List.append_toArray, List.nil_append, List.cons_append]
  gi_wp2_with (first
    | (gi_at_range; refine wpListIn_range_own _ rfl _ 217 rfl 161 107 keyLaw Try.underlying217 _ b nn _ rfl hown ?_; intro w0 hrg0 hg0 hs0)
    | gi_in)
  go_frame
  gi_loopw [4] (fun _ wr => ∃ (left : Lit → Bool) (cnt : Nat) (ps : List Set9), wr.ranges Try.prog 161 (plainElem (H := Unit) Try.prog 107) b W.heap.size nn D0 left cnt ∧ ps.length + cnt ≤ nn ∧ Came M left ps ∧ J ps wr)
    (fun _ wr => wr.rangeLeft b W.heap.size)
  case atStart =>
    exact ⟨_, _, [], hrg0, by simpa using hsz, Came.start HM.out, hJ [] W w0 none h0 hg0 (fun r e => by cases e)⟩
  case round =>
    obtain ⟨left, cnt, ps, hrg, hcs, hC, hJs⟩ := hrel
    gi_wp2_with (first
      | (gi_at_next; refine wpListIn_next_sets _ rfl _ rfl b W.heap.size nn _ M _ _ rfl hrg HM.out ?_ ?_)
      | gi_in)
    · intro hc0 hl0
      gi_wp2
      go_end0
      exact ⟨⟨_, rfl⟩, .inl ⟨ps, ⟨hC.nodup, fun s => by
        rw [hC.iff s]
        exact ⟨fun h => h.1, fun h => ⟨h, hl0 s (HM.out.dom s h)⟩⟩⟩, hJs⟩⟩
    · intro s w2 cnt2 hs hMs hls hrg2 hlt hg2 hs2 hen
      have hJ2 : J ps w2 := hJ ps wr w2 (some W.heap.size) hJs hg2 (fun r e => by cases e; exact ⟨Nat.le_refl _, hrg.iter_walk⟩)
      obtain ⟨fn, tmps, assign, body, hy, hR⟩ := hY ps ⟨s, hs⟩ w2 hJ2 (by omega)
      dsimp only at hy
      have HC2 := Lib.hid (hC.step HM.out.dom hs hMs hls)
      clear hs2 hC
      unfold keyV at hen ⊢
      gi_wp2
      refine hR.mono ?_
      rintro e W3 (⟨rfl, hJ3, hk3⟩ | ⟨rfl, hJx3⟩)
      · gi_wp2
        have hrg3 := hrg2.of_walks hk3
        go_roundw
        case rel => exact ⟨_, cnt2, ps ++ [⟨s, hs⟩], hrg3, by simp; omega, HC2.out, hJ3⟩
        case measure => rw [hrg3.left_eq, hrg.left_eq]; exact hlt
      · gi_wp2
        refine bodyPost_ret (results_none rfl _ _ _) rfl ?_
        exact ⟨⟨_, rfl⟩, .inr ⟨ps ++ [⟨s, hs⟩], hJx3⟩⟩

set_option maxHeartbeats 1000000 in
theorem mapValues_any (b : Nat) (w : World) :
    Calls Try.prog 191 #[.map (some b)] w fun e w' => e = .returned (.func (.func 209) #[] #[.pointer (some ⟨w.heap.size, 0, none⟩)]) ∧ w' = w.alloc (.cells #[.map (some b)] 217) := by
  go_enter Try.func191, Try.ntmps191
  go_wp2
  go_ret
  exact ⟨rfl, rfl⟩

theorem ownsMap_below {w w' : World} {b n : Nat} {D : DU} (h : w.ownsMap Try.prog 161 (plainElem (H := Unit) Try.prog 107) b n D) (hb : Below w.heap.size w w') : w'.ownsMap Try.prog 161 (plainElem (H := Unit) Try.prog 107) b n D := by
  have hlt := h.lt
  obtain ⟨es, clock, hbk, F, hs, hD⟩ := h
  exact ⟨es, clock, (hb.block b hlt).trans hbk, F, hs, hD⟩

theorem mapValues_stops (Bm b nn : Nat) (D0 : DU) (M : Nat → Bool) (hM : MapIs D0 M) (w : World) (hBm : Bm < w.heap.size) (hm : w.cell? ⟨Bm, 0, none⟩ = some (.map (some b))) (hown : w.ownsMap Try.prog 161 (plainElem (H := Unit) Try.prog 107) b nn D0) :
    SeqStopsK Fence.wide 8 Try.prog 209 #[.pointer (some ⟨Bm, 0, none⟩)] (fun x : Set9 => #[Value.int .u64 (x.1 : Int)]) KeepsWalks (fun xs => (xs.map (·.1)).Nodup ∧ ∀ s, s ∈ xs.map (·.1) ↔ M s = true) (fun _ => True) nn w := fun l J Jx W hW hJ _ hY h0 =>
  (mapValues1_in Fence.wide 8 trivial rfl (by omega) l Bm b nn D0 M hM J Jx hY W hJ ((hW.cell (p := ⟨Bm, 0, none⟩) hBm).trans hm) (ownsMap_below hown hW) h0).mono fun e W' ⟨he, h⟩ => ⟨he, h.imp id fun ⟨pre, h2⟩ => ⟨pre, trivial, h2⟩⟩
end Go.Proofs.Ytnldodnpakpeeaa
