/- Texts of B1, E7. -/
import Derived.Test.YtlcfimddcedbcabPkQ00
import Derived.Test.YtlcfimddcedbcabPkQ15
namespace Go.Proofs.Ytlcfimddcedbcab
open Go.RowKit

/-- The box of one value. -/
def Box1 (t : TypeId) (w : World) (g : Nat) (v : Value) : Prop := w.heap[g]? = some (.cells #[v] t (0, 0))
namespace Box1
variable {t : TypeId} {w w' : World} {g : Nat} {v : Value}
theorem lt (h : Box1 t w g v) : g < w.heap.size := (Array.getElem?_eq_some_iff.1 h).1
theorem cell (h : Box1 t w g v) : w.cell? ⟨g, 0, none⟩ = some v := by unfold Box1 at h; simp [World.cell?, h]
theorem now (h : Box1 t w g v) (hb : Below w.heap.size w w') : Box1 t w' g v := (hb.block g h.lt).trans h
theorem drew (h : Box1 t w g v) : Box1 t w.drew g v := h
theorem alloc (h : Box1 t w g v) (o : Obj) : Box1 t (w.alloc o) g v := h.now ((Below.refl _ _).alloc (Nat.le_refl _) _)
theorem new (t : TypeId) (w : World) (v : Value) : Box1 t (w.alloc (.cells #[v] t)) w.heap.size v := heap_alloc_new w _
end Box1
end Go.Proofs.Ytlcfimddcedbcab

namespace Go.Proofs.Ytlcfimddcedbcab
open Go.RowKit Vo
attribute [local go_sem] Oper.semAt_some

set_option maxHeartbeats 1000000 in
theorem sliceValues_any (A : Option Addr) (len cap : Nat) (w : World) :
    Calls Try.prog 154 #[.slice A len cap] w fun e w' => e = .returned (.func (.func 172) #[] #[.pointer (some ⟨w.heap.size, 0, none⟩)]) ∧ w' = w.alloc (.cells #[.slice A len cap] 77) := by
  go_enter Try.func154, Try.ntmps154
  go_wp2
  go_ret
  exact ⟨rfl, rfl⟩

theorem sliceValues_stops (F : Fence) (n : Nat) (hf : F.fn 172) (hro : F.round = none) (hn : 1 ≤ n) (Bs n₀ : Nat) (A : Option Addr) (len cap : Nat) (D : List Set9) (hlen : len = D.length) (hsz : len ≤ 512) (w : World) (hBs : Bs < w.heap.size) (hn₀ : n₀ ≤ w.heap.size)
    (hc : w.cell? ⟨Bs, 0, none⟩ = some (.slice A len cap)) (hD : ∀ j (h : j < D.length), ∃ b, A = some ⟨b, 0, none⟩ ∧ b < n₀ ∧ w.cell? ⟨b, j, none⟩ = some (.int .u64 (D[j].1 : Int))) :
    SeqStopsK F n Try.prog 172 #[.pointer (some ⟨Bs, 0, none⟩)] (fun x : Set9 => #[Value.int .u64 (x.1 : Int)]) (Below n₀) (fun ys => ys = D) (fun _ => True) len w := fun l J Jx W hW _ _ hY h0 =>
  (sliceValues1_in F n hf hro hn l Bs n₀ A len cap D hlen J Jx hY W ((hW.cell (p := ⟨Bs, 0, none⟩) hBs).trans hc) (fun j h => by
    obtain ⟨b, hA, hb, hcell⟩ := hD j h
    exact ⟨b, hA, hb, (hW.cell (p := ⟨b, j, none⟩) (Nat.lt_of_lt_of_le hb hn₀)).trans hcell⟩) hsz h0).mono fun e W' ⟨he, h⟩ => ⟨he, h.imp id fun ⟨pre, _, h2⟩ => ⟨pre, trivial, h2⟩⟩

theorem collect_any (g : Nat) (lb : Array Value) (eg : ∀ args w, (callFunc g args).run Try.prog w = .ok (.enter g args) w)
    (Kp : World → World → Prop) (S Sp : List Set9 → Prop) (N : Nat) (hN : N ≤ 1048576) (w : World) (hKt : ∀ {A B C : World}, Kp A B → Kp B C → Kp A C)
    (hKb : ∀ (W : World) (l : Nat) (o o' : Obj), w.heap.size + 1 ≤ l → W.heap[l]? = some o → o.isCells = false → o.isWalk = false → Kp W (W.putObj l o')) (hKp : ∀ W W', KeepsOthers W W' → Below w.heap.size W W' → Kp W W')
    (hseq : SeqStopsK Fence.wide 8 Try.prog g lb (fun x : Set9 => #[Value.int .u64 (x.1 : Int)]) Kp S Sp N w) :
    Calls Try.prog 138 #[.func (.func g) #[] lb] w fun e w' => Collects S w w' e :=
  callsIn_wide.1 (collect_in Fence.wide 10 trivial trivial rfl (by omega) g lb trivial eg Kp S Sp N hN w hKt hKb hKp hseq)

/-- Sets put in order, in a slice of the call's own. -/
def Ordered (S : List Set9 → Prop) (w w' : World) (e : Ending) : Prop :=
  ∃ (A : Option Addr) (cap : Nat) (ss : List Set9) (S' : List Nat), e = .returned (.slice A S'.length cap) ∧ S ss ∧ S'.Perm (ss.map (·.1)) ∧ ((ss.map (·.1)).Nodup → Sorted (S'.map fun t => mem t 9)) ∧ w'.ownsRow w.heap.size 107 1 (.slice A S'.length cap) S'.length (setsV S') ∧ Below w.heap.size w w'

theorem enc_map (ss : List Set9) : ss.map (fun x => Value.int .u64 (x.1 : Int)) = setsV (ss.map (·.1)) := by
  unfold setsV; rw [List.map_map]; rfl
set_option maxRecDepth 20000 in
set_option maxHeartbeats 1000000 in
theorem sortedFunc_any (g : Nat) (lb : Array Value) (eg : ∀ args w, (callFunc g args).run Try.prog w = .ok (.enter g args) w)
    (Kp : World → World → Prop) (S Sp : List Set9 → Prop) (N : Nat) (hN : N ≤ 512) (w : World) (hS : ∀ ss, S ss → ss.length ≤ 512) (hKt : ∀ {A B C : World}, Kp A B → Kp B C → Kp A C)
    (hKb : ∀ (W : World) (l : Nat) (o o' : Obj), w.heap.size + 1 ≤ l → W.heap[l]? = some o → o.isCells = false → o.isWalk = false → Kp W (W.putObj l o')) (hKp : ∀ W W', KeepsOthers W W' → Below w.heap.size W W' → Kp W W')
    (hseq : SeqStopsK Fence.wide 8 Try.prog g lb (fun x : Set9 => #[Value.int .u64 (x.1 : Int)]) Kp S Sp N w) :
    Calls Try.prog 153 #[.func (.func g) #[] lb, .func (.func 155) #[] #[]] w fun e w' => Ordered S w w' e := by
  have HC := Lib.hid (collect_any g lb eg Kp S Sp N (by omega) w hKt hKb hKp hseq)
  have HSS := Lib.hid hS
  clear hseq hKt hKb hKp hS
  go_enter Try.func153, Try.ntmps153
  go_wp2_with fail
  refine HC.out.mono ?_
  rintro e w1 ⟨v, ss, rfl, hss, hown, _, hb⟩
  rw [enc_map] at hown
  obtain ⟨k, hk⟩ : ∃ k, k = ss.length := ⟨_, rfl⟩
  rw [← hk] at hown
  obtain ⟨A, cap, rfl⟩ : ∃ A cap, v = .slice A k cap := by
    rcases hown.2 with ⟨rfl, h0⟩ | ⟨g', cap, _, rfl, _⟩
    · exact ⟨none, 0, by rw [h0]⟩
    · exact ⟨_, cap, rfl⟩
  have hk5 : k ≤ 512 := by have := HSS.out ss hss; omega
  have HO := Lib.hid hown
  have HK := Lib.hid (show k = (ss.map (·.1)).length from by simpa using hk)
  have HS2 := Lib.hid hss
  clear hown hk hss
  go_wp2_with fail
  refine (sortFunc_any (ss.map (·.1)) w.heap.size k cap A _ HK.out hk5 (fun s hs => by obtain ⟨x, _, rfl⟩ := List.mem_map.1 hs; exact x.2) HO.out).mono ?_
  rintro e w2 ⟨rfl, S', hp, hs, hown2, hg⟩
  have HP := Lib.hid hp
  have HSO := Lib.hid hs
  have HO2 := Lib.hid hown2
  have HG := Lib.hid hg
  clear hp hs hown2 hg
  have hl : S'.length = k := by rw [HP.out.length_eq, ← HK.out]
  have HLL := Lib.hid hl
  clear hl
  go_wp2
  go_ret
  exact ⟨A, cap, ss, S', by rw [HLL.out]; rfl, HS2.out, HP.out, HSO.out, by rw [HLL.out]; exact HO2.out, hb.grown HG.out hb.size (fun j hj => by
    have : (Value.slice A k cap).ownBlock = some j := by cases A with
      | none => cases hj
      | some a => simpa [Value.ownBlock] using hj
    exact owns_le HO.out this)⟩

set_option maxRecDepth 20000 in
set_option maxHeartbeats 1000000 in
theorem inOrder_any (S : List Nat) (base k cap : Nat) (A : Option Addr) (w : World) (hk : k = S.length) (hk5 : k ≤ 512) (hin : ∀ s ∈ S, s < 512) (hown : w.ownsRow base 107 1 (.slice A k cap) k (setsV S)) :
    Calls Try.prog 137 #[.slice A k cap] w fun e w' => Ordered (fun ss => ss.map (·.1) = S) w w' e := by
  obtain ⟨D, hD⟩ : ∃ D, D = subL S hin := ⟨_, rfl⟩
  have hDl : k = D.length := by rw [hD, subL_len, hk]
  have hDv : D.map (·.1) = S := by rw [hD]; exact subL_val S hin
  have hDD : ∀ W, Below w.heap.size w W → ∀ j (h : j < D.length), ∃ b, A = some ⟨b, 0, none⟩ ∧ b < w.heap.size ∧ W.cell? ⟨b, j, none⟩ = some (.int .u64 (D[j].1 : Int)) := fun W hW j h => by
    obtain ⟨g, cap', hv, hg, _, _⟩ := owns_head hown (by omega)
    obtain ⟨rfl, rfl⟩ : A = some ⟨g, 0, none⟩ ∧ cap = cap' := by simpa using hv
    have hlt : g < w.heap.size := owns_lt hown rfl
    have ho : Own w g 107 k (fun i => .int .u64 (S.getD i 0 : Nat)) := Own.of_own hown (fun i hi => by
      have : i < S.length := by omega
      simp [setsV, List.getD_eq_getElem?_getD, this])
    refine ⟨g, rfl, hlt, ?_⟩
    rw [(Own.below ho hW hlt).cell (i := j) (by omega)]
    have : S.getD j 0 = D[j].1 := by
      rw [← hDv, List.getD_eq_getElem?_getD, List.getElem?_map, List.getElem?_eq_getElem h]; rfl
    rw [this]
  have HDD := Lib.hid hDD
  have HDL := Lib.hid hDl
  have HDV := Lib.hid hDv
  clear hDD hDl hDv hD hown hk
  go_enter Try.func137, Try.ntmps137
  go_wp2_with (go_at_call 154; refine (sliceValues_any A k cap _).mono ?_; rintro e w1 ⟨rfl, rfl⟩)
  have hB := below1 w (.cells #[.slice A k cap] 77)
  have hbx := Box1.new 77 w (.slice A k cap)
  have hst := sliceValues_stops Fence.wide 8 trivial rfl (by omega) w.heap.size w.heap.size A k cap D HDL.out hk5 (w.alloc (.cells #[.slice A k cap] 77)) (by simp) (by simp) hbx.cell (HDD.out _ hB)
  have HF := Lib.hid (sortedFunc_any 172 #[.pointer (some ⟨w.heap.size, 0, none⟩)] (enters_of Try.func172 (by kernel_rfl) rfl) (Below w.heap.size) (fun ys => ys = D) (fun _ => True) k hk5 _ (fun ss h => by rw [h, ← HDL.out]; exact hk5) belowK_t (fun W l o o' h1 h2 h3 h4 => belowK_b (w := w) (Nat.le_refl _) W l o o' (by simp at h1; omega) h2 h3 h4) (fun _ _ _ h => h.mono (by simp)) hst)
  clear hst hbx
  go_wp2_with fail
  refine HF.out.mono ?_
  rintro e w2 ⟨A2, cap2, ss, S', rfl, rfl, hp, hs, hown2, hb2⟩
  have HP := Lib.hid hp
  have HSO := Lib.hid hs
  have HO2 := Lib.hid hown2
  clear hp hs hown2
  go_wp2
  go_ret
  exact ⟨A2, cap2, ss, S', rfl, HDV.out, HP.out, HSO.out, owns_less HO2.out (by simp), bfrom hB hb2⟩
end Go.Proofs.Ytlcfimddcedbcab
