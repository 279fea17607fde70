/- Texts of E2, E4. -/
import Derived.Test.YtlcfimddcedbcabPkQ04
import Derived.Maps.AppendAt
import Derived.Deep.Draws
import Derived.Sort.Grow
import Derived.BigQuiet
import Derived.Test.YtlcfimddcedbcabPkQ13
namespace Go.Proofs.Ytlcfimddcedbcab
open Go.RowKit Vo

theorem append_drawn {P : Program} {w w' : World} {v v' : Value} {base : Nat} {t ty e : TypeId} {i : TypeInfo} {z : Value} (ht : P.underlying t = some (.slice e)) (hi : P.info? e = some i) (hz : i.zero = some z)
    {n : Nat} {xs : List Value} (hown : w.ownsRow base e i.size v n xs) {a : Addr} {m c : Nat} {news : List Value} (hl : news.length = m * i.size) (hnews : ∀ j u, news[j]? = some u → w.cell? (a.add j) = some u) (h1 : ∀ u ∈ news, u.oneCell' = true)
    (hm : 0 < m) (h63 : n + m ≤ maxLen) (hbytes : (n + m) * i.bytes ≤ 140737488355328) (hr : (Builtin.append_ #[t, t] ty #[v, .slice (some a) m c]).run P w = .ok v' w') : w.drawn ≤ w'.drawn := by
  have hsmall : n + m ≤ 9223372036854775807 := by simp only [maxLen] at h63; omega
  rcases hown.2 with ⟨rfl, rfl⟩ | ⟨g, cap, cur, rfl, hbg, hg, hnc, hcm, hcs, htake⟩
  · have h2 := run_append_nil (P := P) w t ty e i z ht hi hz a m c news hl hnews (by omega) (by omega) (by have hb := hbytes; simp only [Nat.zero_add] at hb; omega)
    rw [hr] at h2
    injection h2 with _ h3
    subst h3
    exact Nat.le_succ _
  · by_cases hroom : n + m ≤ cap
    · have hfit : n * i.size + news.length ≤ cur.size := by rw [hl, hcs, ← Nat.add_mul]; exact Nat.mul_le_mul_right _ hroom
      have h2 := run_append_room (P := P) w t ty e i ht hi g n cap cur hg a m c news hl hnews h1 hroom hfit
      rw [hr] at h2
      injection h2 with _ h3
      subst h3
      exact Nat.le_refl _
    · have holds : ∀ j u, xs[j]? = some u → w.cell? ((⟨g, 0, none⟩ : Addr).add j) = some u := hown.cells (g := g) rfl
      have h2 := run_append_grow (P := P) w t ty e i z ht hi hz ⟨g, 0, none⟩ n cap xs hown.1 holds a m c news hl hnews (by omega) (by omega) (growslice_fits (by omega) hbytes)
      rw [hr] at h2
      injection h2 with _ h3
      subst h3
      exact Nat.le_succ _

/-- append of one element or more onto a slice of the call's own, with what was drawn. -/
theorem wpList_append_d {P : Program} (w : World) {ops : Array Oper} {rest : List Oper} {o : Oper} {a : Act} {Q : Exit → Act → World → Prop} (hgd : o.guard = none) (s x : Operand) (t : TypeId)
    (ho : o.op = .call { callee := .builtin .append, args := #[s, x], argTypes := #[t, t] })
    (base : Nat) (e : TypeId) (i : TypeInfo) (z : Value) (size bytes : Nat) (ht : P.underlying t = some (.slice e)) (hi : P.info? e = some i) (hz : i.zero = some z)
    (hsize : i.size = size) (hby : i.bytes = bytes) (hzs : z.cells.size = size) (hsz : 0 < size)
    (v : Value) (n : Nat) (xs : List Value) (hs : a.eval s = v) (hown : w.ownsRow base e size v n xs)
    (ad : Addr) (m c : Nat) (news : List Value) (hx : a.eval x = .slice (some ad) m c) (hl : news.length = m * size) (hnews : ∀ j u, news[j]? = some u → w.cell? (ad.add j) = some u) (h1 : ∀ u ∈ news, u.oneCell' = true)
    (hm : 0 < m) (h63 : n + m ≤ maxLen) (hbytes : (n + m) * bytes ≤ 140737488355328) (hbase : base ≤ w.heap.size)
    (h : ∀ gg cap w', w'.ownsRow base e size (.slice (some ⟨gg, 0, none⟩) (n + m) cap) (n + m) (xs ++ news) → w.grownBy w' v.ownBlock → (v.ownBlock = some gg ∨ gg = w.heap.size) → w.drawn ≤ w'.drawn → wpList P ops Q rest (a.put o.dst (.slice (some ⟨gg, 0, none⟩) (n + m) cap)) w') :
    wpList P ops Q (o :: rest) a w := by
  refine wpList_plain hgd fun K hK => ?_
  obtain ⟨v', w', hr, h2, h3, h4, h5⟩ := run_append_own_at (P := P) w base t o.type e i z size bytes ht hi hz hsize hby hzs hsz v n xs hown ad m c news hl hnews h1 h63 hbytes hbase
  have hd : w.drawn ≤ w'.drawn := by subst hsize; subst hby; exact append_drawn ht hi hz hown hl hnews h1 hm h63 hbytes hr
  obtain ⟨gg, cap, rfl⟩ : ∃ gg cap, v' = .slice (some ⟨gg, 0, none⟩) (n + m) cap := by
    rcases h2.2 with ⟨_, h0⟩ | ⟨g, cap, _, rfl, _⟩
    · omega
    · exact ⟨g, cap, rfl⟩
  unfold Oper.wp execOp
  simp only [ho, resolve, invoke, builtin, Sem.run_bind, Sem.run_pure, Result.andThen_ok, List.map_toArray, List.map_cons, List.map_nil, hs, hx, hr]
  refine hK _ _ (h gg cap w' h2 h3 ?_ hd)
  rcases h5 with h5 | h5
  · exact Or.inl (by rw [← h5]; rfl)
  · have : gg = w.heap.size := by simpa [Value.ownBlock] using h5
    exact Or.inr this

/-- make([]T, 0, n), with what was drawn. -/
theorem wpList_make_d {P : Program} (w : World) {ops : Array Oper} {rest : List Oper} {o : Oper} {a : Act} {Q : Exit → Act → World → Prop}
    (hg : o.guard = none) (l c : Operand) (t : TypeId) (hop : o.op = Op.makeSlice t l c)
    (base : Nat) (e : TypeId) (i : TypeInfo) (z : Value) (size : Nat) (h1 : P.underlying t = some (.slice e)) (h2 : P.info? e = some i) (h3 : i.zero = some z) (h4 : i.size = size)
    (kl kc : IntKind) (C : Int) (n : Nat) (hl : a.eval l = .int kl 0) (hc : a.eval c = .int kc C) (hC : C = (n : Int)) (b2 : i.bytes * n ≤ 281474976710656) (b3 : n ≤ maxLen) (b4 : base ≤ w.heap.size)
    (hK : ∀ w', w'.ownsRow base e size (.slice (some ⟨w.heap.size, 0, none⟩) 0 n) 0 [] → w.grownBy w' none → w.drawn ≤ w'.drawn → wpList P ops Q rest (a.put o.dst (.slice (some ⟨w.heap.size, 0, none⟩) 0 n)) w') :
    wpList P ops Q (o :: rest) a w := by
  refine wpList_plain hg fun K hK' => ?_
  obtain ⟨w', hrun, r1, r2⟩ := run_make_own (P := P) w base t e i z size h1 h2 h3 h4 kl kc n b2 b3 b4
  have hd : w.drawn ≤ w'.drawn := by
    have h63 : (n : Int) ≤ 9223372036854775807 := by simp only [maxLen] at b3; omega
    have hb' : (i.bytes : Int) * (n : Int) ≤ 281474976710656 := by
      have h : ((i.bytes * n : Nat) : Int) ≤ 281474976710656 := by omega
      rwa [Int.natCast_mul] at h
    have hr := run_make (P := P) w t e i z h1 h2 h3 kl kc 0 n (Int.le_refl _) (by omega) hb' h63
    rw [hrun] at hr
    injection hr with _ h3
    subst h3
    exact Nat.le_refl _
  subst hC
  unfold Oper.wp
  simp [execOp, hop, hl, hc, hrun, Result.andThen]
  exact hK' _ _ (hK w' r1 r2 hd)

/-- What only lays new blocks and draws is a world that has grown. -/
theorem grown_of {w w' : World} (hb : Below w.heap.size w w') (hd : w.drawn ≤ w'.drawn) : ∃ q os, w' = Sort.grow (w.drewN q) os := by
  refine ⟨w'.drawn - w.drawn, w'.heap.extract w.heap.size w'.heap.size, ?_⟩
  obtain ⟨h1, h2, h3, h4, h5⟩ := hb
  cases w with | mk h t d o p =>
  cases w' with | mk h' t' d' o' p' =>
  simp only at h1 h2 h3 h4 h5 hd
  subst h1 h2 h3
  simp only [Sort.grow, World.drewN]
  congr 1
  · apply Array.ext_getElem?
    intro k
    rw [Array.getElem?_append]
    by_cases hk : k < h.size
    · rw [if_pos hk]; exact h5 k hk
    · rw [if_neg hk]
      rw [Array.getElem?_extract]
      simp only [Nat.min_self]
      by_cases hk2 : k < h'.size
      · rw [if_pos (by omega)]
        congr 1; omega
      · rw [if_neg (by omega)]
        exact Array.getElem?_eq_none (by omega)
  · omega

/-- A list of the call's own, with what was drawn. -/
def IntsD (L : List Int) (w w' : World) (e : Ending) : Prop := IntsAt L w w' e ∧ w.drawn ≤ w'.drawn

set_option maxRecDepth 20000 in
set_option maxHeartbeats 2000000 in
theorem list_d (s : Nat) (w : World) (hs : s < 512) :
    Calls Try.prog 125 #[.int .u64 s] w fun e w' => IntsD (mem s 9) w w' e := by
  obtain ⟨i0, hi0, hz0, hz1, hz2⟩ := infoIntParts
  have h9 := mem_len s 9
  obtain ⟨L, hL⟩ : ∃ L, L = (mem s 9).length := ⟨_, rfl⟩
  rw [← hL] at h9
  have HL := Lib.hid hL
  clear hL
  go_enter Try.func125, Try.ntmps125
  go_wp2_with fail
  refine (size_any s _ hs).mono ?_
  rintro e w1 ⟨rfl, rfl⟩
  rw [← HL.out]
  go_wp2_with (at_make; refine wpList_make_d _ rfl _ _ 49 rfl w.heap.size 3 i0 (.int .i64 0) 1 Try.underlying49 hi0 hz0 hz1 .i64 .i64 L L rfl rfl rfl (by rw [hz2]; omega) (by unfold maxLen; omega) (by simp) ?_; intro w1 hown hgrow hdr0)
  go_loopw [3, 4, 8] (fun v _ i wr => ∃ (k : Nat) (A : Option Addr) (cap : Nat), k ≤ 9 ∧ i = .int .i64 k ∧ v = .slice A (mem s k).length cap ∧ wr.ownsRow w.heap.size 3 1 (.slice A (mem s k).length cap) (mem s k).length ((mem s k).map (Value.int .i64)) ∧ Below w.heap.size w wr ∧ w.drawn ≤ wr.drawn) (fun _ _ i _ => 9 - (intOf i).toNat)
  case atStart => exact ⟨0, some ⟨w.heap.size, 0, none⟩, L, by omega, rfl, rfl, hown, (Below.refl _ _).grown hgrow (Nat.le_refl _) (fun j hj => by cases hj), hdr0⟩
  case round =>
    obtain ⟨k, A, cap, hk, rfl, rfl, hown2, hb, hdw⟩ := hrel
    have HO := Lib.hid hown2
    have HDW := Lib.hid hdw
    clear hown2 hdw
    have hlen := mem_len s k
    have hsz := hb.size
    by_cases hk9 : k < 9
    · cases hbit : s.testBit k
      · have HB := Lib.hid hbit
        have HS := Lib.hid (mem_step0 hbit)
        clear hbit
        go_wp2_with (go_at_call 149; refine (has_any s k _ (by omega) hs).mono ?_; rintro e w' ⟨rfl, rfl⟩; rw [HB.out])
        go_roundw
        case rel => exact ⟨k + 1, A, cap, by omega, by go_num, by rw [HS.out], by rw [HS.out]; exact HO.out, hb, HDW.out⟩
        case measure => simp [intOf]; omega
      · have HB := Lib.hid hbit
        have HS := Lib.hid (mem_step1 hbit)
        clear hbit
        obtain ⟨m, hm⟩ : ∃ m, m = (mem s k).length := ⟨_, rfl⟩
        have HM := Lib.hid hm
        rw [← hm] at hlen HO ⊢
        clear hm
        go_wp2_with (first | (go_at_call 149; refine (has_any s k _ (by omega) hs).mono ?_; rintro e w' ⟨rfl, rfl⟩; rw [HB.out]) | (at_builtin; refine wpList_append_d _ rfl _ _ _ rfl w.heap.size 3 i0 _ 1 8 Try.underlying49 hi0 hz0 hz1 hz2 rfl (by decide) (.slice A m cap) m ((mem s k).map (Value.int .i64)) rfl (HO.out.alloc _) ⟨wr.heap.size, 0, none⟩ 1 1 [.int .i64 k] rfl rfl (World.news_of_block (cs := #[.int .i64 k]) (t := 3) (fr := (0, 0)) (heap_alloc_new wr _)) (by simp [Value.oneCell']) (by omega) (by unfold maxLen; omega) (by omega) (by simp; omega) ?_; intro gg cap2 w4 hown4 hgrow hat hd4))
        have hb4 : Below w.heap.size w w4 := (hb.alloc hsz (.cells #[.int .i64 k] 3)).grown hgrow (by simp; omega) fun j hj => owns_le HO.out hj
        go_roundw
        case rel => exact ⟨k + 1, some ⟨gg, 0, none⟩, cap2, by omega, by go_num, by rw [HS.out, HM.out]; simp, by rw [HS.out]; simpa [HM.out] using hown4, hb4, Nat.le_trans HDW.out hd4⟩
        case measure => simp [intOf]; omega
    · obtain rfl : k = 9 := by omega
      go_wp2
      go_ret
      exact ⟨⟨A, cap, rfl, HO.out, hb⟩, HDW.out⟩
end Go.Proofs.Ytlcfimddcedbcab

namespace Go.Proofs.Ytlcfimddcedbcab
open Go.RowKit Vo

/-- The key of a set as a value. -/
def keyV (s : Nat) : Value := .agg #[.int .i64 (keyAt s 0), .int .i64 (keyAt s 1), .int .i64 (keyAt s 2), .int .i64 (keyAt s 3), .int .i64 (keyAt s 4), .int .i64 (keyAt s 5), .int .i64 (keyAt s 6), .int .i64 (keyAt s 7), .int .i64 (keyAt s 8)]
/-- It laid new blocks and drew, no more. -/
def Grew (w w' : World) : Prop := Below w.heap.size w w' ∧ w.drawn ≤ w'.drawn
theorem Grew.trans {w w1 w2 : World} (h : Grew w w1) (k : Grew w1 w2) : Grew w w2 := ⟨bfrom h.1 k.1, Nat.le_trans h.2 k.2⟩
theorem Grew.refl (w : World) : Grew w w := ⟨Below.refl _ _, Nat.le_refl _⟩
theorem Grew.alloc (w : World) (o : Obj) : Grew w (w.alloc o) := ⟨below1 w o, Nat.le_refl _⟩
theorem setCell_drawn (w : World) (p : Addr) (u : Value) : (w.setCell p u).drawn = w.drawn := rfl
theorem Grew.setCell {w w' : World} (h : Grew w w') {p : Addr} (hp : w.heap.size ≤ p.block) (u : Value) : Grew w (w'.setCell p u) := ⟨h.1.setCell hp u, by rw [setCell_drawn]; exact h.2⟩
theorem Grew.drewN (w : World) (k : Nat) : Grew w (w.drewN k) := ⟨below_drewN (Below.refl _ _) _, Nat.le_add_right _ _⟩

theorem Own.nine {w : World} {g : Nat} {t : TypeId} {f : Nat → Value} (h : Own w g t 9 f) (v0 v1 v2 v3 v4 v5 v6 v7 v8 : Value) :
    Own (((((((((w.setCell ⟨g, 0, none⟩ v0).setCell ⟨g, 1, none⟩ v1).setCell ⟨g, 2, none⟩ v2).setCell ⟨g, 3, none⟩ v3).setCell ⟨g, 4, none⟩ v4).setCell ⟨g, 5, none⟩ v5).setCell ⟨g, 6, none⟩ v6).setCell ⟨g, 7, none⟩ v7).setCell ⟨g, 8, none⟩ v8) g t 9
      (fun i => match i with | 0 => v0 | 1 => v1 | 2 => v2 | 3 => v3 | 4 => v4 | 5 => v5 | 6 => v6 | 7 => v7 | _ => v8) :=
  (((((((((h.set 0 v0).set 1 v1).set 2 v2).set 3 v3).set 4 v4).set 5 v5).set 6 v6).set 7 v7).set 8 v8).congr fun i hi => by
    rcases i with _ | _ | _ | _ | _ | _ | _ | _ | _ | i
    all_goals first | rfl | omega

set_option maxRecDepth 20000 in
set_option maxHeartbeats 2000000 in
theorem key_any (s : Nat) (w : World) (hs : s < 512) :
    Calls Try.prog 136 #[.int .u64 s] w fun e w' => e = .returned (keyV s) ∧ Grew w w' := by
  obtain ⟨z9, hz9⟩ : ∃ z, z = Obj.cells #[.int .i64 0, .int .i64 0, .int .i64 0, .int .i64 0, .int .i64 0, .int .i64 0, .int .i64 0, .int .i64 0, .int .i64 0] 151 := ⟨_, rfl⟩
  have hzown : ∀ W : World, Own (W.alloc z9) W.heap.size 151 9 (fun _ => .int .i64 0) := fun W => ⟨_, by rw [hz9]; exact heap_alloc_new W _, by simp, fun i hi => by
    rcases i with _ | _ | _ | _ | _ | _ | _ | _ | _ | i
    all_goals first | rfl | omega⟩
  have HR0 := Lib.hid ((hzown w).alloc z9)
  have HX0 := Lib.hid (hzown (w.alloc z9))
  have h0 : Grew w ((w.alloc z9).alloc z9) := (Grew.alloc w z9).trans (Grew.alloc _ _)
  rw [hz9] at HR0 HX0 h0
  simp only [World.size_alloc] at HX0
  have hm9 := mem_len s 9
  obtain ⟨m, hm⟩ : ∃ m, m = (mem s 9).length := ⟨_, rfl⟩
  rw [← hm] at hm9
  have HM := Lib.hid hm
  have HKA := Lib.hid (show ∀ j, j < m → keyAt s j = (mem s 9).getD j 0 + 1 from fun j hj => by unfold keyAt pad; rw [if_pos (by rw [← hm]; exact hj)])
  have HKZ := Lib.hid (show ∀ j, m ≤ j → keyAt s j = 0 from fun j hj => by unfold keyAt pad; rw [if_neg (by rw [← hm]; omega)])
  have HBD := Lib.hid (fun j => keyAt_bd s j)
  clear hzown hz9 hm
  go_enter Try.func136, Try.ntmps136
  go_wp2_with fail
  refine (list_d s _ hs).mono ?_
  rintro e w1 ⟨⟨A, cap, rfl, hown, hb1⟩, hd1⟩
  rw [← HM.out] at hown ⊢
  have h1 : Grew w w1 := h0.trans ⟨hb1, hd1⟩
  have HR1 := Lib.hid (Own.below HR0.out hb1 HR0.out.lt)
  have HX1 := Lib.hid (Own.below HX0.out hb1 HX0.out.lt)
  have hz1 := hb1.size
  simp only [World.size_alloc] at hz1 hown
  have HO1 := Lib.hid hown
  have H1 := Lib.hid h1
  clear hown h1 hb1 hd1 h0
  go_wp2_with fail
  go_loopw [4, 5, 9] (fun _ _ i wr => ∃ k : Nat, k ≤ m ∧ i = .int .i64 k ∧ Own wr (w.heap.size + 1) 151 9 (fun j => .int .i64 (if j < k then keyAt s j else 0)) ∧ (∀ b, b < w1.heap.size → b ≠ w.heap.size + 1 → wr.heap[b]? = w1.heap[b]?) ∧ Grew w wr) (fun _ _ i _ => m - (intOf i).toNat)
  case atStart => exact ⟨0, Nat.zero_le _, rfl, HX1.out.congr fun i _ => by simp, fun _ _ _ => rfl, H1.out⟩
  case round =>
    obtain ⟨k, hk, rfl, hown, hsame, hg⟩ := hrel
    have HO := Lib.hid hown
    have HS := Lib.hid hsame
    have HG := Lib.hid hg
    clear hown hsame hg
    by_cases hlt : k < m
    · obtain ⟨g, cap', hv, hgb, _, _⟩ := owns_head HO1.out (by omega)
      obtain ⟨rfl, rfl⟩ : A = some ⟨g, 0, none⟩ ∧ cap = cap' := by simpa using hv
      have hOw : Own w1 g 3 m (fun i => .int .i64 ((mem s 9).getD i 0)) := Own.of_own HO1.out (fun i hi => by
        have : i < (mem s 9).length := by have := HM.out; omega
        simp [List.getD_eq_getElem?_getD, this])
      have hcell : wr.cell? ⟨g, k, none⟩ = some (.int .i64 (keyAt s k - 1)) := by
        have h2 : Own wr g 3 m (fun i => .int .i64 ((mem s 9).getD i 0)) := hOw.of_block (HS.out g hOw.lt (by omega))
        rw [h2.cell hlt, HKA.out k hlt]; congr 2; omega
      have hold := HO.out.cell (i := k) (by omega)
      have hfr := HO.out.frozen k
      have hbd := HBD.out k
      have hk9 : k < 9 := by omega
      have HST := Lib.hid (HO.out.set k (.int .i64 (keyAt s k)))
      have HE := Lib.hid (show ∃ y, y = keyAt s k from ⟨_, rfl⟩)
      obtain ⟨y, hy⟩ := HE.out
      rw [← hy] at hcell HST hbd
      have HY := Lib.hid hy
      clear hv hOw hy HE
      have hy1 : IntKind.i64.wrap (y - 1 + 1) = y := by rw [IntWalk.i64_in _ (by omega)]; omega
      go_wp2
      go_roundw
      case rel =>
        refine ⟨k + 1, by omega, by go_num, HST.out.congr fun i hi => ?_, fun b hb hne => (Below.heap_setCell _ _ _ b hne).trans (HS.out b hb hne), HG.out.setCell (by simp) _⟩
        by_cases e : i = k
        · subst e; rw [if_pos rfl, if_pos (by omega), HY.out]
        · rw [if_neg e]
          by_cases h : i < k
          · rw [if_pos h, if_pos (by omega)]
          · rw [if_neg h, if_neg (by omega)]
      case measure => simp [intOf]; omega
    · obtain rfl : k = m := by omega
      have hX : Own wr (w.heap.size + 1) 151 9 (fun j => .int .i64 (keyAt s j)) := HO.out.congr fun i hi => by
        by_cases h : i < k
        · rw [if_pos h]
        · rw [if_neg h, HKZ.out i (by omega)]
      have hR : Own wr w.heap.size 151 9 (fun _ => .int .i64 0) := HR1.out.of_block (HS.out _ HR1.out.lt (by omega))
      have x0 := hX.cell (i := 0) (by omega)
      have x1 := hX.cell (i := 1) (by omega)
      have x2 := hX.cell (i := 2) (by omega)
      have x3 := hX.cell (i := 3) (by omega)
      have x4 := hX.cell (i := 4) (by omega)
      have x5 := hX.cell (i := 5) (by omega)
      have x6 := hX.cell (i := 6) (by omega)
      have x7 := hX.cell (i := 7) (by omega)
      have x8 := hX.cell (i := 8) (by omega)
      have r0 := hR.cell (i := 0) (by omega)
      have r1 := hR.cell (i := 1) (by omega)
      have r2 := hR.cell (i := 2) (by omega)
      have r3 := hR.cell (i := 3) (by omega)
      have r4 := hR.cell (i := 4) (by omega)
      have r5 := hR.cell (i := 5) (by omega)
      have r6 := hR.cell (i := 6) (by omega)
      have r7 := hR.cell (i := 7) (by omega)
      have r8 := hR.cell (i := 8) (by omega)
      have f0 := hR.frozen 0
      have f1 := hR.frozen 1
      have f2 := hR.frozen 2
      have f3 := hR.frozen 3
      have f4 := hR.frozen 4
      have f5 := hR.frozen 5
      have f6 := hR.frozen 6
      have f7 := hR.frozen 7
      have f8 := hR.frozen 8
      have h9 := hR.nine (.int .i64 (keyAt s 0)) (.int .i64 (keyAt s 1)) (.int .i64 (keyAt s 2)) (.int .i64 (keyAt s 3)) (.int .i64 (keyAt s 4)) (.int .i64 (keyAt s 5)) (.int .i64 (keyAt s 6)) (.int .i64 (keyAt s 7)) (.int .i64 (keyAt s 8))
      have g9 : Grew w (((((((((wr.setCell ⟨w.heap.size, 0, none⟩ (.int .i64 (keyAt s 0))).setCell ⟨w.heap.size, 1, none⟩ (.int .i64 (keyAt s 1))).setCell ⟨w.heap.size, 2, none⟩ (.int .i64 (keyAt s 2))).setCell ⟨w.heap.size, 3, none⟩ (.int .i64 (keyAt s 3))).setCell ⟨w.heap.size, 4, none⟩ (.int .i64 (keyAt s 4))).setCell ⟨w.heap.size, 5, none⟩ (.int .i64 (keyAt s 5))).setCell ⟨w.heap.size, 6, none⟩ (.int .i64 (keyAt s 6))).setCell ⟨w.heap.size, 7, none⟩ (.int .i64 (keyAt s 7))).setCell ⟨w.heap.size, 8, none⟩ (.int .i64 (keyAt s 8))) := (((((((((HG.out.setCell (p := ⟨w.heap.size, 0, none⟩) (Nat.le_refl _) (.int .i64 (keyAt s 0))).setCell (p := ⟨w.heap.size, 1, none⟩) (Nat.le_refl _) (.int .i64 (keyAt s 1))).setCell (p := ⟨w.heap.size, 2, none⟩) (Nat.le_refl _) (.int .i64 (keyAt s 2))).setCell (p := ⟨w.heap.size, 3, none⟩) (Nat.le_refl _) (.int .i64 (keyAt s 3))).setCell (p := ⟨w.heap.size, 4, none⟩) (Nat.le_refl _) (.int .i64 (keyAt s 4))).setCell (p := ⟨w.heap.size, 5, none⟩) (Nat.le_refl _) (.int .i64 (keyAt s 5))).setCell (p := ⟨w.heap.size, 6, none⟩) (Nat.le_refl _) (.int .i64 (keyAt s 6))).setCell (p := ⟨w.heap.size, 7, none⟩) (Nat.le_refl _) (.int .i64 (keyAt s 7))).setCell (p := ⟨w.heap.size, 8, none⟩) (Nat.le_refl _) (.int .i64 (keyAt s 8)))
      have H9 := Lib.hid h9
      have G9 := Lib.hid g9
      clear hX hR h9 g9
      go_wp2
      generalize (((((((((wr.setCell ⟨w.heap.size, 0, none⟩ (.int .i64 (keyAt s 0))).setCell ⟨w.heap.size, 1, none⟩ (.int .i64 (keyAt s 1))).setCell ⟨w.heap.size, 2, none⟩ (.int .i64 (keyAt s 2))).setCell ⟨w.heap.size, 3, none⟩ (.int .i64 (keyAt s 3))).setCell ⟨w.heap.size, 4, none⟩ (.int .i64 (keyAt s 4))).setCell ⟨w.heap.size, 5, none⟩ (.int .i64 (keyAt s 5))).setCell ⟨w.heap.size, 6, none⟩ (.int .i64 (keyAt s 6))).setCell ⟨w.heap.size, 7, none⟩ (.int .i64 (keyAt s 7))).setCell ⟨w.heap.size, 8, none⟩ (.int .i64 (keyAt s 8))) = wf at H9 G9 ⊢
      have e0 := H9.out.cell (i := 0) (by omega)
      have e1 := H9.out.cell (i := 1) (by omega)
      have e2 := H9.out.cell (i := 2) (by omega)
      have e3 := H9.out.cell (i := 3) (by omega)
      have e4 := H9.out.cell (i := 4) (by omega)
      have e5 := H9.out.cell (i := 5) (by omega)
      have e6 := H9.out.cell (i := 6) (by omega)
      have e7 := H9.out.cell (i := 7) (by omega)
      have e8 := H9.out.cell (i := 8) (by omega)
      clear x0 x1 x2 x3 x4 x5 x6 x7 x8 r0 r1 r2 r3 r4 r5 r6 r7 r8 f0 f1 f2 f3 f4 f5 f6 f7 f8
      refine bodyPost_ret (v := keyV s) (by unfold keyV; simp [results, Try.results136, go_sem, e0, e1, e2, e3, e4, e5, e6, e7, e8]) rfl ⟨rfl, G9.out⟩
end Go.Proofs.Ytlcfimddcedbcab

namespace Go.Proofs.Ytlcfimddcedbcab
open Go.RowKit Vo

def cmpZ (x y : Int) : Int := if x < y then -1 else if y < x then 1 else 0
theorem cmpZ_lt {x y : Int} (h : x < y) : cmpZ x y = -1 := if_pos h
theorem cmpZ_gt {x y : Int} (h : y < x) : cmpZ x y = 1 := by unfold cmpZ; rw [if_neg (by omega), if_pos h]
theorem cmpZ_eq (x : Int) : cmpZ x x = 0 := by unfold cmpZ; rw [if_neg (by omega), if_neg (by omega)]

set_option maxHeartbeats 1000000 in
theorem isNaN_any (x : Int) (w : World) : Calls Try.prog 197 #[.int .i64 x] w fun e w' => e = .returned (.bool false) ∧ w = w' := by
  go_enter Try.func197, Try.ntmps197
  go_wp2
  go_ret
  exact ⟨by simp, rfl⟩
set_option maxHeartbeats 1000000 in
theorem cmpCompare_any (x y : Int) (w : World) : Calls Try.prog 183 #[.int .i64 x, .int .i64 y] w fun e w' => e = .returned (.int .i64 (cmpZ x y)) ∧ w = w' := by
  rcases Int.lt_trichotomy x y with h | h | h
  · have HC := Lib.hid (cmpZ_lt h)
    go_enter Try.func183, Try.ntmps183
    go_wp2_with (go_at_call 197; refine (isNaN_any _ _).mono ?_; rintro e w' ⟨rfl, rfl⟩)
    go_ret
    exact ⟨by rw [HC.out]; rfl, rfl⟩
  · subst h
    have HC := Lib.hid (cmpZ_eq x)
    go_enter Try.func183, Try.ntmps183
    go_wp2_with (go_at_call 197; refine (isNaN_any _ _).mono ?_; rintro e w' ⟨rfl, rfl⟩)
    go_ret
    exact ⟨by rw [HC.out]; rfl, rfl⟩
  · have HC := Lib.hid (cmpZ_gt h)
    have h2 : ¬ x < y := by omega
    go_enter Try.func183, Try.ntmps183
    go_wp2_with (go_at_call 197; refine (isNaN_any _ _).mono ?_; rintro e w' ⟨rfl, rfl⟩)
    go_ret
    exact ⟨by rw [HC.out]; rfl, rfl⟩

set_option maxRecDepth 20000 in
set_option maxHeartbeats 2000000 in
theorem slicesCompare_any (s t g g2 : Nat) (ty ty2 : TypeId) (w : World) (hs : Own w g ty 9 (fun j => .int .i64 (keyAt s j))) (ht : Own w g2 ty2 9 (fun j => .int .i64 (keyAt t j))) :
    Calls Try.prog 173 #[.slice (some ⟨g, 0, none⟩) 9 9, .slice (some ⟨g2, 0, none⟩) 9 9] w fun e w' => e = .returned (.int .i64 (ordC s t)) ∧ w = w' := by
  have HS := Lib.hid hs
  have HT := Lib.hid ht
  clear hs ht
  go_enter Try.func173, Try.ntmps173
  go_wp2_with fail
  go_loop [5, 6, 7, 8, 11] (fun _ _ _ _ i => ∃ k : Nat, k ≤ 9 ∧ i = .int .i64 k ∧ ∀ j, j < k → keyAt s j = keyAt t j) (fun _ _ _ _ i => 9 - (intOf i).toNat)
  case atStart => exact ⟨0, by omega, rfl, fun j hj => by omega⟩
  case round =>
    obtain ⟨k, hk, rfl, hp⟩ := hrel
    have HP := Lib.hid hp
    clear hp
    by_cases hlt : k < 9
    · have h1 := HS.out.cell hlt
      have h2 := HT.out.cell hlt
      have hlt' : (k : Int) < 9 := by omega
      have hnge : ¬ (9 : Int) ≤ k := by omega
      rcases Int.lt_trichotomy (keyAt s k) (keyAt t k) with h | h | h
      · have HC := Lib.hid (cmpZ_lt h)
        have HO := Lib.hid (ordC_lt HP.out h)
        clear h
        generalize keyAt s k = x at *
        generalize keyAt t k = y at *
        go_wp2_with (go_at_call 183; refine (cmpCompare_any _ _ _).mono ?_; rintro e w' ⟨rfl, rfl⟩; rw [HC.out])
        go_ret
        exact ⟨by rw [HO.out]; rfl, rfl⟩
      · have HP2 := Lib.hid (show ∀ j, j < k + 1 → keyAt s j = keyAt t j from fun j hj => by
          by_cases e : j = k
          · subst e; exact h
          · exact HP.out j (by omega))
        rw [h] at h1
        have HC := Lib.hid (cmpZ_eq (keyAt t k))
        clear h
        generalize keyAt t k = y at *
        go_wp2_with (go_at_call 183; refine (cmpCompare_any _ _ _).mono ?_; rintro e w' ⟨rfl, rfl⟩; rw [HC.out])
        go_round
        case rel => exact ⟨k + 1, by omega, by go_num, HP2.out⟩
        case measure => simp [intOf]; omega
      · have HC := Lib.hid (cmpZ_gt h)
        have HO := Lib.hid (ordC_gt HP.out h)
        clear h
        generalize keyAt s k = x at *
        generalize keyAt t k = y at *
        go_wp2_with (go_at_call 183; refine (cmpCompare_any _ _ _).mono ?_; rintro e w' ⟨rfl, rfl⟩; rw [HC.out])
        go_ret
        exact ⟨by rw [HO.out]; rfl, rfl⟩
    · obtain rfl : k = 9 := by omega
      have HO := Lib.hid (ordC_eq HP.out)
      go_wp2
      go_ret
      exact ⟨by rw [HO.out]; rfl, rfl⟩

theorem sliceAll (g : Nat) (W : World) : (Instr.sliceAt 151 (.pointer (some ⟨g, 0, none⟩)) none none none).run Try.prog W = .ok (.slice (some ⟨g, 0, none⟩) 9 9) W := by
  kernel_rfl

set_option maxRecDepth 20000 in
set_option maxHeartbeats 2000000 in
theorem compareSets_any (s t : Nat) (w : World) (hs : s < 512) (ht : t < 512) :
    Calls Try.prog 155 #[.int .u64 s, .int .u64 t] w fun e w' => e = .returned (.int .i64 (ordC s t)) ∧ Grew w w' := by
  go_enter Try.func155, Try.ntmps155
  go_wp2_with fail
  refine (key_any s _ hs).mono ?_
  rintro e w1 ⟨rfl, h1⟩
  have H1 := Lib.hid h1
  clear h1
  go_wp2_with fail
  refine (key_any t _ ht).mono ?_
  rintro e w2 ⟨rfl, h2⟩
  have H2 := Lib.hid (H1.out.trans h2)
  clear h2
  unfold keyV
  go_wp2_with fail
  have hS : Own ((w2.alloc (Obj.cells #[.int .i64 (keyAt s 0), .int .i64 (keyAt s 1), .int .i64 (keyAt s 2), .int .i64 (keyAt s 3), .int .i64 (keyAt s 4), .int .i64 (keyAt s 5), .int .i64 (keyAt s 6), .int .i64 (keyAt s 7), .int .i64 (keyAt s 8)] 151)).alloc (Obj.cells #[.int .i64 (keyAt t 0), .int .i64 (keyAt t 1), .int .i64 (keyAt t 2), .int .i64 (keyAt t 3), .int .i64 (keyAt t 4), .int .i64 (keyAt t 5), .int .i64 (keyAt t 6), .int .i64 (keyAt t 7), .int .i64 (keyAt t 8)] 151)) w2.heap.size 151 9 (fun j => .int .i64 (keyAt s j)) := Own.alloc ⟨_, heap_alloc_new w2 _, by simp, fun i hi => by
    rcases i with _ | _ | _ | _ | _ | _ | _ | _ | _ | i
    all_goals first | rfl | omega⟩ _
  have hT : Own ((w2.alloc (Obj.cells #[.int .i64 (keyAt s 0), .int .i64 (keyAt s 1), .int .i64 (keyAt s 2), .int .i64 (keyAt s 3), .int .i64 (keyAt s 4), .int .i64 (keyAt s 5), .int .i64 (keyAt s 6), .int .i64 (keyAt s 7), .int .i64 (keyAt s 8)] 151)).alloc (Obj.cells #[.int .i64 (keyAt t 0), .int .i64 (keyAt t 1), .int .i64 (keyAt t 2), .int .i64 (keyAt t 3), .int .i64 (keyAt t 4), .int .i64 (keyAt t 5), .int .i64 (keyAt t 6), .int .i64 (keyAt t 7), .int .i64 (keyAt t 8)] 151)) (w2.heap.size + 1) 151 9 (fun j => .int .i64 (keyAt t j)) := by
    have h := heap_alloc_new (w2.alloc (Obj.cells #[.int .i64 (keyAt s 0), .int .i64 (keyAt s 1), .int .i64 (keyAt s 2), .int .i64 (keyAt s 3), .int .i64 (keyAt s 4), .int .i64 (keyAt s 5), .int .i64 (keyAt s 6), .int .i64 (keyAt s 7), .int .i64 (keyAt s 8)] 151)) (Obj.cells #[.int .i64 (keyAt t 0), .int .i64 (keyAt t 1), .int .i64 (keyAt t 2), .int .i64 (keyAt t 3), .int .i64 (keyAt t 4), .int .i64 (keyAt t 5), .int .i64 (keyAt t 6), .int .i64 (keyAt t 7), .int .i64 (keyAt t 8)] 151)
    simp only [World.size_alloc] at h
    exact ⟨_, h, by simp, fun i hi => by
      rcases i with _ | _ | _ | _ | _ | _ | _ | _ | _ | i
      all_goals first | rfl | omega⟩
  have hG : Grew w ((w2.alloc (Obj.cells #[.int .i64 (keyAt s 0), .int .i64 (keyAt s 1), .int .i64 (keyAt s 2), .int .i64 (keyAt s 3), .int .i64 (keyAt s 4), .int .i64 (keyAt s 5), .int .i64 (keyAt s 6), .int .i64 (keyAt s 7), .int .i64 (keyAt s 8)] 151)).alloc (Obj.cells #[.int .i64 (keyAt t 0), .int .i64 (keyAt t 1), .int .i64 (keyAt t 2), .int .i64 (keyAt t 3), .int .i64 (keyAt t 4), .int .i64 (keyAt t 5), .int .i64 (keyAt t 6), .int .i64 (keyAt t 7), .int .i64 (keyAt t 8)] 151)) := H2.out.trans ((Grew.alloc _ _).trans (Grew.alloc _ _))
  have HS := Lib.hid hS
  have HT := Lib.hid hT
  have HG := Lib.hid hG
  clear hS hT hG
  generalize ((w2.alloc (Obj.cells #[.int .i64 (keyAt s 0), .int .i64 (keyAt s 1), .int .i64 (keyAt s 2), .int .i64 (keyAt s 3), .int .i64 (keyAt s 4), .int .i64 (keyAt s 5), .int .i64 (keyAt s 6), .int .i64 (keyAt s 7), .int .i64 (keyAt s 8)] 151)).alloc (Obj.cells #[.int .i64 (keyAt t 0), .int .i64 (keyAt t 1), .int .i64 (keyAt t 2), .int .i64 (keyAt t 3), .int .i64 (keyAt t 4), .int .i64 (keyAt t 5), .int .i64 (keyAt t 6), .int .i64 (keyAt t 7), .int .i64 (keyAt t 8)] 151)) = w3 at HS HT HG ⊢
  obtain ⟨g, hg⟩ : ∃ g, g = w2.heap.size := ⟨_, rfl⟩
  rw [← hg] at HS HT ⊢
  have h0 := HS.out.cell (i := 0) (by omega)
  have h1 := HT.out.cell (i := 0) (by omega)
  clear hg
  have hsl := sliceAll g
  have HSn := Lib.hid (show ∀ n, Own (w3.drewN n) g 151 9 (fun j => .int .i64 (keyAt s j)) from fun n => HS.out)
  have HTn := Lib.hid (show ∀ n, Own (w3.drewN n) (g + 1) 151 9 (fun j => .int .i64 (keyAt t j)) from fun n => HT.out)
  have hsl2 := sliceAll (g + 1)
  go_quiet ((go_at_call 173; exact Calls.quiet_of_same ((slicesCompare_any s t g (g + 1) _ _ _ (HSn.out _) (HTn.out _)).mono fun _ _ h => ⟨h.1, h.2.symm⟩)))
  go_wp2
  go_ret
  exact ⟨rfl, HG.out.trans (Grew.drewN _ _)⟩
end Go.Proofs.Ytlcfimddcedbcab
