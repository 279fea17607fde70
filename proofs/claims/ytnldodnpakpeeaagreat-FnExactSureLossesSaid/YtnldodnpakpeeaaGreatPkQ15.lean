/- Texts of E2, E4. -/
import Derived.Test.YtnldodnpakpeeaaGreatPkQ04
import Derived.Maps.AppendAt
import Derived.Deep.Draws
import Derived.Sort.Grow
import Derived.BigQuiet
import Derived.Test.YtnldodnpakpeeaaGreatPkQ14
namespace Go.Proofs.YtnldodnpakpeeaaGreat
open Go.RowKit Vo

theorem append_drawn {P : Program} {w w' : World} {v v' : Value} {base : Nat} {t ty e : TypeId} {i : TypeInfo} {z : Value} (ht : P.underlying t = some (.slice e)) (hi : P.info? e = some i) (hz : i.zero = some z)
    {n : Nat} {xs : List Value} (hown : w.ownsRow base e i.size v n xs) {a : Addr} {m c : Nat} {news : List Value} (hl : news.length = m * i.size) (hnews : ∀ j u, news[j]? = some u → w.cell? (a.add j) = some u) (h1 : ∀ u ∈ news, u.oneCell' = true)
    (hm : 0 < m) (h63 : n + m ≤ maxLen) (hbytes : (n + m) * i.bytes ≤ 140737488355328) (hr : (Builtin.append_ #[t, t] ty #[v, .slice (some a) m c]).run P w = .ok v' w') : w.drawn ≤ w'.drawn := by
  have hsmall : n + m ≤ 9223372036854775807 := by simp only [maxLen] at h63; omega
  rcases hown.2 with ⟨rfl, rfl⟩ | ⟨g, cap, cur, rfl, hbg, hg, hnc, hcm, hcs, htake⟩
  · have h2 := run_append_nil (P := P) w t ty e i z ht hi hz a m c news hl hnews (by omega) (by omega) (by have hb := hbytes; simp only [Nat.zero_add] at hb; omega)
    rw [hr] at h2
    injection h2 with _ h3
    subst h3
    exact Nat.le_succ _
  · by_cases hroom : n + m ≤ cap
    · have hfit : n * i.size + news.length ≤ cur.size := by rw [hl, hcs, ← Nat.add_mul]; exact Nat.mul_le_mul_right _ hroom
      have h2 := run_append_room (P := P) w t ty e i ht hi g n cap cur hg a m c news hl hnews h1 hroom hfit
      rw [hr] at h2
      injection h2 with _ h3
      subst h3
      exact Nat.le_refl _
    · have holds : ∀ j u, xs[j]? = some u → w.cell? ((⟨g, 0, none⟩ : Addr).add j) = some u := hown.cells (g := g) rfl
      have h2 := run_append_grow (P := P) w t ty e i z ht hi hz ⟨g, 0, none⟩ n cap xs hown.1 holds a m c news hl hnews (by omega) (by omega) (growslice_fits (by omega) hbytes)
      rw [hr] at h2
      injection h2 with _ h3
      subst h3
      exact Nat.le_succ _

/-- append of one element or more onto a slice of the call's own, with what was drawn. -/
theorem wpList_append_d {P : Program} (w : World) {ops : Array Oper} {rest : List Oper} {o : Oper} {a : Act} {Q : Exit → Act → World → Prop} (hgd : o.guard = none) (s x : Operand) (t : TypeId)
    (ho : o.op = .call { callee := .builtin .append, args := #[s, x], argTypes := #[t, t] })
    (base : Nat) (e : TypeId) (i : TypeInfo) (z : Value) (size bytes : Nat) (ht : P.underlying t = some (.slice e)) (hi : P.info? e = some i) (hz : i.zero = some z)
    (hsize : i.size = size) (hby : i.bytes = bytes) (hzs : z.cells.size = size) (hsz : 0 < size)
    (v : Value) (n : Nat) (xs : List Value) (hs : a.eval s = v) (hown : w.ownsRow base e size v n xs)
    (ad : Addr) (m c : Nat) (news : List Value) (hx : a.eval x = .slice (some ad) m c) (hl : news.length = m * size) (hnews : ∀ j u, news[j]? = some u → w.cell? (ad.add j) = some u) (h1 : ∀ u ∈ news, u.oneCell' = true)
    (hm : 0 < m) (h63 : n + m ≤ maxLen) (hbytes : (n + m) * bytes ≤ 140737488355328) (hbase : base ≤ w.heap.size)
    (h : ∀ gg cap w', w'.ownsRow base e size (.slice (some ⟨gg, 0, none⟩) (n + m) cap) (n + m) (xs ++ news) → w.grownBy w' v.ownBlock → (v.ownBlock = some gg ∨ gg = w.heap.size) → w.drawn ≤ w'.drawn → wpList P ops Q rest (a.put o.dst (.slice (some ⟨gg, 0, none⟩) (n + m) cap)) w') :
    wpList P ops Q (o :: rest) a w := by
  refine wpList_plain hgd fun K hK => ?_
  obtain ⟨v', w', hr, h2, h3, h4, h5⟩ := run_append_own_at (P := P) w base t o.type e i z size bytes ht hi hz hsize hby hzs hsz v n xs hown ad m c news hl hnews h1 h63 hbytes hbase
  have hd : w.drawn ≤ w'.drawn := by subst hsize; subst hby; exact append_drawn ht hi hz hown hl hnews h1 hm h63 hbytes hr
  obtain ⟨gg, cap, rfl⟩ : ∃ gg cap, v' = .slice (some ⟨gg, 0, none⟩) (n + m) cap := by
    rcases h2.2 with ⟨_, h0⟩ | ⟨g, cap, _, rfl, _⟩
    · omega
    · exact ⟨g, cap, rfl⟩
  unfold Oper.wp execOp
  simp only [ho, resolve, invoke, builtin, Sem.run_bind, Sem.run_pure, Result.andThen_ok, List.map_toArray, List.map_cons, List.map_nil, hs, hx, hr]
  refine hK _ _ (h gg cap w' h2 h3 ?_ hd)
  rcases h5 with h5 | h5
  · exact Or.inl (by rw [← h5]; rfl)
  · have : gg = w.heap.size := by simpa [Value.ownBlock] using h5
    exact Or.inr this

/-- make([]T, 0, n), with what was drawn. -/
theorem wpList_make_d {P : Program} (w : World) {ops : Array Oper} {rest : List Oper} {o : Oper} {a : Act} {Q : Exit → Act → World → Prop}
    (hg : o.guard = none) (l c : Operand) (t : TypeId) (hop : o.op = Op.makeSlice t l c)
    (base : Nat) (e : TypeId) (i : TypeInfo) (z : Value) (size : Nat) (h1 : P.underlying t = some (.slice e)) (h2 : P.info? e = some i) (h3 : i.zero = some z) (h4 : i.size = size)
    (kl kc : IntKind) (C : Int) (n : Nat) (hl : a.eval l = .int kl 0) (hc : a.eval c = .int kc C) (hC : C = (n : Int)) (b2 : i.bytes * n ≤ 281474976710656) (b3 : n ≤ maxLen) (b4 : base ≤ w.heap.size)
    (hK : ∀ w', w'.ownsRow base e size (.slice (some ⟨w.heap.size, 0, none⟩) 0 n) 0 [] → w.grownBy w' none → w.drawn ≤ w'.drawn → wpList P ops Q rest (a.put o.dst (.slice (some ⟨w.heap.size, 0, none⟩) 0 n)) w') :
    wpList P ops Q (o :: rest) a w := by
  refine wpList_plain hg fun K hK' => ?_
  obtain ⟨w', hrun, r1, r2⟩ := run_make_own (P := P) w base t e i z size h1 h2 h3 h4 kl kc n b2 b3 b4
  have hd : w.drawn ≤ w'.drawn := by
    have h63 : (n : Int) ≤ 9223372036854775807 := by simp only [maxLen] at b3; omega
    have hb' : (i.bytes : Int) * (n : Int) ≤ 281474976710656 := by
      have h : ((i.bytes * n : Nat) : Int) ≤ 281474976710656 := by omega
      rwa [Int.natCast_mul] at h
    have hr := run_make (P := P) w t e i z h1 h2 h3 kl kc 0 n (Int.le_refl _) (by omega) hb' h63
    rw [hrun] at hr
    injection hr with _ h3
    subst h3
    exact Nat.le_refl _
  subst hC
  unfold Oper.wp
  simp [execOp, hop, hl, hc, hrun, Result.andThen]
  exact hK' _ _ (hK w' r1 r2 hd)

/-- What only lays new blocks and draws is a world that has grown. -/
theorem grown_of {w w' : World} (hb : Below w.heap.size w w') (hd : w.drawn ≤ w'.drawn) : ∃ q os, w' = Sort.grow (w.drewN q) os := by
  refine ⟨w'.drawn - w.drawn, w'.heap.extract w.heap.size w'.heap.size, ?_⟩
  obtain ⟨h1, h2, h3, h4, h5⟩ := hb
  cases w with | mk h t d o p =>
  cases w' with | mk h' t' d' o' p' =>
  simp only at h1 h2 h3 h4 h5 hd
  subst h1 h2 h3
  simp only [Sort.grow, World.drewN]
  congr 1
  · apply Array.ext_getElem?
    intro k
    rw [Array.getElem?_append]
    by_cases hk : k < h.size
    · rw [if_pos hk]; exact h5 k hk
    · rw [if_neg hk]
      rw [Array.getElem?_extract]
      simp only [Nat.min_self]
      by_cases hk2 : k < h'.size
      · rw [if_pos (by omega)]
        congr 1; omega
      · rw [if_neg (by omega)]
        exact Array.getElem?_eq_none (by omega)
  · omega

/-- A list of the call's own, with what was drawn. -/
def IntsD (L : List Int) (w w' : World) (e : Ending) : Prop := IntsAt L w w' e ∧ w.drawn ≤ w'.drawn

set_option maxRecDepth 20000 in
set_option maxHeartbeats 2000000 in
theorem list_d (s : Nat) (w : World) (hs : s < 512) :
    Calls Tryz.prog 46 #[.int .u64 s] w fun e w' => IntsD (mem s 9) w w' e := by
  obtain ⟨i0, hi0, hz0, hz1, hz2⟩ := infoIntParts
  have h9 := mem_len s 9
  obtain ⟨L, hL⟩ : ∃ L, L = (mem s 9).length := ⟨_, rfl⟩
  rw [← hL] at h9
  have HL := Lib.hid hL
  clear hL
  go_enter Tryz.func46, Tryz.ntmps46
  go_wp2_with fail
  refine (size_any s _ hs).mono ?_
  rintro e w1 ⟨rfl, rfl⟩
  rw [← HL.out]
  go_wp2_with (at_make; refine wpList_make_d _ rfl _ _ 48 rfl w.heap.size 3 i0 (.int .i64 0) 1 Tryz.underlying48 hi0 hz0 hz1 .i64 .i64 L L rfl rfl rfl (by rw [hz2]; omega) (by unfold maxLen; omega) (by simp) ?_; intro w1 hown hgrow hdr0)
  go_loopw [3, 4, 8] (fun v _ i wr => ∃ (k : Nat) (A : Option Addr) (cap : Nat), k ≤ 9 ∧ i = .int .i64 k ∧ v = .slice A (mem s k).length cap ∧ wr.ownsRow w.heap.size 3 1 (.slice A (mem s k).length cap) (mem s k).length ((mem s k).map (Value.int .i64)) ∧ Below w.heap.size w wr ∧ w.drawn ≤ wr.drawn) (fun _ _ i _ => 9 - (intOf i).toNat)
  case atStart => exact ⟨0, some ⟨w.heap.size, 0, none⟩, L, by omega, rfl, rfl, hown, (Below.refl _ _).grown hgrow (Nat.le_refl _) (fun j hj => by cases hj), hdr0⟩
  case round =>
    obtain ⟨k, A, cap, hk, rfl, rfl, hown2, hb, hdw⟩ := hrel
    have HO := Lib.hid hown2
    have HDW := Lib.hid hdw
    clear hown2 hdw
    have hlen := mem_len s k
    have hsz := hb.size
    by_cases hk9 : k < 9
    · cases hbit : s.testBit k
      · have HB := Lib.hid hbit
        have HS := Lib.hid (mem_step0 hbit)
        clear hbit
        go_wp2_with (go_at_call 61; refine (has_any s k _ (by omega) hs).mono ?_; rintro e w' ⟨rfl, rfl⟩; rw [HB.out])
        go_roundw
        case rel => exact ⟨k + 1, A, cap, by omega, by go_num, by rw [HS.out], by rw [HS.out]; exact HO.out, hb, HDW.out⟩
        case measure => simp [intOf]; omega
      · have HB := Lib.hid hbit
        have HS := Lib.hid (mem_step1 hbit)
        clear hbit
        obtain ⟨m, hm⟩ : ∃ m, m = (mem s k).length := ⟨_, rfl⟩
        have HM := Lib.hid hm
        rw [← hm] at hlen HO ⊢
        clear hm
        go_wp2_with (first | (go_at_call 61; refine (has_any s k _ (by omega) hs).mono ?_; rintro e w' ⟨rfl, rfl⟩; rw [HB.out]) | (at_builtin; refine wpList_append_d _ rfl _ _ _ rfl w.heap.size 3 i0 _ 1 8 Tryz.underlying48 hi0 hz0 hz1 hz2 rfl (by decide) (.slice A m cap) m ((mem s k).map (Value.int .i64)) rfl (HO.out.alloc _) ⟨wr.heap.size, 0, none⟩ 1 1 [.int .i64 k] rfl rfl (World.news_of_block (cs := #[.int .i64 k]) (t := 3) (fr := (0, 0)) (heap_alloc_new wr _)) (by simp [Value.oneCell']) (by omega) (by unfold maxLen; omega) (by omega) (by simp; omega) ?_; intro gg cap2 w4 hown4 hgrow hat hd4))
        have hb4 : Below w.heap.size w w4 := (hb.alloc hsz (.cells #[.int .i64 k] 3)).grown hgrow (by simp; omega) fun j hj => owns_le HO.out hj
        go_roundw
        case rel => exact ⟨k + 1, some ⟨gg, 0, none⟩, cap2, by omega, by go_num, by rw [HS.out, HM.out]; simp, by rw [HS.out]; simpa [HM.out] using hown4, hb4, Nat.le_trans HDW.out hd4⟩
        case measure => simp [intOf]; omega
    · obtain rfl : k = 9 := by omega
      go_wp2
      go_ret
      exact ⟨⟨A, cap, rfl, HO.out, hb⟩, HDW.out⟩
end Go.Proofs.YtnldodnpakpeeaaGreat

namespace Go.Proofs.YtnldodnpakpeeaaGreat
open Go.RowKit Vo

/-- The key of a set as a value. -/
def keyV (s : Nat) : Value := .agg #[.int .i64 (keyAt s 0), .int .i64 (keyAt s 1), .int .i64 (keyAt s 2), .int .i64 (keyAt s 3), .int .i64 (keyAt s 4), .int .i64 (keyAt s 5), .int .i64 (keyAt s 6), .int .i64 (keyAt s 7), .int .i64 (keyAt s 8)]
/-- It laid new blocks and drew, no more. -/
def Grew (w w' : World) : Prop := Below w.heap.size w w' ∧ w.drawn ≤ w'.drawn
theorem Grew.trans {w w1 w2 : World} (h : Grew w w1) (k : Grew w1 w2) : Grew w w2 := ⟨bfrom h.1 k.1, Nat.le_trans h.2 k.2⟩
theorem Grew.refl (w : World) : Grew w w := ⟨Below.refl _ _, Nat.le_refl _⟩
theorem Grew.alloc (w : World) (o : Obj) : Grew w (w.alloc o) := ⟨below1 w o, Nat.le_refl _⟩
theorem setCell_drawn (w : World) (p : Addr) (u : Value) : (w.setCell p u).drawn = w.drawn := rfl
theorem Grew.setCell {w w' : World} (h : Grew w w') {p : Addr} (hp : w.heap.size ≤ p.block) (u : Value) : Grew w (w'.setCell p u) := ⟨h.1.setCell hp u, by rw [setCell_drawn]; exact h.2⟩
theorem Grew.drewN (w : World) (k : Nat) : Grew w (w.drewN k) := ⟨below_drewN (Below.refl _ _) _, Nat.le_add_right _ _⟩

theorem Own.nine {w : World} {g : Nat} {t : TypeId} {f : Nat → Value} (h : Own w g t 9 f) (v0 v1 v2 v3 v4 v5 v6 v7 v8 : Value) :
    Own (((((((((w.setCell ⟨g, 0, none⟩ v0).setCell ⟨g, 1, none⟩ v1).setCell ⟨g, 2, none⟩ v2).setCell ⟨g, 3, none⟩ v3).setCell ⟨g, 4, none⟩ v4).setCell ⟨g, 5, none⟩ v5).setCell ⟨g, 6, none⟩ v6).setCell ⟨g, 7, none⟩ v7).setCell ⟨g, 8, none⟩ v8) g t 9
      (fun i => match i with | 0 => v0 | 1 => v1 | 2 => v2 | 3 => v3 | 4 => v4 | 5 => v5 | 6 => v6 | 7 => v7 | _ => v8) :=
  (((((((((h.set 0 v0).set 1 v1).set 2 v2).set 3 v3).set 4 v4).set 5 v5).set 6 v6).set 7 v7).set 8 v8).congr fun i hi => by
    rcases i with _ | _ | _ | _ | _ | _ | _ | _ | _ | i
    all_goals first | rfl | omega

end Go.Proofs.YtnldodnpakpeeaaGreat

namespace Go.Proofs.YtnldodnpakpeeaaGreat
open Go.RowKit Vo

def cmpZ (x y : Int) : Int := if x < y then -1 else if y < x then 1 else 0
theorem cmpZ_lt {x y : Int} (h : x < y) : cmpZ x y = -1 := if_pos h
theorem cmpZ_gt {x y : Int} (h : y < x) : cmpZ x y = 1 := by unfold cmpZ; rw [if_neg (by omega), if_pos h]
theorem cmpZ_eq (x : Int) : cmpZ x x = 0 := by unfold cmpZ; rw [if_neg (by omega), if_neg (by omega)]

end Go.Proofs.YtnldodnpakpeeaaGreat
