/- Texts of Ys, Gt, Yt. -/
import Derived.Test.YtnldodnpakpeeaaPkQ52
import Derived.Test.YtnldodnpakpeeaaPkQ43
import Derived.Defers
import Derived.Outline
namespace Go.Proofs.Ytnldodnpakpeeaa
open Go.RowKit Vo

theorem puzB_drop {m : Nat} {C : List Clu} {k : Nat} (h : puzB (m : Int) C = true) (hk : k < C.length) : puzB (m : Int) (dropC C k) = true := by
  obtain ⟨q, hq, h1, h4, h8, hall⟩ := puzB_parts h
  obtain rfl : m = q := by omega
  have hl := dropC_len hk
  rw [puzB_at (by simp [inB]; omega) (by omega), anyU_no (fun j hj => ?_)]
  · rfl
  · have hj' : j < C.length - 1 := by omega
    have e : cAt (dropC C k) j = cAt C (if j < k then j else j + 1) := by
      unfold dropC
      by_cases hjk : j < k
      · rw [if_pos hjk, cAt_left (by rw [List.length_take]; omega), cAt_front hjk]
      · rw [if_neg hjk]
        unfold cAt
        rw [List.getD_eq_getElem?_getD, List.getD_eq_getElem?_getD, List.getElem?_append_right (by rw [List.length_take]; omega), List.length_take, List.getElem?_drop]
        congr 2
        omega
    rw [e, hall _ (by split <;> omega)]
    rfl

/-- A riddle whose clues lie in block g. -/
def RdG (base m : Nat) (C : List Clu) (h g cp : Nat) (w : World) : Prop :=
  base ≤ h ∧ h ≠ g ∧ C.length ≤ cp ∧ ∃ v, Bx3 88 w h (.int .i64 m) (.slice (some ⟨g, 0, none⟩) C.length cp) v ∧ OwnCl w base (.slice (some ⟨g, 0, none⟩) C.length cp) C ∧ GSb base m (gamesK m) v w
theorem RdG.at {base m : Nat} {C : List Clu} {h g cp : Nat} {w : World} (k : RdG base m C h g cp w) : RdAt base m C h w := by
  obtain ⟨h0, _, _, v, h1, h2, h3⟩ := k
  exact ⟨h0, _, _, _, v, rfl, h1, h2, h3⟩
theorem RdG.now {base m : Nat} {C : List Clu} {h g cp : Nat} {w w' : World} (k : RdG base m C h g cp w) (hb : Below w.heap.size w w') : RdG base m C h g cp w' := by
  obtain ⟨h0, hne, hc, v, h1, h2, h3⟩ := k
  exact ⟨h0, hne, hc, v, h1.now hb, owns_now h2 hb, h3.now hb⟩
theorem owns_kept2 {w w' : World} {base : Nat} {e : TypeId} {size : Nat} {v : Value} {n : Nat} {xs : List Value} {g h : Nat} {cg ch : Array Value} {eg eh : TypeId} (ho : w.ownsRow base e size v n xs) (hk : Kept2 g h w w') (hg : w.heap[g]? = some (.cells cg eg (0, 0))) (hh : w.heap[h]? = some (.cells ch eh (0, 0))) (h1 : eg ≠ e) (h2 : eh ≠ e) : w'.ownsRow base e size v n xs := by
  obtain ⟨a, b⟩ := ho
  refine ⟨a, ?_⟩
  rcases b with b | ⟨q, cap, cur, hv, hq, hq2, r⟩
  · exact Or.inl b
  · refine Or.inr ⟨q, cap, cur, hv, hq, (hk.block q (Array.getElem?_eq_some_iff.1 hq2).1 (fun e1 => ?_) (fun e1 => ?_)).trans hq2, r⟩
    · subst e1
      rw [hg] at hq2
      injection hq2 with hq2
      injection hq2 with _ h3
      exact h1 h3
    · subst e1
      rw [hh] at hq2
      injection hq2 with hq2
      injection hq2 with _ h3
      exact h2 h3
theorem owns_blockC {w : World} {base g n cap : Nat} {C : List Clu} (h : w.ownsRow base 130 3 (.slice (some ⟨g, 0, none⟩) n cap) n (cluesV C)) : ∃ c, w.heap[g]? = some (.cells c 130 (0, 0)) := by
  rcases h.2 with ⟨h', _⟩ | ⟨q, cp', cur, hv, _, hh, _⟩
  · cases h'
  · obtain ⟨rfl, rfl⟩ : g = q ∧ cap = cp' := by simpa using hv
    exact ⟨cur, hh⟩
theorem RdG.turn {base m : Nat} {C D : List Clu} {h g cp : Nat} {w w' : World} (k : RdG base m C h g cp w) (hk : Kept2 g h w w') (hd : D.length ≤ cp) (hx : w'.heap[h]? = (w.setCell ⟨h, 1, none⟩ (.slice (some ⟨g, 0, none⟩) D.length cp)).heap[h]?) (ho : OwnCl w' base (.slice (some ⟨g, 0, none⟩) D.length cp) D) : RdG base m D h g cp w' := by
  obtain ⟨h0, hne, hc, v, h1, h2, h3⟩ := k
  refine ⟨h0, hne, hd, v, ?_, ho, ?_⟩
  · unfold Bx3 at h1 ⊢
    rw [hx]
    simp [World.setCell, Array.getElem?_modify, h1]
  · obtain ⟨cg, hcg⟩ := owns_blockC h2
    obtain ⟨xs, G, Cc, hown, hgs⟩ := h3
    exact ⟨xs, G, Cc, owns_kept2 hown hk hcg h1 (by decide) (by decide), fun i hi => ⟨(hgs i hi).1, (hgs i hi).2.1, (hgs i hi).2.2.1, owns_kept2 (hgs i hi).2.2.2 hk hcg h1 (by decide) (by decide)⟩⟩
theorem Kept2.trans {g h : Nat} {a b c : World} (p : Kept2 g h a b) (q : Kept2 g h b c) : Kept2 g h a c :=
  ⟨q.os.trans p.os, q.tape.trans p.tape, q.output.trans p.output, Nat.le_trans p.size q.size, fun i hi h1 h2 => (q.block i (Nat.lt_of_lt_of_le hi p.size) h1 h2).trans (p.block i hi h1 h2)⟩
theorem Kept2.of_below {g h : Nat} {a b : World} (p : Below a.heap.size a b) : Kept2 g h a b :=
  ⟨p.os, p.tape, p.output, p.size, fun i hi _ _ => p.block i hi⟩

/-- takeOut of a riddle. -/
theorem takeOut_rd (base m : Nat) (C : List Clu) (h g cp k : Nat) (w : World) (hk : k < C.length) (h8 : C.length ≤ 8) (hr : RdG base m C h g cp w) :
    Calls Try.prog 53 #[.pointer (some ⟨h, 0, none⟩), .int .i64 k] w fun e w' => (e = .returned (.func (.func 95) #[] #[.pointer (some ⟨w.heap.size, 0, none⟩), .pointer (some ⟨w.heap.size + 1, 0, none⟩), .pointer (some ⟨w.heap.size + 2, 0, none⟩)])) ∧ TkAt h k (cAt C k) w.heap.size w' ∧ RdG base m (dropC C k) h g cp w' ∧ Kept2 g h w w' := by
  have hr' := hr
  obtain ⟨h0, hne, hc, v, h1, h2, h3⟩ := hr
  have hl := dropC_len hk
  refine (takeOut_any base h g C.length cp k C w rfl hk h8 hne h1.lt h1.cells.2.1 h1.soft.2.1 h2).mono ?_
  rintro e w' ⟨rfl, ht, hh, ho, hkk⟩
  rw [← hl] at hh ho
  exact ⟨rfl, ht, hr'.turn hkk (by omega) hh ho, hkk⟩
theorem putBack_rd (base m : Nat) (C : List Clu) (h g cp k b : Nat) (u : FrameMode) (w : World) (hk : k < C.length) (h8 : C.length ≤ 8) (hcp : C.length ≤ cp) (hbg : g < b) (hbh : h < b) (ht : TkAt h k (cAt C k) b w) (hr : RdG base m (dropC C k) h g cp w) :
    CallsD Try.prog 95 #[.pointer (some ⟨b, 0, none⟩), .pointer (some ⟨b + 1, 0, none⟩), .pointer (some ⟨b + 2, 0, none⟩)] u w fun e u' w' => u' = u ∧ e = .returned (.tuple #[]) ∧ RdG base m C h g cp w' ∧ Kept2 g h w w' := by
  have hr' := hr
  obtain ⟨h0, hne, hc, v, h1, h2, h3⟩ := hr
  have hl := dropC_len hk
  rw [hl] at h1 h2
  refine (putBack_any base h g C.length cp k b C u w rfl hk h8 hcp hne h1.lt hbg hbh ht h1.cells.2.1 h1.soft.2.1 h2).mono ?_
  rintro e u' w' ⟨rfl, rfl, hh, ho, hkk⟩
  exact ⟨rfl, rfl, hr'.turn hkk hcp hh ho, hkk⟩

set_option maxRecDepth 20000 in
set_option maxHeartbeats 4000000 in
theorem countWithout_any (base m : Nat) (C : List Clu) (h g cp k : Nat) (w : World) (h1 : 1 ≤ m) (h4 : m ≤ 4) (hb : base ≤ w.heap.size) (hp : puzB (m : Int) C = true) (hk : k < C.length) (hgl : g < w.heap.size) (hhl : h < w.heap.size) (hr : RdG base m C h g cp w) :
    Calls Try.prog 60 #[.pointer (some ⟨h, 0, none⟩), .int .i64 k] w fun e w' => e = .returned (.int .i64 ((solK m (dropC C k)).length : Nat)) ∧ RdG base m C h g cp w' ∧ Kept2 g h w w' := by
  have h8 := puzB_le hp
  have hcp := hr.2.2.1
  obtain ⟨N, hN⟩ : ∃ N, N = (solK m (dropC C k)).length := ⟨_, rfl⟩
  rw [← hN]
  have HNN := Lib.hid hN
  clear hN
  have HT := Lib.hid (takeOut_rd base m C h g cp k w hk h8 hr)
  have HS := Lib.hid (fun W (hbW : base ≤ W.heap.size) (hrW : RdG base m (dropC C k) h g cp W) => solutions_any base m (dropC C k) h W h1 h4 hbW (puzB_drop hp hk) hrW.at)
  have HPB := Lib.hid (fun W (ht : TkAt h k (cAt C k) w.heap.size W) (hrW : RdG base m (dropC C k) h g cp W) => putBack_rd base m C h g cp k w.heap.size .returning W hk h8 hcp hgl hhl ht hrW)
  have hmf : ∀ (fn : Fn) (first cap : Array Value) (w : World), (Instr.makeFunc fn first cap).run Try.prog w = .ok (.func fn first cap) w := fun _ _ _ _ => rfl
  clear hr hp
  go_enter_defers Try.func60, Try.ntmps60
  go_wp2_with fail
  refine HT.out.mono ?_
  rintro e w1 ⟨rfl, ht1, hr1, hk1⟩
  have HT1 := Lib.hid ht1
  have HR1 := Lib.hid hr1
  have HK1 := Lib.hid hk1
  have HS1 := Lib.hid (HS.out w1 (Nat.le_trans hb hk1.size) hr1)
  clear ht1 hr1 hk1
  go_wp2_with fail
  refine HS1.out.mono ?_
  rintro e w2 ⟨v', rfl, hgs, hb2⟩
  obtain ⟨Bq, cq, rfl⟩ := GSb.slice hgs
  clear hgs
  have HT2 := Lib.hid (show TkAt h k (cAt C k) w.heap.size w2 from by
    obtain ⟨a0, a1, a2, a3, a4, a5⟩ := HT1.out
    exact ⟨by have := hb2.size; omega, (hb2.cell (p := ⟨w.heap.size, 0, none⟩) (show w.heap.size < _ by omega)).trans a1, (hb2.cell (p := ⟨w.heap.size + 1, 0, none⟩) (show w.heap.size + 1 < _ by omega)).trans a2, (hb2.cell (p := ⟨w.heap.size + 2, 0, none⟩) a0).trans a3, (hb2.cell (p := ⟨w.heap.size + 2, 1, none⟩) a0).trans a4, (hb2.cell (p := ⟨w.heap.size + 2, 2, none⟩) a0).trans a5⟩)
  have HR2 := Lib.hid (HR1.out.now hb2)
  have HP2 := Lib.hid (HPB.out w2 HT2.out HR2.out)
  have HK2 := Lib.hid (HK1.out.trans (Kept2.of_below hb2))
  rw [← HNN.out]
  go_wp2
  refine leaves_cons (f := 95) (args := #[.pointer (some ⟨w.heap.size, 0, none⟩), .pointer (some ⟨w.heap.size + 1, 0, none⟩), .pointer (some ⟨w.heap.size + 2, 0, none⟩)]) (by simp) (by simp [go_sem]) ?_
  refine HP2.out.mono ?_
  rintro e u' w4 ⟨rfl, rfl, hr4, hk4⟩
  exact ⟨_, results_tmp rfl _ _ _, rfl, hr4, HK2.out.trans hk4⟩
end Go.Proofs.Ytnldodnpakpeeaa

namespace Go.Proofs.Ytnldodnpakpeeaa
open Go.RowKit Vo

theorem fitAll_zero (m : Nat) (C : List Clu) (L : List (List Nat)) : L.filter (fitAll m C 0) = L := List.filter_eq_self.2 fun _ _ => rfl
theorem fitAll_succ (m : Nat) (C : List Clu) (j : Nat) (L : List (List Nat)) : (L.filter (fitAll m C j)).filter (fitAll m [cAt C j] 1) = L.filter (fitAll m C (j+1)) := by
  rw [List.filter_filter]
  refine List.filter_congr fun S _ => ?_
  unfold fitAll
  simp only [anyU, cAt, List.getD_cons_zero]
  cases anyU (fun c => !fitK S m c) C j <;> simp
theorem leftN_get {m j i : Nat} {C : List Clu} (h1 : 1 ≤ m) (h4 : m ≤ 4) (hi : i < ((gamesK m).filter (fitAll m C j)).length) : (((gamesK m).filter (fitAll m C j)).getD i []).length ≤ 16 ∧ ∀ s ∈ ((gamesK m).filter (fitAll m C j)).getD i [], s < 2^m := by
  have hm : ((gamesK m).filter (fitAll m C j)).getD i [] ∈ (gamesK m) := by
    rw [List.getD_eq_getElem?_getD, List.getElem?_eq_getElem hi]
    exact (List.mem_filter.1 (List.getElem_mem hi)).1
  obtain ⟨k, hk, he⟩ := List.getElem_of_mem hm
  have := gamesK_get h1 h4 hk
  rw [List.getD_eq_getElem?_getD, List.getElem?_eq_getElem hk, Option.getD_some, he] at this
  exact this
/-- How many games fit the first clues. -/
def leftN (m : Nat) (C : List Clu) (j : Nat) : Nat := ((gamesK m).filter (fitAll m C j)).length
def leftL (m : Nat) (C : List Clu) (k : Nat) : List Int := (List.range (k+1)).map fun j => (leftN m C j : Int)
theorem leftL_succ (m : Nat) (C : List Clu) (k : Nat) : leftL m C (k+1) = leftL m C k ++ [(leftN m C (k+1) : Int)] := by unfold leftL; rw [List.range_succ (n := k+1), List.map_append]; rfl
theorem leftL_len (m : Nat) (C : List Clu) (k : Nat) : (leftL m C k).length = k + 1 := by simp [leftL]
theorem kcl_one {w : World} (x y z : Int) {g : Nat} (h : Bx3 130 w g (.int .i64 x) (.int .i64 y) (.int .i64 z)) : KCl w (some ⟨g, 0, none⟩) 1 [(x, y, z)] := by
  refine ⟨rfl, g, 0, fun _ => ⟨rfl, h.lt, fun j hj => ?_⟩⟩
  obtain ⟨a0, a1, a2⟩ := h.cells
  match j, hj with
  | 0, _ => exact a0
  | 1, _ => exact a1
  | 2, _ => exact a2

theorem owns_block {w : World} {base : Nat} {e : TypeId} {size : Nat} {v : Value} {n : Nat} {xs : List Value} (h : w.ownsRow base e size v n xs) {k : Nat} (hk : v.ownBlock = some k) : ∃ cur, w.heap[k]? = some (.cells cur e (0, 0)) := by
  rcases h.2 with ⟨hv, _⟩ | ⟨g, cap, cur, hv, _, hh, _⟩
  · rw [hv] at hk; simp [Value.ownBlock] at hk
  · rw [hv] at hk
    have : g = k := by simpa [Value.ownBlock] using hk
    exact ⟨cur, this ▸ hh⟩
theorem owns_apartT {w : World} {base base' : Nat} {e e' : TypeId} {size size' : Nat} {v v' : Value} {n n' : Nat} {xs xs' : List Value} (h : w.ownsRow base e size v n xs) (h' : w.ownsRow base' e' size' v' n' xs') (he : e ≠ e') {k : Nat} (hk : v.ownBlock = some k) : some k ≠ v'.ownBlock := fun e0 => by
  obtain ⟨c1, h1⟩ := owns_block h hk
  obtain ⟨c2, h2⟩ := owns_block h' e0.symm
  rw [h1] at h2
  injection h2 with h2
  injection h2 with _ h2
  exact he h2
theorem GSb.past {base m base' : Nat} {Ls : List (List Nat)} {v : Value} {w w' : World} (h : GSb base m Ls v w) {e : TypeId} {size : Nat} {vc : Value} {n : Nat} {xs : List Value} (hc : w.ownsRow base' e size vc n xs) (h1 : 95 ≠ e) (h2 : 107 ≠ e) (hg : w.grownBy w' vc.ownBlock) : GSb base m Ls v w' := by
  obtain ⟨ys, G, C, ho, h⟩ := h
  exact ⟨ys, G, C, owns_grown ho hg (fun k hk => owns_apartT ho hc h1 hk), fun i hi => ⟨(h i hi).1, (h i hi).2.1, (h i hi).2.2.1, owns_grown (h i hi).2.2.2 hg (fun k hk => owns_apartT (h i hi).2.2.2 hc h2 hk)⟩⟩

end Go.Proofs.Ytnldodnpakpeeaa

namespace Go.Proofs.Ytnldodnpakpeeaa
open Go.RowKit Vo

/-- The indices of needless clues among the first j. -/
def needL (m : Nat) (C : List Clu) (j : Nat) : List Int := ((List.range j).filter fun k => decide ((solK m (dropC C k)).length = (solK m C).length)).map fun k : Nat => (k : Int)
theorem needL_yes {m : Nat} {C : List Clu} {j : Nat} (h : (solK m (dropC C j)).length = (solK m C).length) : needL m C (j+1) = needL m C j ++ [(j : Int)] := by
  unfold needL; rw [List.range_succ, List.filter_append]; simp [h]
theorem needL_no {m : Nat} {C : List Clu} {j : Nat} (h : ¬ (solK m (dropC C j)).length = (solK m C).length) : needL m C (j+1) = needL m C j := by
  unfold needL; rw [List.range_succ, List.filter_append]; simp [h]
theorem needL_len (m : Nat) (C : List Clu) (j : Nat) : (needL m C j).length ≤ j := by
  unfold needL; rw [List.length_map]; exact Nat.le_trans (List.length_filter_le _ _) (by simp)
def needO (m : Int) (C : List Clu) : List Int := if puzB m C then needL m.toNat C C.length else []
theorem needO_small (m : Int) (C : List Clu) : (needO m C).length ≤ 1048576 := by
  unfold needO
  cases h : puzB m C with
  | false => simp
  | true => rw [if_pos rfl]; have := needL_len m.toNat C C.length; have := puzB_le h; omega

theorem RdAt.g {base m : Nat} {C : List Clu} {h : Nat} {w : World} (k : RdAt base m C h w) (hn : 0 < C.length) : ∃ g cp, RdG base m C h g cp w ∧ g < w.heap.size ∧ base ≤ g := by
  obtain ⟨h0, A, n, cp, v, rfl, hx, hc, hg⟩ := k
  obtain ⟨g, cp', hv, hbg, hnc, _⟩ := owns_headS hc hn
  obtain ⟨rfl, rfl⟩ : A = some ⟨g, 0, none⟩ ∧ cp = cp' := by simpa using hv
  obtain ⟨c, hcb⟩ := owns_blockC hc
  refine ⟨g, cp, ⟨h0, fun e => ?_, hnc, v, hx, hc, hg⟩, (Array.getElem?_eq_some_iff.1 hcb).1, hbg⟩
  subst e
  unfold Bx3 at hx
  rw [hx] at hcb
  injection hcb with hcb
  injection hcb with _ h2
  exact absurd h2 (by decide)
theorem RdG.past {base m base' : Nat} {C : List Clu} {h g cp : Nat} {w w' : World} (k : RdG base m C h g cp w) {size : Nat} {vc : Value} {n : Nat} {xs : List Value} (hc : w.ownsRow base' 3 size vc n xs) (hg : w.grownBy w' vc.ownBlock) : RdG base m C h g cp w' := by
  obtain ⟨h0, hne, hcp, v, h1, h2, h3⟩ := k
  refine ⟨h0, hne, hcp, v, ?_, owns_grown h2 hg (fun j hj => owns_apartT h2 hc (by decide) hj), h3.past hc (by decide) (by decide) hg⟩
  refine (hg.block h h1.lt (fun e => ?_)).trans h1
  obtain ⟨c, h4⟩ := owns_block hc e.symm
  unfold Bx3 at h1
  rw [h1] at h4
  injection h4 with h4
  injection h4 with _ h5
  exact absurd h5 (by decide)
theorem Kept2.grown {g h : Nat} {a b c : World} {row : Option Nat} (k : Kept2 g h a b) (hg : b.grownBy c row) (hr : ∀ i, row = some i → a.heap.size ≤ i) : Kept2 g h a c :=
  ⟨hg.os.trans k.os, hg.tape.trans k.tape, hg.output.trans k.output, Nat.le_trans k.size hg.size, fun i hi h1 h2 => (hg.block i (Nat.lt_of_lt_of_le hi k.size) (fun e => by have := hr i e.symm; omega)).trans (k.block i hi h1 h2)⟩
theorem Kept2.more {g h : Nat} {a b c : World} (p : Kept2 g h a b) (q : Kept2 g h b c) : Kept2 g h a c := p.trans q
theorem RdG.block {base m : Nat} {C : List Clu} {h g cp : Nat} {w : World} (k : RdG base m C h g cp w) : ∃ c1 c2, w.heap[g]? = some (.cells c1 130 (0, 0)) ∧ w.heap[h]? = some (.cells c2 88 (0, 0)) := by
  obtain ⟨_, _, _, v, h1, h2, _⟩ := k
  obtain ⟨c, hcb⟩ := owns_blockC h2
  exact ⟨c, _, hcb, h1⟩

set_option maxRecDepth 20000 in
set_option maxHeartbeats 8000000 in
theorem iNeedlessClues_any (m : Int) (A : Option Addr) (n cap : Nat) (C : List Clu) (w : World) (hl : n ≤ 1048576) (hk : KCl w A n C) :
    Calls Try.prog 18 #[.agg #[.int .i64 m, .slice A n cap]] w fun e w' => Ans (RS (needO m C)) (puzB m C) w w' e := by
  obtain ⟨P, hP⟩ : ∃ P : World → Ending → Prop, P = fun w' e => Ans (RS (needO m C)) (puzB m C) w w' e := ⟨_, rfl⟩
  suffices h : Calls Try.prog 18 #[.agg #[.int .i64 m, .slice A n cap]] w fun e w' => P w' e by rw [hP] at h; exact h
  have HNO := Lib.hid (show puzB m C = false → ∀ w' e, Ans (RS []) false w w' e → P w' e from fun h w' e k => by rw [hP]; unfold needO; rw [h]; exact k)
  have HYES := Lib.hid (show puzB m C = true → ∀ w' e, Ans (RS (needL m.toNat C C.length)) true w w' e → P w' e from fun h w' e k => by rw [hP]; unfold needO; rw [h]; exact k)
  clear hP
  have b0 := below1 w (.cells #[.int .i64 m, .slice A n cap] 28)
  have hx := BoxT.new 28 w (.int .i64 m) (.slice A n cap)
  obtain ⟨c0, c1⟩ := hx.cells
  have HR := Lib.hid (readRiddle_any m A n cap C _ hl (hk.now b0))
  have hcl := hk.1
  clear hk
  cases hp : puzB m C with
  | false =>
    rw [hp] at HR
    have HN := Lib.hid (HNO.out hp)
    clear hp
    go_enter Try.func18, Try.ntmps18
    go_wp2_with fail
    refine HR.out.mono ?_
    rintro e w1 ⟨h, hb1⟩
    obtain rfl : e = .returned (.tuple #[.pointer none, .bool false]) := by
      rcases h with ⟨_, h⟩ | ⟨h, _⟩
      · exact h
      · simp at h
    clear h c0 c1
    go_wp2
    exact HN.out _ _ ⟨_, rfl, (RS.of_own (L := []) (World.ownsRow_nil w1 w.heap.size 3 1)).lies (Nat.le_refl _), bfrom b0 hb1⟩
  | true =>
    rw [hp] at HR
    have HY := Lib.hid (HYES.out hp)
    have HPP := Lib.hid hp
    obtain ⟨i0, hi0, hz0, hz1, hz2⟩ := infoIntParts
    clear hp
    go_enter Try.func18, Try.ntmps18
    go_wp2_with fail
    refine HR.out.mono ?_
    rintro e w1 ⟨h, hb1⟩
    obtain ⟨q, h', rfl, hq1, hq4, rfl, hrd⟩ : ∃ (q h' : Nat), m = q ∧ 1 ≤ q ∧ q ≤ 4 ∧ e = .returned (.tuple #[.pointer (some ⟨h', 0, none⟩), .bool true]) ∧ RdAt _ q C h' w1 := by
      rcases h with ⟨h, _⟩ | ⟨_, h⟩
      · simp at h
      · exact h
    have g1 := bfrom b0 hb1
    have hx1 := hx.now hb1
    have HS := Lib.hid (solutions_any _ q C h' w1 hq1 hq4 hb1.size HPP.out hrd)
    have HRD := Lib.hid hrd
    rw [Int.toNat_natCast] at HY
    obtain ⟨R, hR⟩ : ∃ R, R = (solK q C).length := ⟨_, rfl⟩
    have HRR := Lib.hid hR
    clear h c0 c1 hrd hR hx
    go_wp2_with fail
    refine HS.out.mono ?_
    rintro e w2 ⟨v', rfl, hgs, hb2⟩
    obtain ⟨Bq, cq, rfl⟩ := GSb.slice hgs
    rw [← HRR.out]
    have g2 := bfrom g1 hb2
    have hx2 := hx1.now hb2
    obtain ⟨c0, c1⟩ := hx2.cells
    have HRD2 := Lib.hid (HRD.out.now hb2)
    have hzw2 := g2.size
    clear hgs hx1
    by_cases hn0 : n = 0
    · subst hn0
      have HL0 := Lib.hid (show needL q C C.length = [] from by rw [hcl]; rfl)
      rw [HL0.out] at HY
      go_wp2_with fail
      refine wp_loop_rounds 1 ?_
      rw [rounds_succ]
      go_wp2
      exact HY.out _ _ ⟨_, rfl, (RS.of_own (L := []) (World.ownsRow_nil w2 w.heap.size 3 1)).lies (Nat.le_refl _), g2⟩
    · obtain ⟨g, cp, hrg, hgl, hbg⟩ := HRD2.out.g (by omega)
      have hbh := hrg.1
      have hhl : h' < w2.heap.size := by obtain ⟨_, _, _, v, h1, _⟩ := hrg; exact h1.lt
      have hgw : w.heap.size < g := by simp at hbg; omega
      have hhw : w.heap.size < h' := by simp at hbh; omega
      have HRG := Lib.hid hrg
      have hb2z : (w.alloc (.cells #[.int .i64 (q : Nat), .slice A n cap] 28)).heap.size ≤ w2.heap.size := Nat.le_trans hb1.size hb2.size
      have HCW := Lib.hid (fun W j (hj : j < n) (hz : w2.heap.size ≤ W.heap.size) (hr : RdG _ q C h' g cp W) => countWithout_any _ q C h' g cp j W hq1 hq4 (Nat.le_trans hb2z hz) HPP.out (by omega) (by omega) (by omega) hr)
      have HYS := Lib.hid (fun j (h : (solK q (dropC C j)).length = R) => needL_yes (m := q) (C := C) (j := j) (by rw [h, HRR.out]))
      have HNS := Lib.hid (fun j (h : ¬ (solK q (dropC C j)).length = R) => needL_no (m := q) (C := C) (j := j) (by rw [← HRR.out]; exact h))
      have HNL := Lib.hid (needL_len q C)
      have HBX := Lib.hid (show ∀ W, Kept2 g h' w2 W → Below w.heap.size w W from fun W hW => g2.trans (hW.below (by omega) (by omega) (by omega)))
      have hn8 : n ≤ 8 := by have := puzB_le HPP.out; omega
      have HCL := Lib.hid hcl
      clear hrg hbg hbh hb2z hcl
      go_wp2_with fail
      go_loopw [7, 8, 22] (fun lv _ i wr => ∃ (j l : Nat) (B : Option Addr) (cb : Nat), j ≤ n ∧ i = .int .i64 j ∧ lv = .slice B l cb ∧ l = (needL q C j).length ∧ wr.ownsRow w2.heap.size 3 1 (.slice B l cb) l ((needL q C j).map (Value.int .i64)) ∧ RdG (w.alloc (.cells #[.int .i64 (q : Nat), .slice A n cap] 28)).heap.size q C h' g cp wr ∧ Kept2 g h' w2 wr) (fun _ _ i _ => n - (intOf i).toNat)
      case atStart => exact ⟨0, 0, none, 0, Nat.zero_le _, rfl, rfl, rfl, World.ownsRow_nil _ _ _ _, HRG.out, Kept2.of_below (Below.refl _ _)⟩
      case round =>
        obtain ⟨j, l, B, cb, hj, rfl, rfl, hll, hown, hrr, hkk⟩ := hrel
        have HLL := Lib.hid hll
        have HO := Lib.hid hown
        have HRR2 := Lib.hid hrr
        have HK := Lib.hid hkk
        have hzr := hkk.size
        have hl8 : l ≤ 8 := by have := HNL.out j; omega
        clear hll hown hrr hkk
        by_cases hlt : j < n
        · have HC := Lib.hid (HCW.out wr j hlt hzr HRR2.out)
          have HOA := Lib.hid (show ∀ W, Kept2 g h' wr W → W.ownsRow w2.heap.size 3 1 (.slice B l cb) l ((needL q C j).map (Value.int .i64)) from fun W hW => by
            obtain ⟨c1, c2, hc1, hc2⟩ := HRR2.out.block
            exact owns_kept2 HO.out hW hc1 hc2 (by decide) (by decide))
          have HYJ := Lib.hid (HYS.out j)
          have HNJ := Lib.hid (HNS.out j)
          obtain ⟨N1, hN1⟩ : ∃ N1, N1 = (solK q (dropC C j)).length := ⟨_, rfl⟩
          rw [← hN1] at HC HYJ HNJ
          clear hN1
          by_cases he : N1 = R
          · have HY1 := Lib.hid (HYJ.out he)
            subst he
            go_wp2_with (first
              | (go_at_call 60; refine HC.out.mono ?_; rintro e w3 ⟨rfl, hr3, hk3⟩; have HR3 := Lib.hid hr3; have HK3 := Lib.hid hk3; have HO3 := Lib.hid (HOA.out w3 hk3); have hz3 := hk3.size; clear hr3 hk3)
              | (at_builtin; refine wpList_append_lies _ rfl _ _ _ rfl w2.heap.size 3 i0 _ 1 8 Try.underlying35 hi0 hz0 hz1 hz2 rfl (by decide) (.slice B l cb) l ((needL q C j).map (Value.int .i64)) rfl (HO3.out.alloc _) ⟨w3.heap.size, 0, none⟩ 1 1 [.int .i64 (j : Nat)] rfl rfl (World.news_of_block (cs := #[.int .i64 (j : Nat)]) (t := 3) (fr := (0, 0)) (heap_alloc_new w3 _)) (by simp [Value.oneCell']) (by omega) (by unfold maxLen; omega) (by omega) (by simp; omega) (w3.heap.size + 1) (by simp) ?_; intro gg cap3 w7 hown7 hgrow7 hat7 hlt7)
              | fail)
            have HR7 := Lib.hid ((HR3.out.now (below1 w3 (.cells #[.int .i64 (j : Nat)] 3))).past (HO3.out.alloc _) hgrow7)
            have HK7 := Lib.hid (((HK.out.trans HK3.out).trans (Kept2.of_below (below1 w3 (.cells #[.int .i64 (j : Nat)] 3)))).grown hgrow7 (fun i hi => (HO3.out.lt i hi).1))
            go_roundw
            case rel => exact ⟨j + 1, l + 1, _, cap3, by omega, by go_num, rfl, by rw [HY1.out, List.length_append, ← HLL.out]; rfl, by rw [HY1.out, List.map_append]; exact hown7, HR7.out, HK7.out⟩
            case measure => simp [intOf]; omega
          · have HN1 := Lib.hid (HNJ.out he)
            have hne : ((N1 : Int) == (R : Int)) = false := beq_false_of_ne (by omega)
            clear he
            go_wp2_with (first
              | (go_at_call 60; refine HC.out.mono ?_; rintro e w3 ⟨rfl, hr3, hk3⟩; have HR3 := Lib.hid hr3; have HK3 := Lib.hid hk3; have HO3 := Lib.hid (HOA.out w3 hk3); clear hr3 hk3)
              | fail)
            go_roundw
            case rel => exact ⟨j + 1, l, B, cb, by omega, by go_num, rfl, by rw [HN1.out, ← HLL.out], by rw [HN1.out]; exact HO3.out, HR3.out, HK.out.trans HK3.out⟩
            case measure => simp [intOf]; omega
        · obtain rfl : j = n := by omega
          have HB9 := Lib.hid (HBX.out wr HK.out)
          go_wp2
          refine HY.out _ _ ⟨_, rfl, ?_, HB9.out⟩
          rw [HCL.out]
          have h := HO.out
          rw [HLL.out] at h ⊢
          exact (RS.of_own (L := needL q C j) (owns_base2 h hzw2)).lies (Nat.le_refl _)
end Go.Proofs.Ytnldodnpakpeeaa
