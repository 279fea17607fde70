/- Texts of Yq. -/
import Derived.Test.YtnldodnpakpeeaaPkQ17
import Derived.Lib.Overlaps
import Derived.Lib.JoinLaws
import Derived.Deep.AppendSrc
import Derived.Laws.Externs
import Derived.Shelf.RegionOpenPlain
import Derived.Deep.RegionLaw
import Derived.Outline
namespace Go.Proofs.Ytnldodnpakpeeaa
open Go.RowKit Vo

theorem rowC_of_own {w : World} {base g k cap size : Nat} {e : TypeId} {xs : List Value} (h : w.ownsRow base e size (.slice (some ⟨g, 0, none⟩) k cap) k xs) : ∃ f, w.rowIs g e (cap * size) f ∧ (∀ i, i < k * size → xs[i]? = some (f i)) ∧ base ≤ g ∧ k ≤ cap ∧ cap ≤ maxLen ∧ xs.length = k * size := by
  obtain ⟨h1, h2⟩ := h
  rcases h2 with ⟨h2, _⟩ | ⟨g', cap', cur, hv, hg, hh, h3, h4, h5, h6⟩
  · cases h2
  · obtain ⟨rfl, rfl⟩ : g = g' ∧ cap = cap' := by simpa using hv
    have hle : k * size ≤ cap * size := Nat.mul_le_mul_right _ h3
    refine ⟨fun i => cur[i]?.getD default, ⟨cur, hh, by omega, fun i hi => ?_⟩, fun i hi => ?_, hg, h3, h4, by omega⟩
    · have hi' : i < cur.size := by omega
      simp [Array.getElem?_eq_getElem hi']
    · have hi' : i < cur.size := by omega
      rw [← h6, List.getElem?_take, if_pos (by omega)]
      simp [Array.getElem?_eq_getElem hi']
theorem ownC_of_row {w : World} {base g m cap size : Nat} {e : TypeId} {f : Nat → Value} {xs : List Value} (h : w.rowIs g e (cap * size) f) (hb : base ≤ g) (hm : m ≤ cap) (hc : cap ≤ maxLen) (hx : xs.length = m * size) (hf : ∀ i, i < m * size → xs[i]? = some (f i)) : w.ownsRow base e size (.slice (some ⟨g, 0, none⟩) m cap) m xs := by
  obtain ⟨c, hh, hcs, hcc⟩ := h
  have hle : m * size ≤ cap * size := Nat.mul_le_mul_right _ hm
  refine ⟨by omega, Or.inr ⟨g, cap, c, rfl, hb, hh, hm, hc, by omega, ?_⟩⟩
  apply List.ext_getElem?
  intro i
  by_cases hi : i < m * size
  · rw [List.getElem?_take, if_pos (by omega), Array.getElem?_toList, hcc i (by omega), hf i hi]
  · rw [List.getElem?_take, if_neg (by omega), List.getElem?_eq_none (by omega)]

theorem run_copy_kc {P : Program} (w : World) (dT sT ty elem : TypeId) (k b o dLen dCap : Nat) (a : Addr) (sLen sCap : Nat) (cs : List Value)
    (hu : P.underlying dT = some (.slice elem)) (hs : (P.info? elem).map (·.size) = some k) (hn : cs.length = Nat.min sLen dLen * k)
    (hsrc : ∀ j v, cs[j]? = some v → w.cell? (a.add j) = some v) (hsp : ∀ j, j < cs.length → (w.cell? ⟨b, o + j, none⟩).isSome = true) (hfz : ∀ j, j < cs.length → w.frozen? ⟨b, o + j, none⟩ = false) (h1 : ∀ v ∈ cs, v.oneCell' = true) :
    (Builtin.copy_ #[dT, sT] ty #[.slice (some ⟨b, o, none⟩) dLen dCap, .slice (some a) sLen sCap]).run P w = .ok (goInt (Nat.min sLen dLen)) (w.setCells b o cs) := by
  have hl := run_loadCells_list (P := P) w a cs hsrc
  have hst := run_storeCells_cells (P := P) b o cs 0 w (by simpa using hsp) (by simpa using hfz) h1
  simp only [Nat.add_zero] at hst
  cases hq : P.info? elem with
  | none => simp [hq] at hs
  | some i =>
    have hi : i.size = k := by simpa [hq] using hs
    simp [Builtin.copy_, run_underlying hu, Builtin.lenOf, Builtin.firstCells, sizeOf, typeInfo, hq, hi, ← hn, hl, hst]
theorem wpList_copy_kc {P : Program} (w : World) {ops : Array Oper} {rest : List Oper} {o : Oper} {a : Act} {Q : Exit → Act → World → Prop} (hgd : o.guard = none) (d s : Operand) (t t' : TypeId)
    (ho : o.op = .call { callee := .builtin .copy, args := #[d, s], argTypes := #[t, t'] }) (v u : Value) (hd : a.eval d = v) (hs : a.eval s = u) {v' : Value} {w' : World}
    (hr : (Builtin.copy_ #[t, t'] o.type #[v, u]).run P w = .ok v' w') (h : wpList P ops Q rest (a.put o.dst v') w') : wpList P ops Q (o :: rest) a w :=
  wpList_plain hgd fun _ hK => by
    unfold Oper.wp execOp
    simp only [ho, resolve, invoke, builtin, Sem.run_bind, Sem.run_pure, Result.andThen_ok, List.map_toArray, List.map_cons, List.map_nil, hd, hs, hr]
    exact hK _ _ h
theorem step_copy_kc {P : Program} {ops : Array Oper} {o : Oper} {a : Act} {w : World} {K : Act → World → Prop} {Q : Exit → Act → World → Prop} {E : Prop}
    (hg : o.guard = none) (d x : Operand) (dT sT : TypeId) (hop : o.op = Op.call { callee := Callee.builtin Builtin.copy, args := #[d, x], argTypes := #[dT, sT] })
    (v u : Value) (hd : a.eval d = v) (hx : a.eval x = u) {v' : Value} {w' : World} (hr : (Builtin.copy_ #[dT, sT] o.type #[v, u]).run P w = .ok v' w') (hK : K (a.put o.dst v') w') :
    if Region.wanted o (yielded ops a.tmps) = true then Oper.wp P o a w K Q else E := by
  have hw : Region.wanted o (yielded ops a.tmps) = true := by simp [Region.wanted, hg]
  rw [if_pos hw]
  unfold Oper.wp
  simp [execOp, hop, resolve, invoke, builtin, hd, hx, hr, Result.andThen]
  exact hK

theorem clues_parts {C : List Clu} {k : Nat} (h : k < C.length) : cluesV C = cluesV (C.take k) ++ ([.int .i64 (cAt C k).1, .int .i64 (cAt C k).2.1, .int .i64 (cAt C k).2.2] ++ cluesV (C.drop (k+1))) := by
  have e : C = C.take k ++ [cAt C k] ++ C.drop (k+1) := by
    conv => lhs; rw [← List.take_append_drop (k+1) C, List.take_add_one, List.getElem?_eq_getElem h]
    unfold cAt
    rw [List.getD_eq_getElem?_getD, List.getElem?_eq_getElem h]
    rfl
  conv => lhs; rw [e]
  rw [cluesV_app, cluesV_snoc, List.append_assoc]
theorem isSome_setCs (b : Nat) (vs : List Value) (o : Nat) (w : World) (f : Nat → Value) (t : TypeId) (n : Nat) (h : w.rowIs b t n f) (k : Nat) (hk : k < n) : ((w.setCells b o vs).cell? ⟨b, k, none⟩).isSome = true := by
  rw [(rowIs_setCells vs o w f h).cell hk]; rfl

theorem own_someC {w : World} {base : Nat} {e : TypeId} {size : Nat} {a : Addr} {n c : Nat} {xs : List Value} (h : w.ownsRow base e size (.slice (some a) n c) n xs) : n ≤ c ∧ c ≤ maxLen := by
  rcases h.2 with ⟨h', _⟩ | ⟨g, cap, cur, hv, hg, hh, h3, h4, r⟩
  · cases h'
  · injection hv with _ _ h5
    subst h5
    exact ⟨h3, h4⟩
set_option maxRecDepth 20000 in
set_option maxHeartbeats 4000000 in
theorem insertClue_mid (base g n cap k vb vc : Nat) (C : List Clu) (w : World) (hn : C.length = n) (hk : k + 1 < n) (hn8 : n ≤ 8) (hcap : n ≤ cap) (ho : OwnCl w base (.slice (some ⟨g, 0, none⟩) (n - 1) cap) (dropC C k)) (hvb : w.heap[vb]? = some (.cells #[.int .i64 (cAt C k).1, .int .i64 (cAt C k).2.1, .int .i64 (cAt C k).2.2] 130 (0, 0))) (hne : vb ≠ g) :
    Calls Try.prog 96 #[.slice (some ⟨g, 0, none⟩) (n - 1) cap, .int .i64 k, .slice (some ⟨vb, 0, none⟩) 1 vc] w fun e w' => e = .returned (.slice (some ⟨g, 0, none⟩) n cap) ∧ OwnCl w' base (.slice (some ⟨g, 0, none⟩) n cap) C ∧ w.grownBy w' (some g) := by
  unfold OwnCl at ho
  have hdl := dropC_len (C := C) (k := k) (by omega)
  rw [hdl, hn] at ho
  obtain ⟨f, hrow, hf, hbg, hnc, hcm, hxl⟩ := rowC_of_own ho
  have hTk : (cluesV (C.take k)).length = k * 3 := by rw [cluesV_len, List.length_take]; omega
  have hDk : (cluesV (C.drop (k+1))).length = (n - 1 - k) * 3 := by rw [cluesV_len, List.length_drop]; omega
  have hdc : cluesV (dropC C k) = cluesV (C.take k) ++ cluesV (C.drop (k+1)) := by rw [dropC, cluesV_app]
  have hparts := clues_parts (C := C) (k := k) (by omega)
  obtain ⟨D, hD⟩ : ∃ D, D = cluesV (C.drop (k+1)) := ⟨_, rfl⟩
  obtain ⟨vs, hvs⟩ : ∃ vs : List Value, vs = [.int .i64 (cAt C k).1, .int .i64 (cAt C k).2.1, .int .i64 (cAt C k).2.2] := ⟨_, rfl⟩
  have hD1 : ∀ v ∈ D, v.oneCell' = true := by rw [hD]; exact cluesV_one _
  have hv1 : ∀ v ∈ vs, v.oneCell' = true := by rw [hvs]; simp [Value.oneCell']
  have hv3 : vs.length = 3 := by rw [hvs]; rfl
  have hvget : ∀ j v, vs[j]? = some v → w.cell? ⟨vb, j, none⟩ = some v := fun j v hj => by
    simp only [World.cell?, hvb]
    rw [hvs] at hj
    simpa using hj
  have hmix : Try.prog.follows Departure.mixedOrders = true := by kernel_rfl
  rw [← hD] at hDk hdc hparts
  rw [← hvs] at hparts
  have hDget : ∀ j v, D[j]? = some v → w.cell? ⟨g, k * 3 + j, none⟩ = some v := fun j v hj => by
    have hjl : j < D.length := (List.getElem?_eq_some_iff.1 hj).1
    have h2 := hf (k * 3 + j) (by omega)
    rw [hdc, List.getElem?_append_right (by omega), hTk, Nat.add_sub_cancel_left, hj] at h2
    rw [hrow.cell (by omega), ← h2]
  have hov : ∀ lb cb, (callFunc 145 #[.slice (some ⟨vb, 0, none⟩) 1 vc, .slice (some ⟨g, (k + 1) * 3, none⟩) lb cb]).run Try.prog w = .ok (.value (.bool false)) w := fun lb cb => by
    rw [run_callFunc_extern (f := 145) (fn := Try.f145) (e := Extern.SlicesOverlaps.overlaps #[26, 26] #[4]) Try.func145 (by kernel_rfl) (by kernel_rfl) (by kernel_rfl) (by kernel_rfl),
      Lib.run_overlaps_apart w 26 4 130 Try.underlying26 3 Try.sizeOf130 ⟨vb, 0, none⟩ ⟨g, (k + 1) * 3, none⟩ 1 vc lb cb hne 130 130 3 (cap * 3) (by simp [World.shape?, hvb]) (by obtain ⟨c, hc, hs, _⟩ := hrow; simp [World.shape?, hc, hs]) (by omega) (by simp [World.frozen?, hvb]) (by simp [World.frozen?, hvb])]
    rfl
  have hcp1 : ∀ ty dc sc, (Builtin.copy_ #[26, 26] ty #[.slice (some ⟨g, (k + 1) * 3, none⟩) (n - (k + 1)) dc, .slice (some ⟨g, k * 3, none⟩) (n - k) sc]).run Try.prog w.drew = .ok (goInt (n - (k + 1) : Nat)) (w.drew.setCells g ((k + 1) * 3) D) := fun ty dc sc => by
    have h := run_copy_kc (P := Try.prog) w.drew 26 26 ty 130 3 g ((k + 1) * 3) (n - (k + 1)) dc ⟨g, k * 3, none⟩ (n - k) sc D Try.underlying26 infoClue3 (by rw [hDk, show Nat.min (n - k) (n - (k + 1)) = n - (k + 1) from Nat.min_eq_right (by omega)]; congr 1; omega)
      (fun j v hj => by rw [show (⟨g, k * 3, none⟩ : Addr).add j = ⟨g, k * 3 + j, none⟩ from by unfold Addr.add; split <;> simp_all]; exact hDget j v hj)
      (fun j hj => by rw [show w.drew.cell? ⟨g, (k + 1) * 3 + j, none⟩ = w.cell? ⟨g, (k + 1) * 3 + j, none⟩ from rfl, hrow.cell (by omega)]; rfl) (fun j hj => hrow.frozen _) hD1
    rw [show Nat.min (n - k) (n - (k + 1)) = n - (k + 1) from Nat.min_eq_right (by omega)] at h
    exact h
  obtain ⟨W1, hW1⟩ : ∃ W1, W1 = w.drew.setCells g ((k + 1) * 3) D := ⟨_, rfl⟩
  have hrow1 : W1.rowIs g 130 (cap * 3) (fun j => if (k + 1) * 3 ≤ j ∧ j < (k + 1) * 3 + D.length then D[j - (k + 1) * 3]?.getD default else f j) := by rw [hW1]; exact rowIs_setCells D _ w.drew f hrow
  have hvb1 : ∀ j v, vs[j]? = some v → W1.cell? ⟨vb, j, none⟩ = some v := fun j v hj => by
    rw [hW1, cell_congr (heap_delS g D _ w.drew vb hne)]
    exact hvget j v hj
  have hcp2 : ∀ (W : World), W = W1 ∨ W = W1.drew → ∀ ty dc, (Builtin.copy_ #[26, 26] ty #[.slice (some ⟨g, k * 3, none⟩) (n - k) dc, .slice (some ⟨vb, 0, none⟩) 1 vc]).run Try.prog W = .ok (goInt (1 : Nat)) (W.setCells g (k * 3) vs) := fun W hW ty dc => by
    have hc : ∀ x, W.cell? x = W1.cell? x := fun x => by rcases hW with rfl | rfl <;> rfl
    have hz : ∀ x, W.frozen? x = W1.frozen? x := fun x => by rcases hW with rfl | rfl <;> rfl
    have h := run_copy_kc (P := Try.prog) W 26 26 ty 130 3 g (k * 3) (n - k) dc ⟨vb, 0, none⟩ 1 vc vs Try.underlying26 infoClue3 (by rw [hv3, show Nat.min 1 (n - k) = 1 from Nat.min_eq_left (by omega)])
      (fun j v hj => by rw [show (⟨vb, 0, none⟩ : Addr).add j = ⟨vb, j, none⟩ from by unfold Addr.add; split <;> simp_all, hc]; exact hvb1 j v hj)
      (fun j hj => by rw [hc, hrow1.cell (by omega)]; rfl) (fun j hj => by rw [hz]; exact hrow1.frozen _) hv1
    rw [show Nat.min 1 (n - k) = 1 from Nat.min_eq_left (by omega)] at h
    exact h
  have HEND := Lib.hid (show ∀ W, W = W1 ∨ W = W1.drew → OwnCl (W.setCells g (k * 3) vs) base (.slice (some ⟨g, 0, none⟩) n cap) C ∧ w.grownBy (W.setCells g (k * 3) vs) (some g) from fun W hW => by
    have hrowW : W.rowIs g 130 (cap * 3) (fun j => if (k + 1) * 3 ≤ j ∧ j < (k + 1) * 3 + D.length then D[j - (k + 1) * 3]?.getD default else f j) := by rcases hW with rfl | rfl <;> exact hrow1
    constructor
    · unfold OwnCl
      rw [hn]
      refine ownC_of_row (rowIs_setCells vs _ W _ hrowW) hbg hcap hcm (by rw [cluesV_len, hn]; omega) (fun i hi => ?_)
      rw [hparts]
      by_cases h1 : i < k * 3
      · rw [List.getElem?_append_left (by omega), if_neg (by omega), if_neg (by omega)]
        have h2 := hf i (by omega)
        rw [hdc, List.getElem?_append_left (by omega)] at h2
        exact h2
      · rw [List.getElem?_append_right (by omega), hTk]
        by_cases h2 : i < k * 3 + 3
        · rw [List.getElem?_append_left (by omega), if_pos (by omega)]
          have h3 : i - k * 3 < vs.length := by omega
          rw [List.getElem?_eq_getElem h3]
          rfl
        · rw [List.getElem?_append_right (by omega), if_neg (by omega), if_pos (by omega), hv3]
          have h3 : i - (k + 1) * 3 < D.length := by omega
          rw [show i - k * 3 - 3 = i - (k + 1) * 3 from by omega, List.getElem?_eq_getElem h3]
          rfl
    · have hb : Below g w (W.setCells g (k * 3) vs) := below_delS (Nat.le_refl g) _ _ _ (by
        have h1 : Below g w W1 := by rw [hW1]; exact below_delS (Nat.le_refl g) _ _ _ (Below.refl g w).drew
        rcases hW with rfl | rfl
        · exact h1
        · exact h1.drew)
      refine ⟨hb.os, hb.tape, hb.output, hb.size, fun b hbz hbn => ?_⟩
      have hbg' : b ≠ g := fun e => hbn (by rw [e])
      rw [heap_delS g vs _ W b hbg']
      have h1 : W1.heap[b]? = w.heap[b]? := by rw [hW1]; exact heap_delS g D _ w.drew b hbg'
      rcases hW with rfl | rfl
      · exact h1
      · exact h1)
  have hb0 : (0 : Int) ≤ (k : Int) := by omega
  have hb1 : (k : Int) ≤ ((n - 1 : Nat) : Int) := by omega
  have hb2 : ¬ ((k : Int) = ((n - 1 : Nat) : Int)) := by omega
  have hb3 : ((n - 1 : Nat) : Int) + 1 = (n : Int) := by omega
  have hb4 : ¬ ((n : Int) > (cap : Int)) := by omega
  have hb5 : (n : Int) ≤ (cap : Int) := by omega
  have hb6 : ¬ (cap = k + 1) := by omega
  have hb7 : (k : Int) + 1 ≤ (n : Int) := by omega
  have hb8 : ¬ (cap = k) := by omega
  have hb9 : (k : Int) ≤ (n : Int) := by omega
  have hb10 : (0 : Int) ≤ (k : Int) + 1 := by omega
  have hw1 : IntKind.i64.wrap ((k : Int) + 1) = (k : Int) + 1 := IntWalk.i64_in _ (by omega)
  have hw2 : ((k : Int) + 1).toNat = k + 1 := by omega
  rw [← hW1] at hcp1
  clear hf hparts hdc hTk hDk hxl hdl hrow hrow1 hvb1 hvget hDget hvs hD ho hvb hW1 hv3
  generalize hn1 : n - 1 = n1 at *
  go_enter Try.func96, Try.ntmps96
  go_wp2_with (simp only [hov])
  go_region_law_o (refine step_copy_kc rfl _ _ 26 26 rfl _ _ (by simp [Act.eval, Act.put]) (by simp [Act.eval, Act.put]) (hcp1 _ _ _) ?_)
  go_wp2_with (at_builtin; refine wpList_copy_kc _ rfl _ _ 26 26 rfl _ _ rfl rfl (hcp2 _ (by first | exact Or.inl rfl | exact Or.inr rfl) _ _) ?_)
  go_ret
  have HE := HEND.out _ (by first | exact Or.inl rfl | exact Or.inr rfl)
  exact ⟨rfl, HE.1, HE.2⟩

set_option maxRecDepth 20000 in
set_option maxHeartbeats 4000000 in
theorem insertClue_end (base g n cap k vb vc : Nat) (C : List Clu) (w : World) (hn : C.length = n) (hk : k + 1 = n) (hn8 : n ≤ 8) (hcap : n ≤ cap) (ho : OwnCl w base (.slice (some ⟨g, 0, none⟩) (n - 1) cap) (dropC C k)) (hvb : w.heap[vb]? = some (.cells #[.int .i64 (cAt C k).1, .int .i64 (cAt C k).2.1, .int .i64 (cAt C k).2.2] 130 (0, 0))) :
    Calls Try.prog 96 #[.slice (some ⟨g, 0, none⟩) (n - 1) cap, .int .i64 k, .slice (some ⟨vb, 0, none⟩) 1 vc] w fun e w' => e = .returned (.slice (some ⟨g, 0, none⟩) n cap) ∧ OwnCl w' base (.slice (some ⟨g, 0, none⟩) n cap) C ∧ w.grownBy w' (some g) := by
  obtain ⟨i0, hi0, hz0, hz1, hz2⟩ := info_parts infoClue
  have hdl := dropC_len (C := C) (k := k) (by omega)
  have hC : C = dropC C k ++ [cAt C k] := by
    have hk' : k < C.length := by omega
    conv => lhs; rw [← List.take_append_drop (k+1) C, List.take_add_one, List.getElem?_eq_getElem hk']
    rw [List.drop_eq_nil_of_le (show C.length ≤ k + 1 by omega)]
    unfold dropC cAt
    rw [List.getD_eq_getElem?_getD, List.getElem?_eq_getElem hk', List.drop_eq_nil_of_le (show C.length ≤ k + 1 by omega)]
    simp
  have HEQ := Lib.hid (show cluesV C = cluesV (dropC C k) ++ [.int .i64 (cAt C k).1, .int .i64 (cAt C k).2.1, .int .i64 (cAt C k).2.2] from by conv => lhs; rw [hC, cluesV_snoc])
  have hnk : n - 1 = k := by omega
  unfold OwnCl at ho
  rw [hdl, hn, hnk] at ho
  obtain ⟨f, hrow, hf, hbg, hnc, hcm, hxl⟩ := rowC_of_own ho
  rw [hnk]
  have HF := Lib.hid hf
  have HN := Lib.hid hn
  obtain ⟨x, y, z, hxyz⟩ : ∃ x y z, cAt C k = (x, y, z) := ⟨_, _, _, rfl⟩
  rw [hxyz] at hvb HEQ
  simp only at hvb HEQ
  have HV := Lib.hid (World.news_of_block (cs := #[.int .i64 x, .int .i64 y, .int .i64 z]) (t := 130) (fr := (0, 0)) hvb)
  subst hk
  have HSRC := Lib.hid (show Src Try.prog i0.size 26 (.slice (some ⟨vb, 0, none⟩) 1 vc) 1 [.int .i64 x, .int .i64 y, .int .i64 z] w from by
    rw [hz1]
    exact Src.ofSlice w Try.underlying26 ⟨vb, 0, none⟩ 1 vc _ rfl HV.out (by simp [Value.oneCell']))
  have HC := Lib.hid (show ∀ j, j < 3 → (w.cell? ⟨g, 0 + k * i0.size + j, none⟩).isSome = true from fun j hj => by rw [hz1, hrow.cell (by omega)]; rfl)
  have HZ := Lib.hid (show ∀ j, j < 3 → w.frozen? ⟨g, 0 + k * i0.size + j, none⟩ = false from fun j hj => hrow.frozen _)
  have HEND := Lib.hid (show OwnCl (w.setCells g (0 + k * i0.size) [.int .i64 x, .int .i64 y, .int .i64 z]) base (.slice (some ⟨g, 0, none⟩) (k + 1) cap) C ∧ w.grownBy (w.setCells g (0 + k * i0.size) [.int .i64 x, .int .i64 y, .int .i64 z]) (some g) from by
    rw [hz1, Nat.zero_add]
    constructor
    · unfold OwnCl
      rw [hn]
      refine ownC_of_row (rowIs_setCells _ _ w f hrow) hbg hcap hcm (by rw [cluesV_len, hn]; omega) (fun i hi => ?_)
      rw [HEQ.out]
      simp only [List.length_cons, List.length_nil]
      by_cases h1 : i < k * 3
      · rw [List.getElem?_append_left (by omega), if_neg (by omega)]
        exact hf i (by omega)
      · rw [List.getElem?_append_right (by omega), hxl, if_pos (by omega)]
        have h3 : i - k * 3 < [Value.int .i64 x, .int .i64 y, .int .i64 z].length := by simp; omega
        rw [List.getElem?_eq_getElem h3]
        rfl
    · have hb : Below g w (w.setCells g (k * 3) [.int .i64 x, .int .i64 y, .int .i64 z]) := below_delS (Nat.le_refl g) _ _ _ (Below.refl g w)
      exact ⟨hb.os, hb.tape, hb.output, hb.size, fun b hbz hbn => heap_delS g _ _ w b (fun e => hbn (by rw [e]))⟩)
  have hb0 : (0 : Int) ≤ (k : Int) := by omega
  have hb1 : (k : Int) ≤ (cap : Int) := by omega
  have hn8 : k ≤ 8 := by omega
  clear ho hn hC hdl hxyz hvb hnk hrow hf hxl
  go_enter Try.func96, Try.ntmps96
  go_wp2_with (at_builtin; refine wpList_append_room_src _ rfl _ _ 26 26 rfl 130 i0 Try.underlying26 hi0 g 0 k cap rfl _ rfl 1 [.int .i64 x, .int .i64 y, .int .i64 z] HSRC.out hcap HC.out HZ.out ?_)
  go_ret
  have h := HEND.out
  rw [hz1, Nat.zero_add] at h
  exact ⟨rfl, h⟩
end Go.Proofs.Ytnldodnpakpeeaa
