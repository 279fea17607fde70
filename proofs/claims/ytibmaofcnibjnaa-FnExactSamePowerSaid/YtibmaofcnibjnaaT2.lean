/- Contract of the model's voSorted. -/
import Derived.Test.YtibmaofcnibjnaaT1
import Derived.Maps.AppendAt
import Derived.Laws.AppendOwnNone
namespace Go.Proofs.Ytibmaofcnibjnaa
open Go.RowKit Vo

theorem ins_at {x : List Int} {l : List (List Int)} {k : Nat} (hk : k ≤ l.length) (h : ∀ i, i < k → before (l.getD i []) x = true) (he : k = l.length ∨ before (l.getD k []) x = false) :
    ins x l = l.take k ++ x :: l.drop k := by
  induction l generalizing k with
  | nil => cases k <;> simp [ins]
  | cons y l ih =>
    cases k with
    | zero =>
      rcases he with he | he
      · simp at he
      · simp at he; simp [ins, he]
    | succ k =>
      have h0 := h 0 (by omega)
      simp only [List.getD_cons_zero] at h0
      simp only [ins, h0, if_true, List.take_succ_cons, List.drop_succ_cons, List.cons_append]
      rw [ih (k := k) (by simpa using hk) (fun i hi => by have := h (i+1) (by omega); simpa using this) (by simpa using he)]
theorem sortL_more (L : List (List Int)) (j : Nat) (hj : j < L.length) : sortL (L.take (j+1)) = ins (L.getD j []) (sortL (L.take j)) := by
  unfold sortL
  rw [List.take_add_one, List.getElem?_eq_getElem hj, List.getD_eq_getElem?_getD, List.getElem?_eq_getElem hj, List.foldl_append]
  rfl
theorem ins_len (x : List Int) (l : List (List Int)) : (ins x l).length = l.length + 1 := by
  induction l with
  | nil => rfl
  | cons y l ih => simp only [ins]; split <;> simp [ih]
theorem sortL_len (L : List (List Int)) : (sortL L).length = L.length := by
  have : ∀ out : List (List Int), (L.foldl (fun out x => ins x out) out).length = out.length + L.length := by
    induction L with
    | nil => intro out; rfl
    | cons x L ih => intro out; simp only [List.foldl_cons, ih, ins_len, List.length_cons]; omega
  simpa [sortL] using this []

/-- Values with the lists that they read as. -/
structure Pairs (lo : Nat) (P : List (Value × List Int)) (j : Nat) (L : List (List Int)) (w : World) : Prop where
  len : P.length = j
  lists : P.map (·.2) = L
  reads : ∀ p ∈ P, RI p.2 lo w.heap.size p.1 w ∧ p.2.length ≤ 1048576
theorem RI.one {l : List Int} {lo hi : Nat} {v : Value} {w : World} (h : RI l lo hi v w) : v.oneCell' = true := by
  obtain ⟨A, cap, rfl, _⟩ := h; rfl
theorem RI.up {l : List Int} {lo lo' : Nat} {v : Value} {w w' : World} (h : RI l lo w.heap.size v w) (hb : Below w.heap.size w w') (hlo : lo' ≤ lo := by first | exact Nat.zero_le _ | exact Nat.le_refl _ | omega) : RI l lo' w'.heap.size v w' :=
  (h.keep (Or.inr fun k _ k2 => hb.block k k2)).wide (Or.inr ⟨hlo, hb.size⟩)
theorem Pairs.one {lo : Nat} {P : List (Value × List Int)} {j : Nat} {L : List (List Int)} {w : World} (h : Pairs lo P j L w) : ∀ u ∈ P.map (·.1), u.oneCell' = true := by
  intro u hu
  obtain ⟨p, hp, rfl⟩ := List.mem_map.1 hu
  exact (h.reads p hp).1.one
theorem Pairs.put {lo : Nat} {P : List (Value × List Int)} {j : Nat} {L : List (List Int)} {w : World} (h : Pairs lo P j L w) {k : Nat} (hk : k ≤ j) {x : Value} {l : List Int} (hx : RI l lo w.heap.size x w) (hl : l.length ≤ 1048576)
    (hb : ∀ i, i < k → before (L.getD i []) l = true) (he : k = j ∨ before (L.getD k []) l = false) : Pairs lo (P.take k ++ (x, l) :: P.drop k) (j + 1) (ins l L) w := by
  obtain ⟨h1, h2, h3⟩ := h
  subst h2
  refine ⟨by simp; omega, ?_, fun p hp => ?_⟩
  · rw [ins_at (k := k) (by simp; omega) hb (by simpa [h1] using he)]
    simp [List.map_take, List.map_drop]
  · rcases List.mem_append.1 hp with e | e
    · exact h3 p (List.mem_of_mem_take e)
    · rcases List.mem_cons.1 e with e | e
      · subst e; exact ⟨hx, hl⟩
      · exact h3 p (List.mem_of_mem_drop e)
theorem Pairs.at {lo : Nat} {P : List (Value × List Int)} {j : Nat} {L : List (List Int)} {w : World} (h : Pairs lo P j L w) {k : Nat} (hk : k < j) : ∃ x, (P.map (·.1))[k]? = some x ∧ RI (L.getD k []) lo w.heap.size x w ∧ (L.getD k []).length ≤ 1048576 := by
  obtain ⟨h1, h2, h3⟩ := h
  subst h2
  have hkP : k < P.length := by omega
  refine ⟨P[k].1, by simp [hkP], ?_⟩
  rw [List.getD_eq_getElem?_getD, List.getElem?_map, List.getElem?_eq_getElem hkP]
  exact h3 _ (List.getElem_mem hkP)
theorem Pairs.rss {lo : Nat} {P : List (Value × List Int)} {j : Nat} {L : List (List Int)} {w w' : World} (h : Pairs lo P j L w) {base : Nat} {B : Option Addr} {cp : Nat} (ho : w'.ownsRow base 22 1 (.slice B j cp) j (P.map (·.1))) (hb : Below w.heap.size w w') (lo' : Nat) (hlo : lo' ≤ lo) (hbase : lo' ≤ base) :
    RSS0 L lo' w'.heap.size (.slice B j cp) w' := by
  have hL : L.length = j := by rw [← h.lists, List.length_map, h.len]
  refine ⟨B, cp, by rw [hL], ?_⟩
  by_cases hj : j = 0
  · exact Or.inl (by omega)
  · obtain ⟨g, cap', hv, hg, _, _⟩ := owns_head ho (by omega)
    injection hv with hA _ hc
    subst hA
    have hgl := owns_lt ho (k := g) rfl
    refine Or.inr ⟨g, fun i => (P.map (·.1)).getD i default, rfl, by omega, hgl, ?_, fun i hi => ?_⟩
    · rw [hL]
      exact Own.of_own ho fun i hi => by
        obtain ⟨x, hx, _⟩ := h.at hi
        rw [hx, List.getD_eq_getElem?_getD, hx]; rfl
    · obtain ⟨x, hx, hr, _⟩ := h.at (k := i) (by omega)
      show RI _ _ _ ((P.map (·.1)).getD i default) w'
      rw [show (P.map (·.1)).getD i default = x from by rw [List.getD_eq_getElem?_getD, hx]; rfl]
      exact hr.up hb hlo

theorem cells_at {w : World} {g j k : Nat} {t : TypeId} {xs : List Value} (h : Own w g t j (fun i => xs.getD i default)) (hl : xs.length = j) :
    ∀ i u, (xs.take k)[i]? = some u → w.cell? ((⟨g, 0, none⟩ : Addr).add i) = some u := by
  intro i u hu
  have hi : i < (xs.take k).length := by
    rcases Nat.lt_or_ge i (xs.take k).length with h | h
    · exact h
    · rw [List.getElem?_eq_none h] at hu; cases hu
  have hi2 : i < k ∧ i < xs.length := by simp at hi; omega
  have e : (⟨g, 0, none⟩ : Addr).add i = ⟨g, i, none⟩ := by unfold Addr.add; split <;> simp_all
  rw [e, h.cell (i := i) (by omega)]
  rw [List.getElem?_take_of_lt hi2.1] at hu
  rw [List.getD_eq_getElem?_getD, hu]; rfl
theorem cells_from {w : World} {g j k : Nat} {t : TypeId} {xs : List Value} (h : Own w g t j (fun i => xs.getD i default)) (hl : xs.length = j) :
    ∀ i u, (xs.drop k)[i]? = some u → w.cell? ((⟨g, k, none⟩ : Addr).add i) = some u := by
  intro i u hu
  rw [List.getElem?_drop] at hu
  have hi : k + i < xs.length := by
    rcases Nat.lt_or_ge (k + i) xs.length with h | h
    · exact h
    · rw [List.getElem?_eq_none h] at hu; cases hu
  have e : (⟨g, k, none⟩ : Addr).add i = ⟨g, k + i, none⟩ := by unfold Addr.add; split <;> simp_all
  rw [e, h.cell (i := k + i) (by omega), List.getD_eq_getElem?_getD, hu]; rfl

set_option maxRecDepth 20000 in
set_option maxHeartbeats 4000000 in
theorem voSorted_any (lo : Nat) (L : List (List Int)) (P0 : List (Value × List Int)) (A : Option Addr) (m cap : Nat) (w : World) (hs : m ≤ 512) (hp : Pairs lo P0 m L w) (hA : m = 0 ∨ ∃ g, A = some ⟨g, 0, none⟩ ∧ g < w.heap.size ∧ Own w g 22 m (fun i => (P0.map (·.1)).getD i default)) :
    Calls Try.prog 86 #[.slice A m cap] w fun e w' => ∃ B cp P, e = .returned (.slice B m cp) ∧ w'.ownsRow w.heap.size 22 1 (.slice B m cp) m (P.map (·.1)) ∧ Pairs lo P m (sortL L) w ∧ Below w.heap.size w w' := by
  obtain ⟨i0, hi0, hz0, hz1, hz2⟩ := info_parts infoInts
  have HP0 := Lib.hid hp
  have HA := Lib.hid hA
  have hLm : L.length = m := by rw [← hp.lists, List.length_map, hp.len]
  have HL := Lib.hid hLm
  clear hp hA hLm
  go_enter Try.func86, Try.ntmps86
  go_wp2
  go_loopw [3, 5, 6, 7, 10] (fun v _ _ _ i wr => ∃ (j : Nat) (B : Option Addr) (cp : Nat) (P : List (Value × List Int)), j ≤ m ∧ i = .int .i64 j ∧ v = .slice B j cp ∧ wr.ownsRow w.heap.size 22 1 (.slice B j cp) j (P.map (·.1)) ∧ Pairs lo P j (sortL (L.take j)) w ∧ Below w.heap.size w wr) (fun _ _ _ _ i _ => m - (intOf i).toNat)
  case atStart => exact ⟨0, none, 0, [], Nat.zero_le _, rfl, rfl, World.ownsRow_nil _ _ _ _, ⟨rfl, rfl, fun p hp => by cases hp⟩, Below.refl _ _⟩
  case round =>
    obtain ⟨j, B, cp, P, hj, rfl, rfl, ho, hP, hbr⟩ := hrel
    have HO := Lib.hid ho
    have HP := Lib.hid hP
    have hszr := hbr.size
    clear ho hP
    by_cases hlt : j < m
    · obtain ⟨g, rfl, hgl, hin⟩ : ∃ g, A = some ⟨g, 0, none⟩ ∧ g < w.heap.size ∧ Own w g 22 m (fun i => (P0.map (·.1)).getD i default) := by
        rcases HA.out with h | h
        · omega
        · exact h
      obtain ⟨x, hx, hr, hrl⟩ := HP0.out.at hlt
      have hcell : wr.cell? ⟨g, j, none⟩ = some x := by
        have := (Own.below hin hbr hgl).cell hlt
        rw [this, List.getD_eq_getElem?_getD, hx]; rfl
      obtain ⟨xa, xc, rfl⟩ : ∃ a c, x = .slice a (L.getD j []).length c := by obtain ⟨a, c, h, _⟩ := hr; exact ⟨a, c, h⟩
      have HR := Lib.hid hr
      have HRL := Lib.hid hrl
      have HM := Lib.hid (sortL_more L j (by have := HL.out; omega))
      obtain ⟨SL, hSL⟩ : ∃ SL, SL = sortL (L.take j) := ⟨_, rfl⟩
      rw [← hSL] at HM HP
      clear hSL hr hrl hx hin
      generalize hlx : L.getD j [] = lx at *
      clear hlx
      go_wp2_with fail
      go_loopw [6] (fun i wr => ∃ (k : Nat), k ≤ j ∧ i = .int .i64 k ∧ wr.ownsRow w.heap.size 22 1 (.slice B j cp) j (P.map (·.1)) ∧ (∀ i, i < k → before (SL.getD i []) lx = true) ∧ Below w.heap.size w wr) (fun i _ => j - (intOf i).toNat)
      case atStart => exact ⟨0, Nat.zero_le _, rfl, HO.out, fun i hi => by omega, hbr⟩
      case round =>
        obtain ⟨k, hk, rfl, ho2, hbef, hb2⟩ := hrel
        have HO2 := Lib.hid ho2
        have HBF := Lib.hid hbef
        have hsz2 := hb2.size
        clear ho2 hbef
        by_cases hlt2 : k < j
        · obtain ⟨gb, cb, hv, hgb, hcb, _⟩ := owns_head HO2.out (by omega)
          obtain ⟨rfl, rfl⟩ : B = some ⟨gb, 0, none⟩ ∧ cp = cb := by simpa using hv
          obtain ⟨y, hy, hry, hryl⟩ := HP.out.at hlt2
          have hcell2 : wr.cell? ⟨gb, k, none⟩ = some y := by
            have h1 := HO2.out.cells (g := gb) rfl k y hy
            have e : (⟨gb, 0, none⟩ : Addr).add k = ⟨gb, k, none⟩ := by unfold Addr.add; split <;> simp_all
            rw [← e]; exact h1
          have HRY := Lib.hid hry
          have hlt2' : (k : Int) < j := by omega
          clear hv hry hy hcell
          cases hbe : before (SL.getD k []) lx
          · have HBE := Lib.hid hbe
            clear hbe
            have HST := Lib.hid (show k = j ∨ before (SL.getD k []) lx = false from Or.inr HBE.out)
            have HPP := Lib.hid (HP.out.put hk HR.out HRL.out HBF.out HST.out)
            have HONE := Lib.hid HP.out.one
            have HPL := Lib.hid (show (P.map (·.1)).length = j from by rw [List.length_map, HP.out.len])
            have HXO2 := Lib.hid (show Own wr gb 22 j (fun i => (P.map (·.1)).getD i default) from Own.of_own HO2.out fun i hi => by
              rw [List.getElem?_eq_getElem (by rw [HPL.out]; exact hi), List.getD_eq_getElem?_getD, List.getElem?_eq_getElem (by rw [HPL.out]; exact hi)]; rfl)
            have hgb2 : gb < wr.heap.size := HXO2.out.lt
            have HPM := Lib.hid (show (P.take k ++ (.slice xa lx.length xc, lx) :: P.drop k).map (·.1) = (P.map (·.1)).take k ++ [.slice xa lx.length xc] ++ (P.map (·.1)).drop k from by simp [List.map_take, List.map_drop])
            have hjk : k + 1 + (j - k) = j + 1 := by omega
            have hkc : k ≤ cp := by omega
            have hkc' : (k : Int) ≤ cp := by omega
            have hkj' : (k : Int) ≤ j := by omega
            generalize P.map (·.1) = xs at *
            clear HST HBF HP
            go_wp2_with (first
              | (go_at_call 99; refine (voBefore_any y (.slice xa lx.length xc) (SL.getD k []) lx _ hryl HRL.out (HRY.out.up hb2) (HR.out.up hb2)).mono ?_; rintro e w5 ⟨rfl, hb5⟩; rw [HBE.out]; have b5 := hb2.trans (hb5.mono hsz2); have hsz5 := b5.size; have HXO := Lib.hid (HXO2.out.below hb5 hgb2); have hgbl := HXO.out.lt)
              | (at_builtin; refine wpList_append_own_at _ rfl _ _ _ rfl w.heap.size 22 i0 _ 1 24 Try.underlying48 hi0 hz0 hz1 hz2 rfl (by decide) (.slice (some ⟨w5.heap.size, 0, none⟩) 0 0) 0 [] rfl (owns_less (World.ownsRow_lit w5 #[] 0 (Nat.le_refl _) (by unfold maxLen; omega) rfl) (by omega)) ⟨gb, 0, none⟩ k cp (xs.take k) rfl (by rw [List.length_take, HPL.out]; omega) (cells_at (HXO.out.below (below1 _ _) hgbl) HPL.out) (fun u hu => HONE.out u (List.mem_of_mem_take hu)) (by unfold maxLen; omega) (by omega) (by simp; omega) ?_; intro v1 w6 hown6 hgrow6 hnil6 hat6; simp only [Nat.zero_add, List.nil_append] at hown6; have HO6 := Lib.hid hown6; clear hown6 hnil6; have b6 := (b5.alloc (by omega) (.cells #[] 22)).grown hgrow6 (by simp; omega) (fun i hi => by simp [Value.ownBlock] at hi; omega); have hsz6 := hgrow6.size; have hgb6 : gb < w6.heap.size := (by simp at hsz6; omega); have HX6 := Lib.hid ((HXO.out.below (below1 _ (.cells #[] 22)) hgbl).of_block (hgrow6.block gb (by simp; omega) (by simp [Value.ownBlock]; omega))); have HN6 := Lib.hid (show some gb ≠ v1.ownBlock from fun e => by rcases hat6 with h | h <;> (rw [h] at e; simp [Value.ownBlock] at e; omega)); have HLE6 := Lib.hid (fun i hi => owns_le HO6.out (k := i) hi); clear hat6 hgrow6; simp only [World.size_alloc] at hsz6)
              | (at_builtin; refine wpList_append_lies _ rfl _ _ _ rfl w.heap.size 22 i0 _ 1 24 Try.underlying48 hi0 hz0 hz1 hz2 rfl (by decide) v1 k (xs.take k) rfl (HO6.out.alloc _) ⟨w6.heap.size, 0, none⟩ 1 1 [.slice xa lx.length xc] rfl rfl (World.news_of_block (cs := #[.slice xa lx.length xc]) (t := 22) (fr := (0, 0)) (heap_alloc_new w6 _)) (by simp [HR.out.one]) (by omega) (by unfold maxLen; omega) (by omega) (by simp; omega) (w6.heap.size + 1) (by simp) ?_; intro g7 c7 w7 hown7 hgrow7 hat7 hlt7; have HO7 := Lib.hid hown7; clear hown7; have b7 := (b6.alloc (by omega) (.cells #[.slice xa lx.length xc] 22)).grown hgrow7 (by simp; omega) HLE6.out; have hsz7 := hgrow7.size; have HX7 := Lib.hid ((HX6.out.below (below1 _ (.cells #[.slice xa lx.length xc] 22)) hgb6).of_block (hgrow7.block gb (by simp; omega) HN6.out)); clear hgrow7 hat7; simp only [World.size_alloc] at hsz7)
              | (at_builtin; refine wpList_append_own_at _ rfl _ _ _ rfl w.heap.size 22 i0 _ 1 24 Try.underlying48 hi0 hz0 hz1 hz2 rfl (by decide) (.slice (some ⟨g7, 0, none⟩) (k + 1) c7) (k + 1) (xs.take k ++ [.slice xa lx.length xc]) rfl HO7.out ⟨gb, k, none⟩ (j - k) (cp - k) (xs.drop k) rfl (by rw [List.length_drop, HPL.out]; omega) (cells_from HX7.out HPL.out) (fun u hu => HONE.out u (List.mem_of_mem_drop hu)) (by unfold maxLen; omega) (by omega) (by omega) ?_; intro v8 w8 hown8 hgrow8 hnil8 hat8; have b8 := b7.grown hgrow8 (by omega) (fun i hi => owns_le HO7.out hi); rw [hjk, ← HPM.out] at hown8; obtain ⟨g8, c8, rfl, hg8, _, _⟩ := owns_head hown8 (by omega); have HO8 := Lib.hid hown8; clear hown8 hgrow8 hnil8 hat8))
            go_roundw
            case rel => exact ⟨j + 1, some ⟨g8, 0, none⟩, c8, P.take k ++ (.slice xa lx.length xc, lx) :: P.drop k, by omega, by go_num, by simp, HO8.out, by rw [HM.out]; exact HPP.out, b8⟩
            case measure => simp [intOf]; omega
          · have HBE := Lib.hid hbe
            clear hbe
            go_wp2_with (go_at_call 99; refine (voBefore_any y (.slice xa lx.length xc) (SL.getD k []) lx _ hryl HRL.out (HRY.out.up hb2) (HR.out.up hb2)).mono ?_; rintro e w5 ⟨rfl, hb5⟩; rw [HBE.out]; have HO5 := Lib.hid (owns_now HO2.out hb5); have b5 := hb2.trans (hb5.mono hsz2); have hsz5 := b5.size)
            go_roundw
            case rel => exact ⟨k + 1, by omega, by go_num, HO5.out, fun i hi => by
              by_cases e : i = k
              · subst e; exact HBE.out
              · exact HBF.out i (by omega), b5⟩
            case measure => simp [intOf]; omega
        · have hkj : k = j := by omega
          have hlt2' : ¬ (k : Int) < j := by omega
          rcases HO2.out.2 with ⟨hv, hn⟩ | ⟨gb, cb, cur, hv, hgb, hh, hcb, hcm, _⟩
          · obtain ⟨rfl, rfl, rfl⟩ : B = none ∧ j = 0 ∧ cp = 0 := by simpa using hv
            obtain rfl : k = 0 := by omega
            have HPP := Lib.hid (HP.out.put (Nat.le_refl 0) HR.out HRL.out HBF.out (Or.inl rfl))
            have HPM := Lib.hid (show (P.take 0 ++ (.slice xa lx.length xc, lx) :: P.drop 0).map (·.1) = [.slice xa lx.length xc] from by
              have : P = [] := List.length_eq_zero_iff.1 HP.out.len
              subst this; rfl)
            have HLIT := Lib.hid (show (wr.alloc (.cells #[] 22)).ownsRow w.heap.size 22 1 (.slice (some ⟨wr.heap.size, 0, none⟩) 0 0) 0 [] from owns_less (World.ownsRow_lit wr #[] 0 (Nat.le_refl _) (by unfold maxLen; omega) rfl) (by omega))
            have b6 := hb2.alloc hsz2 (.cells #[] 22)
            clear HO2 hcell
            go_wp2_with (first
              | (at_builtin; refine wpList_append_own_none rfl _ _ _ rfl w.heap.size 22 i0 1 Try.underlying48 hi0 (.slice (some ⟨wr.heap.size, 0, none⟩) 0 0) 0 [] rfl HLIT.out rfl ?_)
              | (at_builtin; refine wpList_append_lies _ rfl _ _ _ rfl w.heap.size 22 i0 _ 1 24 Try.underlying48 hi0 hz0 hz1 hz2 rfl (by decide) (.slice (some ⟨wr.heap.size, 0, none⟩) 0 0) 0 [] rfl (HLIT.out.alloc _) ⟨wr.heap.size + 1, 0, none⟩ 1 1 [.slice xa lx.length xc] rfl rfl (World.news_of_block (cs := #[.slice xa lx.length xc]) (t := 22) (fr := (0, 0)) (by have := heap_alloc_new (wr.alloc (.cells #[] 22)) (.cells #[.slice xa lx.length xc] 22); simpa using this)) (by simp [HR.out.one]) (by omega) (by unfold maxLen; omega) (by omega) (by simp; omega) (wr.heap.size + 2) (by simp) ?_; intro g7 c7 w7 hown7 hgrow7 hat7 hlt7; simp only [Nat.zero_add, List.nil_append] at hown7; have HO7 := Lib.hid hown7; clear hown7; have b7 := (b6.alloc (by simp; omega) (.cells #[.slice xa lx.length xc] 22)).grown hgrow7 (by simp; omega) (fun i hi => owns_le HLIT.out hi); clear hgrow7 hat7)
              | (at_builtin; refine wpList_append_own_none rfl _ _ _ rfl w.heap.size 22 i0 1 Try.underlying48 hi0 (.slice (some ⟨g7, 0, none⟩) 1 c7) 1 [.slice xa lx.length xc] rfl HO7.out rfl ?_))
            go_roundw
            case rel => exact ⟨1, some ⟨g7, 0, none⟩, c7, P.take 0 ++ (.slice xa lx.length xc, lx) :: P.drop 0, by omega, by go_num, by simp, by rw [HPM.out]; exact HO7.out, by rw [HM.out]; exact HPP.out, b7⟩
            case measure => simp [intOf]; omega
          · obtain ⟨rfl, rfl⟩ : B = some ⟨gb, 0, none⟩ ∧ cp = cb := by simpa using hv
            have HKJ := Lib.hid hkj
            clear hv hcell hh hkj
            have HST := Lib.hid (show k = j ∨ before (SL.getD k []) lx = false from Or.inl HKJ.out)
            have HPP := Lib.hid (HP.out.put hk HR.out HRL.out HBF.out HST.out)
            have HONE := Lib.hid HP.out.one
            have HPL := Lib.hid (show (P.map (·.1)).length = j from by rw [List.length_map, HP.out.len])
            have HXO2 := Lib.hid (show Own wr gb 22 j (fun i => (P.map (·.1)).getD i default) from Own.of_own HO2.out fun i hi => by
              rw [List.getElem?_eq_getElem (by rw [HPL.out]; exact hi), List.getD_eq_getElem?_getD, List.getElem?_eq_getElem (by rw [HPL.out]; exact hi)]; rfl)
            have hgb2 : gb < wr.heap.size := HXO2.out.lt
            have HPM := Lib.hid (show (P.take k ++ (.slice xa lx.length xc, lx) :: P.drop k).map (·.1) = (P.map (·.1)).take k ++ [.slice xa lx.length xc] ++ (P.map (·.1)).drop k from by simp [List.map_take, List.map_drop])
            have hjk : k + 1 + (j - k) = j + 1 := by omega
            have hkc : k ≤ cp := by omega
            have hkc' : (k : Int) ≤ cp := by omega
            have hkj' : (k : Int) ≤ j := by omega
            generalize P.map (·.1) = xs at *
            clear HST HBF HP
            rcases Nat.lt_or_ge k cp with hkq | hkq
            · have hkq' : (k : Int) < cp := by omega
              go_wp2_with (first
                | (at_builtin; refine wpList_append_own_at _ rfl _ _ _ rfl w.heap.size 22 i0 _ 1 24 Try.underlying48 hi0 hz0 hz1 hz2 rfl (by decide) (.slice (some ⟨wr.heap.size, 0, none⟩) 0 0) 0 [] rfl (owns_less (World.ownsRow_lit wr #[] 0 (Nat.le_refl _) (by unfold maxLen; omega) rfl) (by omega)) ⟨gb, 0, none⟩ k cp (xs.take k) rfl (by rw [List.length_take, HPL.out]; omega) (cells_at (HXO2.out.below (below1 _ _) hgb2) HPL.out) (fun u hu => HONE.out u (List.mem_of_mem_take hu)) (by unfold maxLen; omega) (by omega) (by simp; omega) ?_; intro v1 w6 hown6 hgrow6 hnil6 hat6; simp only [Nat.zero_add, List.nil_append] at hown6; have HO6 := Lib.hid hown6; clear hown6 hnil6; have b6 := (hb2.alloc (by omega) (.cells #[] 22)).grown hgrow6 (by simp; omega) (fun i hi => by simp [Value.ownBlock] at hi; omega); have hsz6 := hgrow6.size; have hgb6 : gb < w6.heap.size := (by simp at hsz6; omega); have HX6 := Lib.hid ((HXO2.out.below (below1 _ (.cells #[] 22)) hgb2).of_block (hgrow6.block gb (by simp; omega) (by simp [Value.ownBlock]; omega))); have HN6 := Lib.hid (show some gb ≠ v1.ownBlock from fun e => by rcases hat6 with h | h <;> (rw [h] at e; simp [Value.ownBlock] at e; omega)); have HLE6 := Lib.hid (fun i hi => owns_le HO6.out (k := i) hi); clear hat6 hgrow6; simp only [World.size_alloc] at hsz6)
                | (at_builtin; refine wpList_append_lies _ rfl _ _ _ rfl w.heap.size 22 i0 _ 1 24 Try.underlying48 hi0 hz0 hz1 hz2 rfl (by decide) v1 k (xs.take k) rfl (HO6.out.alloc _) ⟨w6.heap.size, 0, none⟩ 1 1 [.slice xa lx.length xc] rfl rfl (World.news_of_block (cs := #[.slice xa lx.length xc]) (t := 22) (fr := (0, 0)) (heap_alloc_new w6 _)) (by simp [HR.out.one]) (by omega) (by unfold maxLen; omega) (by omega) (by simp; omega) (w6.heap.size + 1) (by simp) ?_; intro g7 c7 w7 hown7 hgrow7 hat7 hlt7; have HO7 := Lib.hid hown7; clear hown7; have b7 := (b6.alloc (by omega) (.cells #[.slice xa lx.length xc] 22)).grown hgrow7 (by simp; omega) HLE6.out; have hsz7 := hgrow7.size; have HX7 := Lib.hid ((HX6.out.below (below1 _ (.cells #[.slice xa lx.length xc] 22)) hgb6).of_block (hgrow7.block gb (by simp; omega) HN6.out)); clear hgrow7 hat7; simp only [World.size_alloc] at hsz7)
                | (at_builtin; refine wpList_append_own_at _ rfl _ _ _ rfl w.heap.size 22 i0 _ 1 24 Try.underlying48 hi0 hz0 hz1 hz2 rfl (by decide) (.slice (some ⟨g7, 0, none⟩) (k + 1) c7) (k + 1) (xs.take k ++ [.slice xa lx.length xc]) rfl HO7.out ⟨gb, k, none⟩ (j - k) (cp - k) (xs.drop k) rfl (by rw [List.length_drop, HPL.out]; omega) (cells_from HX7.out HPL.out) (fun u hu => HONE.out u (List.mem_of_mem_drop hu)) (by unfold maxLen; omega) (by omega) (by omega) ?_; intro v8 w8 hown8 hgrow8 hnil8 hat8; have b8 := b7.grown hgrow8 (by omega) (fun i hi => owns_le HO7.out hi); rw [hjk, ← HPM.out] at hown8; obtain ⟨g8, c8, rfl, hg8, _, _⟩ := owns_head hown8 (by omega); have HO8 := Lib.hid hown8; clear hown8 hgrow8 hnil8 hat8))
              go_roundw
              case rel => exact ⟨j + 1, some ⟨g8, 0, none⟩, c8, P.take k ++ (.slice xa lx.length xc, lx) :: P.drop k, by omega, by go_num, by simp, HO8.out, by rw [HM.out]; exact HPP.out, b8⟩
              case measure => simp [intOf]; omega
            · obtain rfl : k = cp := by omega
              have HKJ1 := Lib.hid (show k + 1 = j + 1 by omega)
              have HPM2 := Lib.hid (HPM.out.trans (by rw [List.drop_eq_nil_of_le (show xs.length ≤ k by rw [HPL.out]; omega), List.append_nil]))
              go_wp2_with (first
                | (at_builtin; refine wpList_append_own_at _ rfl _ _ _ rfl w.heap.size 22 i0 _ 1 24 Try.underlying48 hi0 hz0 hz1 hz2 rfl (by decide) (.slice (some ⟨wr.heap.size, 0, none⟩) 0 0) 0 [] rfl (owns_less (World.ownsRow_lit wr #[] 0 (Nat.le_refl _) (by unfold maxLen; omega) rfl) (by omega)) ⟨gb, 0, none⟩ k k (xs.take k) rfl (by rw [List.length_take, HPL.out]; omega) (cells_at (HXO2.out.below (below1 _ _) hgb2) HPL.out) (fun u hu => HONE.out u (List.mem_of_mem_take hu)) (by unfold maxLen; omega) (by omega) (by simp; omega) ?_; intro v1 w6 hown6 hgrow6 hnil6 hat6; simp only [Nat.zero_add, List.nil_append] at hown6; have HO6 := Lib.hid hown6; clear hown6 hnil6; have b6 := (hb2.alloc (by omega) (.cells #[] 22)).grown hgrow6 (by simp; omega) (fun i hi => by simp [Value.ownBlock] at hi; omega); have hsz6 := hgrow6.size; have hgb6 : gb < w6.heap.size := (by simp at hsz6; omega); have HX6 := Lib.hid ((HXO2.out.below (below1 _ (.cells #[] 22)) hgb2).of_block (hgrow6.block gb (by simp; omega) (by simp [Value.ownBlock]; omega))); have HN6 := Lib.hid (show some gb ≠ v1.ownBlock from fun e => by rcases hat6 with h | h <;> (rw [h] at e; simp [Value.ownBlock] at e; omega)); have HLE6 := Lib.hid (fun i hi => owns_le HO6.out (k := i) hi); clear hat6 hgrow6; simp only [World.size_alloc] at hsz6)
                | (at_builtin; refine wpList_append_lies _ rfl _ _ _ rfl w.heap.size 22 i0 _ 1 24 Try.underlying48 hi0 hz0 hz1 hz2 rfl (by decide) v1 k (xs.take k) rfl (HO6.out.alloc _) ⟨w6.heap.size, 0, none⟩ 1 1 [.slice xa lx.length xc] rfl rfl (World.news_of_block (cs := #[.slice xa lx.length xc]) (t := 22) (fr := (0, 0)) (heap_alloc_new w6 _)) (by simp [HR.out.one]) (by omega) (by unfold maxLen; omega) (by omega) (by simp; omega) (w6.heap.size + 1) (by simp) ?_; intro g7 c7 w7 hown7 hgrow7 hat7 hlt7; have HO7 := Lib.hid hown7; clear hown7; have b7 := (b6.alloc (by omega) (.cells #[.slice xa lx.length xc] 22)).grown hgrow7 (by simp; omega) HLE6.out; have hsz7 := hgrow7.size; have HX7 := Lib.hid ((HX6.out.below (below1 _ (.cells #[.slice xa lx.length xc] 22)) hgb6).of_block (hgrow7.block gb (by simp; omega) HN6.out)); clear hgrow7 hat7; simp only [World.size_alloc] at hsz7)
                | (at_builtin; refine wpList_append_own_at _ rfl _ _ _ rfl w.heap.size 22 i0 _ 1 24 Try.underlying48 hi0 hz0 hz1 hz2 rfl (by decide) (.slice (some ⟨g7, 0, none⟩) (k + 1) c7) (k + 1) (xs.take k ++ [.slice xa lx.length xc]) rfl HO7.out ⟨gb, 0, none⟩ 0 0 [] rfl rfl (fun i u hu => by simp at hu) (fun u hu => by simp at hu) (by unfold maxLen; omega) (by omega) (by omega) ?_; intro v8 w8 hown8 hgrow8 hnil8 hat8; have b8 := b7.grown hgrow8 (by omega) (fun i hi => owns_le HO7.out hi); simp only [Nat.add_zero, List.append_nil] at hown8; rw [HKJ1.out, ← HPM2.out] at hown8; obtain ⟨g8, c8, rfl, hg8, _, _⟩ := owns_head hown8 (by omega); have HO8 := Lib.hid hown8; clear hown8 hgrow8 hnil8 hat8))
              go_roundw
              case rel => exact ⟨j + 1, some ⟨g8, 0, none⟩, c8, P.take k ++ (.slice xa lx.length xc, lx) :: P.drop k, by omega, by go_num, by simp, HO8.out, by rw [HM.out]; exact HPP.out, b8⟩
              case measure => simp [intOf]; omega
    · obtain rfl : j = m := by omega
      go_wp2
      go_ret
      exact ⟨B, cp, P, rfl, HO.out, by have h := HP.out; rw [← HL.out, List.take_length] at h; rw [← HL.out]; exact h, hbr⟩
end Go.Proofs.Ytibmaofcnibjnaa
