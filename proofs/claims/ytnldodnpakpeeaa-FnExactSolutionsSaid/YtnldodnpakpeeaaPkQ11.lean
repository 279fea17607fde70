/- Texts of T2, T4. -/
import Derived.Test.YtnldodnpakpeeaaPkQ10
import Derived.Maps.AppendAt
import Derived.Laws.AppendOwnNone
import Derived.Test.YtnldodnpakpeeaaPkQ04
import Derived.Test.YtnldodnpakpeeaaPkQ07
import Derived.Outline
namespace Go.Proofs.Ytnldodnpakpeeaa
open Go.RowKit Vo

theorem ins_at {x : List Int} {l : List (List Int)} {k : Nat} (hk : k ≤ l.length) (h : ∀ i, i < k → before (l.getD i []) x = true) (he : k = l.length ∨ before (l.getD k []) x = false) :
    ins x l = l.take k ++ x :: l.drop k := by
  induction l generalizing k with
  | nil => cases k <;> simp [ins]
  | cons y l ih =>
    cases k with
    | zero =>
      rcases he with he | he
      · simp at he
      · simp at he; simp [ins, he]
    | succ k =>
      have h0 := h 0 (by omega)
      simp only [List.getD_cons_zero] at h0
      simp only [ins, h0, if_true, List.take_succ_cons, List.drop_succ_cons, List.cons_append]
      rw [ih (k := k) (by simpa using hk) (fun i hi => by have := h (i+1) (by omega); simpa using this) (by simpa using he)]
theorem sortL_more (L : List (List Int)) (j : Nat) (hj : j < L.length) : sortL (L.take (j+1)) = ins (L.getD j []) (sortL (L.take j)) := by
  unfold sortL
  rw [List.take_add_one, List.getElem?_eq_getElem hj, List.getD_eq_getElem?_getD, List.getElem?_eq_getElem hj, List.foldl_append]
  rfl
theorem ins_len (x : List Int) (l : List (List Int)) : (ins x l).length = l.length + 1 := by
  induction l with
  | nil => rfl
  | cons y l ih => simp only [ins]; split <;> simp [ih]
theorem sortL_len (L : List (List Int)) : (sortL L).length = L.length := by
  have : ∀ out : List (List Int), (L.foldl (fun out x => ins x out) out).length = out.length + L.length := by
    induction L with
    | nil => intro out; rfl
    | cons x L ih => intro out; simp only [List.foldl_cons, ih, ins_len, List.length_cons]; omega
  simpa [sortL] using this []

/-- Values with the lists that they read as. -/
structure Pairs (lo : Nat) (P : List (Value × List Int)) (j : Nat) (L : List (List Int)) (w : World) : Prop where
  len : P.length = j
  lists : P.map (·.2) = L
  reads : ∀ p ∈ P, RI p.2 lo w.heap.size p.1 w ∧ p.2.length ≤ 1048576
theorem RI.one {l : List Int} {lo hi : Nat} {v : Value} {w : World} (h : RI l lo hi v w) : v.oneCell' = true := by
  obtain ⟨A, cap, rfl, _⟩ := h; rfl
theorem RI.up {l : List Int} {lo lo' : Nat} {v : Value} {w w' : World} (h : RI l lo w.heap.size v w) (hb : Below w.heap.size w w') (hlo : lo' ≤ lo := by first | exact Nat.zero_le _ | exact Nat.le_refl _ | omega) : RI l lo' w'.heap.size v w' :=
  (h.keep (Or.inr fun k _ k2 => hb.block k k2)).wide (Or.inr ⟨hlo, hb.size⟩)
theorem Pairs.one {lo : Nat} {P : List (Value × List Int)} {j : Nat} {L : List (List Int)} {w : World} (h : Pairs lo P j L w) : ∀ u ∈ P.map (·.1), u.oneCell' = true := by
  intro u hu
  obtain ⟨p, hp, rfl⟩ := List.mem_map.1 hu
  exact (h.reads p hp).1.one
theorem Pairs.put {lo : Nat} {P : List (Value × List Int)} {j : Nat} {L : List (List Int)} {w : World} (h : Pairs lo P j L w) {k : Nat} (hk : k ≤ j) {x : Value} {l : List Int} (hx : RI l lo w.heap.size x w) (hl : l.length ≤ 1048576)
    (hb : ∀ i, i < k → before (L.getD i []) l = true) (he : k = j ∨ before (L.getD k []) l = false) : Pairs lo (P.take k ++ (x, l) :: P.drop k) (j + 1) (ins l L) w := by
  obtain ⟨h1, h2, h3⟩ := h
  subst h2
  refine ⟨by simp; omega, ?_, fun p hp => ?_⟩
  · rw [ins_at (k := k) (by simp; omega) hb (by simpa [h1] using he)]
    simp [List.map_take, List.map_drop]
  · rcases List.mem_append.1 hp with e | e
    · exact h3 p (List.mem_of_mem_take e)
    · rcases List.mem_cons.1 e with e | e
      · subst e; exact ⟨hx, hl⟩
      · exact h3 p (List.mem_of_mem_drop e)
theorem Pairs.at {lo : Nat} {P : List (Value × List Int)} {j : Nat} {L : List (List Int)} {w : World} (h : Pairs lo P j L w) {k : Nat} (hk : k < j) : ∃ x, (P.map (·.1))[k]? = some x ∧ RI (L.getD k []) lo w.heap.size x w ∧ (L.getD k []).length ≤ 1048576 := by
  obtain ⟨h1, h2, h3⟩ := h
  subst h2
  have hkP : k < P.length := by omega
  refine ⟨P[k].1, by simp [hkP], ?_⟩
  rw [List.getD_eq_getElem?_getD, List.getElem?_map, List.getElem?_eq_getElem hkP]
  exact h3 _ (List.getElem_mem hkP)
theorem Pairs.rss {lo : Nat} {P : List (Value × List Int)} {j : Nat} {L : List (List Int)} {w w' : World} (h : Pairs lo P j L w) {base : Nat} {B : Option Addr} {cp : Nat} (ho : w'.ownsRow base 35 1 (.slice B j cp) j (P.map (·.1))) (hb : Below w.heap.size w w') (lo' : Nat) (hlo : lo' ≤ lo) (hbase : lo' ≤ base) :
    RSS0 L lo' w'.heap.size (.slice B j cp) w' := by
  have hL : L.length = j := by rw [← h.lists, List.length_map, h.len]
  refine ⟨B, cp, by rw [hL], ?_⟩
  by_cases hj : j = 0
  · exact Or.inl (by omega)
  · obtain ⟨g, cap', hv, hg, _, _⟩ := owns_head ho (by omega)
    injection hv with hA _ hc
    subst hA
    have hgl := owns_lt ho (k := g) rfl
    refine Or.inr ⟨g, fun i => (P.map (·.1)).getD i default, rfl, by omega, hgl, ?_, fun i hi => ?_⟩
    · rw [hL]
      exact Own.of_own ho fun i hi => by
        obtain ⟨x, hx, _⟩ := h.at hi
        rw [hx, List.getD_eq_getElem?_getD, hx]; rfl
    · obtain ⟨x, hx, hr, _⟩ := h.at (k := i) (by omega)
      show RI _ _ _ ((P.map (·.1)).getD i default) w'
      rw [show (P.map (·.1)).getD i default = x from by rw [List.getD_eq_getElem?_getD, hx]; rfl]
      exact hr.up hb hlo

theorem cells_at {w : World} {g j k : Nat} {t : TypeId} {xs : List Value} (h : Own w g t j (fun i => xs.getD i default)) (hl : xs.length = j) :
    ∀ i u, (xs.take k)[i]? = some u → w.cell? ((⟨g, 0, none⟩ : Addr).add i) = some u := by
  intro i u hu
  have hi : i < (xs.take k).length := by
    rcases Nat.lt_or_ge i (xs.take k).length with h | h
    · exact h
    · rw [List.getElem?_eq_none h] at hu; cases hu
  have hi2 : i < k ∧ i < xs.length := by simp at hi; omega
  have e : (⟨g, 0, none⟩ : Addr).add i = ⟨g, i, none⟩ := by unfold Addr.add; split <;> simp_all
  rw [e, h.cell (i := i) (by omega)]
  rw [List.getElem?_take_of_lt hi2.1] at hu
  rw [List.getD_eq_getElem?_getD, hu]; rfl
theorem cells_from {w : World} {g j k : Nat} {t : TypeId} {xs : List Value} (h : Own w g t j (fun i => xs.getD i default)) (hl : xs.length = j) :
    ∀ i u, (xs.drop k)[i]? = some u → w.cell? ((⟨g, k, none⟩ : Addr).add i) = some u := by
  intro i u hu
  rw [List.getElem?_drop] at hu
  have hi : k + i < xs.length := by
    rcases Nat.lt_or_ge (k + i) xs.length with h | h
    · exact h
    · rw [List.getElem?_eq_none h] at hu; cases hu
  have e : (⟨g, k, none⟩ : Addr).add i = ⟨g, k + i, none⟩ := by unfold Addr.add; split <;> simp_all
  rw [e, h.cell (i := k + i) (by omega), List.getD_eq_getElem?_getD, hu]; rfl

set_option maxRecDepth 20000 in
set_option maxHeartbeats 4000000 in
theorem voSorted_any (lo : Nat) (L : List (List Int)) (P0 : List (Value × List Int)) (A : Option Addr) (m cap : Nat) (w : World) (hs : m ≤ 512) (hp : Pairs lo P0 m L w) (hA : m = 0 ∨ ∃ g, A = some ⟨g, 0, none⟩ ∧ g < w.heap.size ∧ Own w g 35 m (fun i => (P0.map (·.1)).getD i default)) :
    Calls Try.prog 103 #[.slice A m cap] w fun e w' => ∃ B cp P, e = .returned (.slice B m cp) ∧ w'.ownsRow w.heap.size 35 1 (.slice B m cp) m (P.map (·.1)) ∧ Pairs lo P m (sortL L) w ∧ Below w.heap.size w w' := by
  obtain ⟨i0, hi0, hz0, hz1, hz2⟩ := info_parts infoInts
  have HP0 := Lib.hid hp
  have HA := Lib.hid hA
  have hLm : L.length = m := by rw [← hp.lists, List.length_map, hp.len]
  have HL := Lib.hid hLm
  clear hp hA hLm
  go_enter Try.func103, Try.ntmps103
  go_wp2
  go_loopw [3, 5, 6, 7, 10] (fun v _ _ _ i wr => ∃ (j : Nat) (B : Option Addr) (cp : Nat) (P : List (Value × List Int)), j ≤ m ∧ i = .int .i64 j ∧ v = .slice B j cp ∧ wr.ownsRow w.heap.size 35 1 (.slice B j cp) j (P.map (·.1)) ∧ Pairs lo P j (sortL (L.take j)) w ∧ Below w.heap.size w wr) (fun _ _ _ _ i _ => m - (intOf i).toNat)
  case atStart => exact ⟨0, none, 0, [], Nat.zero_le _, rfl, rfl, World.ownsRow_nil _ _ _ _, ⟨rfl, rfl, fun p hp => by cases hp⟩, Below.refl _ _⟩
  case round =>
    obtain ⟨j, B, cp, P, hj, rfl, rfl, ho, hP, hbr⟩ := hrel
    have HO := Lib.hid ho
    have HP := Lib.hid hP
    have hszr := hbr.size
    clear ho hP
    by_cases hlt : j < m
    · obtain ⟨g, rfl, hgl, hin⟩ : ∃ g, A = some ⟨g, 0, none⟩ ∧ g < w.heap.size ∧ Own w g 35 m (fun i => (P0.map (·.1)).getD i default) := by
        rcases HA.out with h | h
        · omega
        · exact h
      obtain ⟨x, hx, hr, hrl⟩ := HP0.out.at hlt
      have hcell : wr.cell? ⟨g, j, none⟩ = some x := by
        have := (Own.below hin hbr hgl).cell hlt
        rw [this, List.getD_eq_getElem?_getD, hx]; rfl
      obtain ⟨xa, xc, rfl⟩ : ∃ a c, x = .slice a (L.getD j []).length c := by obtain ⟨a, c, h, _⟩ := hr; exact ⟨a, c, h⟩
      have HR := Lib.hid hr
      have HRL := Lib.hid hrl
      have HM := Lib.hid (sortL_more L j (by have := HL.out; omega))
      obtain ⟨SL, hSL⟩ : ∃ SL, SL = sortL (L.take j) := ⟨_, rfl⟩
      rw [← hSL] at HM HP
      clear hSL hr hrl hx hin
      generalize hlx : L.getD j [] = lx at *
      clear hlx
      go_wp2_with fail
      go_loopw [6] (fun i wr => ∃ (k : Nat), k ≤ j ∧ i = .int .i64 k ∧ wr.ownsRow w.heap.size 35 1 (.slice B j cp) j (P.map (·.1)) ∧ (∀ i, i < k → before (SL.getD i []) lx = true) ∧ Below w.heap.size w wr) (fun i _ => j - (intOf i).toNat)
      case atStart => exact ⟨0, Nat.zero_le _, rfl, HO.out, fun i hi => by omega, hbr⟩
      case round =>
        obtain ⟨k, hk, rfl, ho2, hbef, hb2⟩ := hrel
        have HO2 := Lib.hid ho2
        have HBF := Lib.hid hbef
        have hsz2 := hb2.size
        clear ho2 hbef
        by_cases hlt2 : k < j
        · obtain ⟨gb, cb, hv, hgb, hcb, _⟩ := owns_head HO2.out (by omega)
          obtain ⟨rfl, rfl⟩ : B = some ⟨gb, 0, none⟩ ∧ cp = cb := by simpa using hv
          obtain ⟨y, hy, hry, hryl⟩ := HP.out.at hlt2
          have hcell2 : wr.cell? ⟨gb, k, none⟩ = some y := by
            have h1 := HO2.out.cells (g := gb) rfl k y hy
            have e : (⟨gb, 0, none⟩ : Addr).add k = ⟨gb, k, none⟩ := by unfold Addr.add; split <;> simp_all
            rw [← e]; exact h1
          have HRY := Lib.hid hry
          have hlt2' : (k : Int) < j := by omega
          clear hv hry hy hcell
          cases hbe : before (SL.getD k []) lx
          · have HBE := Lib.hid hbe
            clear hbe
            have HST := Lib.hid (show k = j ∨ before (SL.getD k []) lx = false from Or.inr HBE.out)
            have HPP := Lib.hid (HP.out.put hk HR.out HRL.out HBF.out HST.out)
            have HONE := Lib.hid HP.out.one
            have HPL := Lib.hid (show (P.map (·.1)).length = j from by rw [List.length_map, HP.out.len])
            have HXO2 := Lib.hid (show Own wr gb 35 j (fun i => (P.map (·.1)).getD i default) from Own.of_own HO2.out fun i hi => by
              rw [List.getElem?_eq_getElem (by rw [HPL.out]; exact hi), List.getD_eq_getElem?_getD, List.getElem?_eq_getElem (by rw [HPL.out]; exact hi)]; rfl)
            have hgb2 : gb < wr.heap.size := HXO2.out.lt
            have HPM := Lib.hid (show (P.take k ++ (.slice xa lx.length xc, lx) :: P.drop k).map (·.1) = (P.map (·.1)).take k ++ [.slice xa lx.length xc] ++ (P.map (·.1)).drop k from by simp [List.map_take, List.map_drop])
            have hjk : k + 1 + (j - k) = j + 1 := by omega
            have hkc : k ≤ cp := by omega
            have hkc' : (k : Int) ≤ cp := by omega
            have hkj' : (k : Int) ≤ j := by omega
            generalize P.map (·.1) = xs at *
            clear HST HBF HP
            go_wp2_with (first
              | (go_at_call 114; refine (voBefore_any y (.slice xa lx.length xc) (SL.getD k []) lx _ hryl HRL.out (HRY.out.up hb2) (HR.out.up hb2)).mono ?_; rintro e w5 ⟨rfl, hb5⟩; rw [HBE.out]; have b5 := hb2.trans (hb5.mono hsz2); have hsz5 := b5.size; have HXO := Lib.hid (HXO2.out.below hb5 hgb2); have hgbl := HXO.out.lt)
              | (at_builtin; refine wpList_append_own_at _ rfl _ _ _ rfl w.heap.size 35 i0 _ 1 24 Try.underlying42 hi0 hz0 hz1 hz2 rfl (by decide) (.slice (some ⟨w5.heap.size, 0, none⟩) 0 0) 0 [] rfl (owns_less (World.ownsRow_lit w5 #[] 0 (Nat.le_refl _) (by unfold maxLen; omega) rfl) (by omega)) ⟨gb, 0, none⟩ k cp (xs.take k) rfl (by rw [List.length_take, HPL.out]; omega) (cells_at (HXO.out.below (below1 _ _) hgbl) HPL.out) (fun u hu => HONE.out u (List.mem_of_mem_take hu)) (by unfold maxLen; omega) (by omega) (by simp; omega) ?_; intro v1 w6 hown6 hgrow6 hnil6 hat6; simp only [Nat.zero_add, List.nil_append] at hown6; have HO6 := Lib.hid hown6; clear hown6 hnil6; have b6 := (b5.alloc (by omega) (.cells #[] 35)).grown hgrow6 (by simp; omega) (fun i hi => by simp [Value.ownBlock] at hi; omega); have hsz6 := hgrow6.size; have hgb6 : gb < w6.heap.size := (by simp at hsz6; omega); have HX6 := Lib.hid ((HXO.out.below (below1 _ (.cells #[] 35)) hgbl).of_block (hgrow6.block gb (by simp; omega) (by simp [Value.ownBlock]; omega))); have HN6 := Lib.hid (show some gb ≠ v1.ownBlock from fun e => by rcases hat6 with h | h <;> (rw [h] at e; simp [Value.ownBlock] at e; omega)); have HLE6 := Lib.hid (fun i hi => owns_le HO6.out (k := i) hi); clear hat6 hgrow6; simp only [World.size_alloc] at hsz6)
              | (at_builtin; refine wpList_append_lies _ rfl _ _ _ rfl w.heap.size 35 i0 _ 1 24 Try.underlying42 hi0 hz0 hz1 hz2 rfl (by decide) v1 k (xs.take k) rfl (HO6.out.alloc _) ⟨w6.heap.size, 0, none⟩ 1 1 [.slice xa lx.length xc] rfl rfl (World.news_of_block (cs := #[.slice xa lx.length xc]) (t := 35) (fr := (0, 0)) (heap_alloc_new w6 _)) (by simp [HR.out.one]) (by omega) (by unfold maxLen; omega) (by omega) (by simp; omega) (w6.heap.size + 1) (by simp) ?_; intro g7 c7 w7 hown7 hgrow7 hat7 hlt7; have HO7 := Lib.hid hown7; clear hown7; have b7 := (b6.alloc (by omega) (.cells #[.slice xa lx.length xc] 35)).grown hgrow7 (by simp; omega) HLE6.out; have hsz7 := hgrow7.size; have HX7 := Lib.hid ((HX6.out.below (below1 _ (.cells #[.slice xa lx.length xc] 35)) hgb6).of_block (hgrow7.block gb (by simp; omega) HN6.out)); clear hgrow7 hat7; simp only [World.size_alloc] at hsz7)
              | (at_builtin; refine wpList_append_own_at _ rfl _ _ _ rfl w.heap.size 35 i0 _ 1 24 Try.underlying42 hi0 hz0 hz1 hz2 rfl (by decide) (.slice (some ⟨g7, 0, none⟩) (k + 1) c7) (k + 1) (xs.take k ++ [.slice xa lx.length xc]) rfl HO7.out ⟨gb, k, none⟩ (j - k) (cp - k) (xs.drop k) rfl (by rw [List.length_drop, HPL.out]; omega) (cells_from HX7.out HPL.out) (fun u hu => HONE.out u (List.mem_of_mem_drop hu)) (by unfold maxLen; omega) (by omega) (by omega) ?_; intro v8 w8 hown8 hgrow8 hnil8 hat8; have b8 := b7.grown hgrow8 (by omega) (fun i hi => owns_le HO7.out hi); rw [hjk, ← HPM.out] at hown8; obtain ⟨g8, c8, rfl, hg8, _, _⟩ := owns_head hown8 (by omega); have HO8 := Lib.hid hown8; clear hown8 hgrow8 hnil8 hat8))
            go_roundw
            case rel => exact ⟨j + 1, some ⟨g8, 0, none⟩, c8, P.take k ++ (.slice xa lx.length xc, lx) :: P.drop k, by omega, by go_num, by simp, HO8.out, by rw [HM.out]; exact HPP.out, b8⟩
            case measure => simp [intOf]; omega
          · have HBE := Lib.hid hbe
            clear hbe
            go_wp2_with (go_at_call 114; refine (voBefore_any y (.slice xa lx.length xc) (SL.getD k []) lx _ hryl HRL.out (HRY.out.up hb2) (HR.out.up hb2)).mono ?_; rintro e w5 ⟨rfl, hb5⟩; rw [HBE.out]; have HO5 := Lib.hid (owns_now HO2.out hb5); have b5 := hb2.trans (hb5.mono hsz2); have hsz5 := b5.size)
            go_roundw
            case rel => exact ⟨k + 1, by omega, by go_num, HO5.out, fun i hi => by
              by_cases e : i = k
              · subst e; exact HBE.out
              · exact HBF.out i (by omega), b5⟩
            case measure => simp [intOf]; omega
        · have hkj : k = j := by omega
          have hlt2' : ¬ (k : Int) < j := by omega
          rcases HO2.out.2 with ⟨hv, hn⟩ | ⟨gb, cb, cur, hv, hgb, hh, hcb, hcm, _⟩
          · obtain ⟨rfl, rfl, rfl⟩ : B = none ∧ j = 0 ∧ cp = 0 := by simpa using hv
            obtain rfl : k = 0 := by omega
            have HPP := Lib.hid (HP.out.put (Nat.le_refl 0) HR.out HRL.out HBF.out (Or.inl rfl))
            have HPM := Lib.hid (show (P.take 0 ++ (.slice xa lx.length xc, lx) :: P.drop 0).map (·.1) = [.slice xa lx.length xc] from by
              have : P = [] := List.length_eq_zero_iff.1 HP.out.len
              subst this; rfl)
            have HLIT := Lib.hid (show (wr.alloc (.cells #[] 35)).ownsRow w.heap.size 35 1 (.slice (some ⟨wr.heap.size, 0, none⟩) 0 0) 0 [] from owns_less (World.ownsRow_lit wr #[] 0 (Nat.le_refl _) (by unfold maxLen; omega) rfl) (by omega))
            have b6 := hb2.alloc hsz2 (.cells #[] 35)
            clear HO2 hcell
            go_wp2_with (first
              | (at_builtin; refine wpList_append_own_none rfl _ _ _ rfl w.heap.size 35 i0 1 Try.underlying42 hi0 (.slice (some ⟨wr.heap.size, 0, none⟩) 0 0) 0 [] rfl HLIT.out rfl ?_)
              | (at_builtin; refine wpList_append_lies _ rfl _ _ _ rfl w.heap.size 35 i0 _ 1 24 Try.underlying42 hi0 hz0 hz1 hz2 rfl (by decide) (.slice (some ⟨wr.heap.size, 0, none⟩) 0 0) 0 [] rfl (HLIT.out.alloc _) ⟨wr.heap.size + 1, 0, none⟩ 1 1 [.slice xa lx.length xc] rfl rfl (World.news_of_block (cs := #[.slice xa lx.length xc]) (t := 35) (fr := (0, 0)) (by have := heap_alloc_new (wr.alloc (.cells #[] 35)) (.cells #[.slice xa lx.length xc] 35); simpa using this)) (by simp [HR.out.one]) (by omega) (by unfold maxLen; omega) (by omega) (by simp; omega) (wr.heap.size + 2) (by simp) ?_; intro g7 c7 w7 hown7 hgrow7 hat7 hlt7; simp only [Nat.zero_add, List.nil_append] at hown7; have HO7 := Lib.hid hown7; clear hown7; have b7 := (b6.alloc (by simp; omega) (.cells #[.slice xa lx.length xc] 35)).grown hgrow7 (by simp; omega) (fun i hi => owns_le HLIT.out hi); clear hgrow7 hat7)
              | (at_builtin; refine wpList_append_own_none rfl _ _ _ rfl w.heap.size 35 i0 1 Try.underlying42 hi0 (.slice (some ⟨g7, 0, none⟩) 1 c7) 1 [.slice xa lx.length xc] rfl HO7.out rfl ?_))
            go_roundw
            case rel => exact ⟨1, some ⟨g7, 0, none⟩, c7, P.take 0 ++ (.slice xa lx.length xc, lx) :: P.drop 0, by omega, by go_num, by simp, by rw [HPM.out]; exact HO7.out, by rw [HM.out]; exact HPP.out, b7⟩
            case measure => simp [intOf]; omega
          · obtain ⟨rfl, rfl⟩ : B = some ⟨gb, 0, none⟩ ∧ cp = cb := by simpa using hv
            have HKJ := Lib.hid hkj
            clear hv hcell hh hkj
            have HST := Lib.hid (show k = j ∨ before (SL.getD k []) lx = false from Or.inl HKJ.out)
            have HPP := Lib.hid (HP.out.put hk HR.out HRL.out HBF.out HST.out)
            have HONE := Lib.hid HP.out.one
            have HPL := Lib.hid (show (P.map (·.1)).length = j from by rw [List.length_map, HP.out.len])
            have HXO2 := Lib.hid (show Own wr gb 35 j (fun i => (P.map (·.1)).getD i default) from Own.of_own HO2.out fun i hi => by
              rw [List.getElem?_eq_getElem (by rw [HPL.out]; exact hi), List.getD_eq_getElem?_getD, List.getElem?_eq_getElem (by rw [HPL.out]; exact hi)]; rfl)
            have hgb2 : gb < wr.heap.size := HXO2.out.lt
            have HPM := Lib.hid (show (P.take k ++ (.slice xa lx.length xc, lx) :: P.drop k).map (·.1) = (P.map (·.1)).take k ++ [.slice xa lx.length xc] ++ (P.map (·.1)).drop k from by simp [List.map_take, List.map_drop])
            have hjk : k + 1 + (j - k) = j + 1 := by omega
            have hkc : k ≤ cp := by omega
            have hkc' : (k : Int) ≤ cp := by omega
            have hkj' : (k : Int) ≤ j := by omega
            generalize P.map (·.1) = xs at *
            clear HST HBF HP
            rcases Nat.lt_or_ge k cp with hkq | hkq
            · have hkq' : (k : Int) < cp := by omega
              go_wp2_with (first
                | (at_builtin; refine wpList_append_own_at _ rfl _ _ _ rfl w.heap.size 35 i0 _ 1 24 Try.underlying42 hi0 hz0 hz1 hz2 rfl (by decide) (.slice (some ⟨wr.heap.size, 0, none⟩) 0 0) 0 [] rfl (owns_less (World.ownsRow_lit wr #[] 0 (Nat.le_refl _) (by unfold maxLen; omega) rfl) (by omega)) ⟨gb, 0, none⟩ k cp (xs.take k) rfl (by rw [List.length_take, HPL.out]; omega) (cells_at (HXO2.out.below (below1 _ _) hgb2) HPL.out) (fun u hu => HONE.out u (List.mem_of_mem_take hu)) (by unfold maxLen; omega) (by omega) (by simp; omega) ?_; intro v1 w6 hown6 hgrow6 hnil6 hat6; simp only [Nat.zero_add, List.nil_append] at hown6; have HO6 := Lib.hid hown6; clear hown6 hnil6; have b6 := (hb2.alloc (by omega) (.cells #[] 35)).grown hgrow6 (by simp; omega) (fun i hi => by simp [Value.ownBlock] at hi; omega); have hsz6 := hgrow6.size; have hgb6 : gb < w6.heap.size := (by simp at hsz6; omega); have HX6 := Lib.hid ((HXO2.out.below (below1 _ (.cells #[] 35)) hgb2).of_block (hgrow6.block gb (by simp; omega) (by simp [Value.ownBlock]; omega))); have HN6 := Lib.hid (show some gb ≠ v1.ownBlock from fun e => by rcases hat6 with h | h <;> (rw [h] at e; simp [Value.ownBlock] at e; omega)); have HLE6 := Lib.hid (fun i hi => owns_le HO6.out (k := i) hi); clear hat6 hgrow6; simp only [World.size_alloc] at hsz6)
                | (at_builtin; refine wpList_append_lies _ rfl _ _ _ rfl w.heap.size 35 i0 _ 1 24 Try.underlying42 hi0 hz0 hz1 hz2 rfl (by decide) v1 k (xs.take k) rfl (HO6.out.alloc _) ⟨w6.heap.size, 0, none⟩ 1 1 [.slice xa lx.length xc] rfl rfl (World.news_of_block (cs := #[.slice xa lx.length xc]) (t := 35) (fr := (0, 0)) (heap_alloc_new w6 _)) (by simp [HR.out.one]) (by omega) (by unfold maxLen; omega) (by omega) (by simp; omega) (w6.heap.size + 1) (by simp) ?_; intro g7 c7 w7 hown7 hgrow7 hat7 hlt7; have HO7 := Lib.hid hown7; clear hown7; have b7 := (b6.alloc (by omega) (.cells #[.slice xa lx.length xc] 35)).grown hgrow7 (by simp; omega) HLE6.out; have hsz7 := hgrow7.size; have HX7 := Lib.hid ((HX6.out.below (below1 _ (.cells #[.slice xa lx.length xc] 35)) hgb6).of_block (hgrow7.block gb (by simp; omega) HN6.out)); clear hgrow7 hat7; simp only [World.size_alloc] at hsz7)
                | (at_builtin; refine wpList_append_own_at _ rfl _ _ _ rfl w.heap.size 35 i0 _ 1 24 Try.underlying42 hi0 hz0 hz1 hz2 rfl (by decide) (.slice (some ⟨g7, 0, none⟩) (k + 1) c7) (k + 1) (xs.take k ++ [.slice xa lx.length xc]) rfl HO7.out ⟨gb, k, none⟩ (j - k) (cp - k) (xs.drop k) rfl (by rw [List.length_drop, HPL.out]; omega) (cells_from HX7.out HPL.out) (fun u hu => HONE.out u (List.mem_of_mem_drop hu)) (by unfold maxLen; omega) (by omega) (by omega) ?_; intro v8 w8 hown8 hgrow8 hnil8 hat8; have b8 := b7.grown hgrow8 (by omega) (fun i hi => owns_le HO7.out hi); rw [hjk, ← HPM.out] at hown8; obtain ⟨g8, c8, rfl, hg8, _, _⟩ := owns_head hown8 (by omega); have HO8 := Lib.hid hown8; clear hown8 hgrow8 hnil8 hat8))
              go_roundw
              case rel => exact ⟨j + 1, some ⟨g8, 0, none⟩, c8, P.take k ++ (.slice xa lx.length xc, lx) :: P.drop k, by omega, by go_num, by simp, HO8.out, by rw [HM.out]; exact HPP.out, b8⟩
              case measure => simp [intOf]; omega
            · obtain rfl : k = cp := by omega
              have HKJ1 := Lib.hid (show k + 1 = j + 1 by omega)
              have HPM2 := Lib.hid (HPM.out.trans (by rw [List.drop_eq_nil_of_le (show xs.length ≤ k by rw [HPL.out]; omega), List.append_nil]))
              go_wp2_with (first
                | (at_builtin; refine wpList_append_own_at _ rfl _ _ _ rfl w.heap.size 35 i0 _ 1 24 Try.underlying42 hi0 hz0 hz1 hz2 rfl (by decide) (.slice (some ⟨wr.heap.size, 0, none⟩) 0 0) 0 [] rfl (owns_less (World.ownsRow_lit wr #[] 0 (Nat.le_refl _) (by unfold maxLen; omega) rfl) (by omega)) ⟨gb, 0, none⟩ k k (xs.take k) rfl (by rw [List.length_take, HPL.out]; omega) (cells_at (HXO2.out.below (below1 _ _) hgb2) HPL.out) (fun u hu => HONE.out u (List.mem_of_mem_take hu)) (by unfold maxLen; omega) (by omega) (by simp; omega) ?_; intro v1 w6 hown6 hgrow6 hnil6 hat6; simp only [Nat.zero_add, List.nil_append] at hown6; have HO6 := Lib.hid hown6; clear hown6 hnil6; have b6 := (hb2.alloc (by omega) (.cells #[] 35)).grown hgrow6 (by simp; omega) (fun i hi => by simp [Value.ownBlock] at hi; omega); have hsz6 := hgrow6.size; have hgb6 : gb < w6.heap.size := (by simp at hsz6; omega); have HX6 := Lib.hid ((HXO2.out.below (below1 _ (.cells #[] 35)) hgb2).of_block (hgrow6.block gb (by simp; omega) (by simp [Value.ownBlock]; omega))); have HN6 := Lib.hid (show some gb ≠ v1.ownBlock from fun e => by rcases hat6 with h | h <;> (rw [h] at e; simp [Value.ownBlock] at e; omega)); have HLE6 := Lib.hid (fun i hi => owns_le HO6.out (k := i) hi); clear hat6 hgrow6; simp only [World.size_alloc] at hsz6)
                | (at_builtin; refine wpList_append_lies _ rfl _ _ _ rfl w.heap.size 35 i0 _ 1 24 Try.underlying42 hi0 hz0 hz1 hz2 rfl (by decide) v1 k (xs.take k) rfl (HO6.out.alloc _) ⟨w6.heap.size, 0, none⟩ 1 1 [.slice xa lx.length xc] rfl rfl (World.news_of_block (cs := #[.slice xa lx.length xc]) (t := 35) (fr := (0, 0)) (heap_alloc_new w6 _)) (by simp [HR.out.one]) (by omega) (by unfold maxLen; omega) (by omega) (by simp; omega) (w6.heap.size + 1) (by simp) ?_; intro g7 c7 w7 hown7 hgrow7 hat7 hlt7; have HO7 := Lib.hid hown7; clear hown7; have b7 := (b6.alloc (by omega) (.cells #[.slice xa lx.length xc] 35)).grown hgrow7 (by simp; omega) HLE6.out; have hsz7 := hgrow7.size; have HX7 := Lib.hid ((HX6.out.below (below1 _ (.cells #[.slice xa lx.length xc] 35)) hgb6).of_block (hgrow7.block gb (by simp; omega) HN6.out)); clear hgrow7 hat7; simp only [World.size_alloc] at hsz7)
                | (at_builtin; refine wpList_append_own_at _ rfl _ _ _ rfl w.heap.size 35 i0 _ 1 24 Try.underlying42 hi0 hz0 hz1 hz2 rfl (by decide) (.slice (some ⟨g7, 0, none⟩) (k + 1) c7) (k + 1) (xs.take k ++ [.slice xa lx.length xc]) rfl HO7.out ⟨gb, 0, none⟩ 0 0 [] rfl rfl (fun i u hu => by simp at hu) (fun u hu => by simp at hu) (by unfold maxLen; omega) (by omega) (by omega) ?_; intro v8 w8 hown8 hgrow8 hnil8 hat8; have b8 := b7.grown hgrow8 (by omega) (fun i hi => owns_le HO7.out hi); simp only [Nat.add_zero, List.append_nil] at hown8; rw [HKJ1.out, ← HPM2.out] at hown8; obtain ⟨g8, c8, rfl, hg8, _, _⟩ := owns_head hown8 (by omega); have HO8 := Lib.hid hown8; clear hown8 hgrow8 hnil8 hat8))
              go_roundw
              case rel => exact ⟨j + 1, some ⟨g8, 0, none⟩, c8, P.take k ++ (.slice xa lx.length xc, lx) :: P.drop k, by omega, by go_num, by simp, HO8.out, by rw [HM.out]; exact HPP.out, b8⟩
              case measure => simp [intOf]; omega
    · obtain rfl : j = m := by omega
      go_wp2
      go_ret
      exact ⟨B, cp, P, rfl, HO.out, by have h := HP.out; rw [← HL.out, List.take_length] at h; rw [← HL.out]; exact h, hbr⟩
end Go.Proofs.Ytnldodnpakpeeaa

namespace Go.Proofs.Ytnldodnpakpeeaa
open Go.RowKit Vo

theorem out_add {s k n : Nat} (hs : s < 2^n) (hn : n ≤ 9) (hk : k < n) (hb : s.testBit k = true) : out s k + 2^k = s := by
  have h1 : out s k < 2^n := Nat.lt_of_le_of_lt (out_le s k) hs
  have h2 : (out s k).testBit k = false := by rw [testBit_out (by omega) (by omega)]; simp
  rw [add_pow h1 hk h2]
  apply Nat.eq_of_testBit_eq
  intro i
  rw [Nat.testBit_or, Nat.testBit_two_pow]
  by_cases hi : i < 64
  · rw [testBit_out (by omega) hi]
    by_cases e : k = i
    · subst e; simp [hb]
    · have : i ≠ k := fun h => e h.symm
      simp [e, this]
  · have big : ∀ u : Nat, u < 2^n → u.testBit i = false := fun u hu => Nat.testBit_lt_two_pow (Nat.lt_of_lt_of_le hu (Nat.pow_le_pow_right (by omega) (by omega)))
    rw [big _ h1, big _ hs]
    simp; omega
/-- Of no member's loss among these is the set of the kind. -/
def lossL (p : Nat → Bool) (s : Nat) (l : List Int) : Bool := l.all fun z => !p (out s z.toNat)
theorem noneOut_list (p : Nat → Bool) (s k : Nat) : noneOut p s k = lossL p s (mem s k) := by
  unfold noneOut lossL
  induction k with
  | zero => rfl
  | succ k ih =>
    simp only [allK, mem, List.all_append, ih]
    congr 1
    cases s.testBit k <;> simp
theorem lossL_take (p : Nat → Bool) (s : Nat) (l : List Int) (t : Nat) (z : Nat) (h : l[t]? = some (z : Int)) : lossL p s (l.take (t+1)) = (lossL p s (l.take t) && !p (out s z)) := by
  unfold lossL
  rw [List.take_add_one, h, List.all_append]
  simp
theorem mem_at {s t : Nat} (ht : t < (mem s 9).length) : ∃ z : Nat, (mem s 9)[t]? = some (z : Int) ∧ z < 9 ∧ s.testBit z = true := by
  have h : (mem s 9)[t] ∈ mem s 9 := List.getElem_mem ht
  obtain ⟨z, h1, h2, h3⟩ := mem_iff.1 h
  exact ⟨z, by rw [List.getElem?_eq_getElem ht, h2], h1, h3⟩

/-- The lists of the sets of a kind among the first j. -/
def kindL (P : Nat → Bool) (j : Nat) : List (List Int) := setsL ((List.range j).filter P)
theorem kindL_yes {P : Nat → Bool} {j : Nat} (h : P j = true) : kindL P (j+1) = kindL P j ++ [mem j 9] := by simp [kindL, setsL, List.range_succ, List.filter_append, h]
theorem kindL_no {P : Nat → Bool} {j : Nat} (h : P j = false) : kindL P (j+1) = kindL P j := by simp [kindL, setsL, List.range_succ, List.filter_append, h]
theorem kindL_len (P : Nat → Bool) (j : Nat) : (kindL P j).length ≤ j := by
  rw [kindL, setsL_len]
  exact Nat.le_trans (List.length_filter_le _ _) (by simp)
theorem setsL_small {S : List Nat} : ∀ i, i < (setsL S).length → ((setsL S).getD i []).length ≤ 1048576 := by
  intro i hi
  rw [List.getD_eq_getElem?_getD, List.getElem?_eq_getElem hi]
  simp only [setsL, List.getElem_map, Option.getD_some]
  exact Nat.le_trans (mem_len _ _) (by omega)
theorem kindL_sort (P : Nat → Bool) {n : Nat} (hn : n ≤ 9) : sortL (kindL P (2^n)) = setsL ((inOrder n).filter P) := by
  have e : ∀ S : List Nat, (∀ t ∈ S, t < 2^n) → setsL S = S.map fun t => mem t n := fun S h => List.map_congr_left fun t ht => mem_stop (h t ht) hn
  rw [kindL, e _ (fun t ht => by have := (List.mem_filter.1 ht).1; simpa using this), e _ (fun t ht => mem_inOrder.1 (List.mem_filter.1 ht).1), order_is_sort]

theorem SSb.pairs {base : Nat} {L : List (List Int)} {B : Option Addr} {c cp : Nat} {w : World} (h : SSb base L (.slice B c cp) w) (hc : c = L.length) (hb : ∀ i, i < L.length → (L.getD i []).length ≤ 1048576) :
    ∃ P0, Pairs base P0 c L w ∧ (c = 0 ∨ ∃ g, B = some ⟨g, 0, none⟩ ∧ g < w.heap.size ∧ Own w g 35 c (fun i => (P0.map (·.1)).getD i default)) := by
  obtain ⟨xs, G, ho, h⟩ := h
  subst hc
  have hl : xs.length = L.length := by have := ho.1; simpa using this
  have e1 : (xs.zip L).map (·.1) = xs := List.map_fst_zip (by omega)
  have e2 : (xs.zip L).map (·.2) = L := List.map_snd_zip (by omega)
  refine ⟨xs.zip L, ⟨by simp [hl], e2, fun p hp => ?_⟩, ?_⟩
  · obtain ⟨i, hi, rfl⟩ := List.getElem_of_mem hp
    have hiL : i < L.length := by simp at hi; omega
    have hix : i < xs.length := by omega
    obtain ⟨x, hx, hr, hg⟩ := h i hiL
    have hb2 := hb i hiL
    rw [List.getD_eq_getElem?_getD, List.getElem?_eq_getElem hiL] at hr hg hb2
    rw [List.getElem?_eq_getElem hix] at hx
    injection hx with hx
    simp only [List.getElem_zip, Option.getD_some] at hr hg hb2 ⊢
    rw [hx]
    refine ⟨hr.wide ?_, hb2⟩
    rcases hg with hg | hg
    · exact Or.inl hg
    · exact Or.inr ⟨hg.1, hg.2.1⟩
  · by_cases hn : L.length = 0
    · exact Or.inl hn
    · obtain ⟨g, cap', hv, hg, _, _⟩ := owns_head ho (by omega)
      injection hv with hA _ hcc
      subst hA
      refine Or.inr ⟨g, rfl, owns_lt ho rfl, ?_⟩
      rw [e1]
      exact Own.of_own ho fun i hi => by
        rw [List.getD_eq_getElem?_getD, List.getElem?_eq_getElem (by omega)]; rfl
end Go.Proofs.Ytnldodnpakpeeaa

namespace Go.Proofs.Ytnldodnpakpeeaa
open Go.RowKit Vo

theorem shl_pow2 (k : Nat) (hk : k < 10) : wrap64 ((2 : Int) ^ k) = ((2 ^ k : Nat) : Int) := by
  have h1 : (2:Nat)^k ≤ 2^10 := Nat.pow_le_pow_right (by omega) (by omega)
  rw [show ((2 : Int) ^ k) = ((2 ^ k : Nat) : Int) from by simp]
  generalize 2 ^ k = x at *
  exact IntWalk.wrap64_in _ (by omega)
theorem bfromB {B : Nat} {w w1 w2 : World} (h : Below B w w1) (k : Below w1.heap.size w1 w2) (hB : B ≤ w1.heap.size) : Below B w w2 := h.trans (k.mono hB)

set_option maxRecDepth 20000 in
set_option maxHeartbeats 4000000 in
theorem voLeast_any (p : Nat → Bool) (n g cap : Nat) (w : World) (hn : n < 10) (hw : Own w g 4 (2^n) (fun j => .bool (p j))) :
    Calls Try.prog 158 #[.slice (some ⟨g, 0, none⟩) (2^n : Nat) cap] w fun e w' => ∃ v, e = .returned v ∧ RSS0 (setsL ((inOrder n).filter (leastP p n))) w.heap.size w'.heap.size v w' ∧ Below w.heap.size w w' := by
  obtain ⟨i0, hi0, hz0, hz1, hz2⟩ := info_parts infoInts
  have HW := Lib.hid hw
  have hgl := hw.lt
  have h512 := pow_lt (n := n) (by omega)
  have HSORT := Lib.hid (kindL_sort (leastP p n) (n := n) (by omega))
  have HOUT := Lib.hid (show ∀ s z, s < 2^n → z < n → s.testBit z = true → out s z + 2^z = s ∧ out s z < 2^n from fun s z h1 h2 h3 => ⟨out_add h1 (by omega) h2 h3, Nat.lt_of_le_of_lt (out_le s z) h1⟩)
  have HLP := Lib.hid (show ∀ s, s < 2^n → leastP p n s = (p s && lossL p s (mem s 9)) from fun s hs => by unfold leastP; rw [noneOut_list, mem_stop hs (show n ≤ 9 by omega)])
  have HBN := Lib.hid (show ∀ s z, s < 2^n → s.testBit z = true → z < n from fun s z hs hz => by
    rcases Nat.lt_or_ge z n with h | h
    · exact h
    · rw [Nat.testBit_lt_two_pow (Nat.lt_of_lt_of_le hs (Nat.pow_le_pow_right (by omega) h))] at hz; cases hz)
  clear hw
  obtain ⟨lp, hlp⟩ : ∃ lp, leastP p n = lp := ⟨_, rfl⟩
  rw [hlp] at HSORT HLP ⊢
  clear hlp
  obtain ⟨N, hN⟩ : ∃ N, 2^n = N := ⟨_, rfl⟩
  rw [hN] at HW h512 HOUT HLP HBN HSORT ⊢
  clear hN
  rw [← HSORT.out]
  go_enter Try.func158, Try.ntmps158
  go_wp2
  go_loopw [3, 4, 5, 6, 8, 11] (fun v _ _ _ _ i wr => ∃ (j c : Nat) (B : Option Addr) (cp : Nat), j ≤ N ∧ i = .int .i64 j ∧ v = .slice B c cp ∧ c = (kindL lp j).length ∧ SSb w.heap.size (kindL lp j) (.slice B c cp) wr ∧ Below w.heap.size w wr) (fun _ _ _ _ _ i _ => N - (intOf i).toNat)
  case atStart => exact ⟨0, 0, none, 0, by omega, rfl, rfl, rfl, SSb.nil _ _, Below.refl _ _⟩
  case round =>
    obtain ⟨j, c, B, cp, hj, rfl, rfl, hc, hss, hbr⟩ := hrel
    have HSS := Lib.hid hss
    have HC := Lib.hid hc
    have hcl := kindL_len lp j
    have hszr := hbr.size
    have hc512 : c ≤ 512 := by omega
    clear hss hc hcl
    by_cases hlt : j < N
    · have hcell := (HW.out.below hbr hgl).cell hlt
      have hs512 : j < 512 := by omega
      have HLJ := Lib.hid (HLP.out j hlt)
      cases hpj : p j
      · have HNO := Lib.hid (kindL_no (P := lp) (j := j) (by rw [HLJ.out, hpj]; rfl))
        rw [hpj] at hcell
        clear hpj
        go_wp2
        go_roundw
        case rel => exact ⟨j + 1, c, B, cp, by omega, by go_num, rfl, by rw [HNO.out]; exact HC.out, by rw [HNO.out]; exact HSS.out, hbr⟩
        case measure => simp [intOf]; omega
      · rw [hpj] at hcell HLJ
        clear hpj
        obtain ⟨m, hm⟩ : ∃ m, m = (mem j 9).length := ⟨_, rfl⟩
        have hm9 : m ≤ 9 := by have := mem_len j 9; omega
        have HAT := Lib.hid (show ∀ t, t < m → ∃ z : Nat, (mem j 9)[t]? = some (z : Int) ∧ z < n ∧ j.testBit z = true from fun t ht => by
          obtain ⟨z, h1, _, h3⟩ := mem_at (s := j) (t := t) (by omega)
          exact ⟨z, h1, HBN.out j z hlt h3, h3⟩)
        have HTK := Lib.hid (show (mem j 9).take m = mem j 9 from by rw [hm, List.take_length])
        obtain ⟨qq, hqq⟩ : ∃ qq : Nat → Bool, qq = fun t => lossL p j ((mem j 9).take t) := ⟨_, rfl⟩
        have HQ := Lib.hid (show ∀ t z : Nat, (mem j 9)[t]? = some (z : Int) → qq (t+1) = (qq t && !p (out j z)) from fun t z h => by rw [hqq]; exact lossL_take p j _ t z h)
        have HQ0 := Lib.hid (show qq 0 = true from by rw [hqq]; rfl)
        have HQM := Lib.hid (show lp j = qq m from by rw [HLJ.out, hqq]; simp only [HTK.out, Bool.true_and])
        have HM := Lib.hid hm
        clear hm hqq
        go_wp2_with (first
          | (go_at_call 102; refine (voList_any j _ hs512).mono ?_; rintro e w5 ⟨A5, cap5, rfl, hown5, hb5⟩; rw [← HM.out] at hown5 ⊢; have HL5 := Lib.hid hown5; clear hown5; have b5 := bfromB hbr hb5 hszr; have hsz5 := b5.size))
        go_loop [6, 8, 21] (fun b _ i => ∃ t : Nat, t ≤ m ∧ i = .int .i64 t ∧ b = .bool (qq t)) (fun _ _ i => m - (intOf i).toNat)
        case atStart => exact ⟨0, Nat.zero_le _, rfl, by rw [HQ0.out]⟩
        case round =>
          obtain ⟨t, ht, rfl, rfl⟩ := hrel
          by_cases htm : t < m
          · obtain ⟨z, hz, hzn, hzb⟩ := HAT.out t htm
            obtain ⟨g5, cp5, hv, _, _, _⟩ := owns_head HL5.out (by omega)
            obtain ⟨rfl, rfl⟩ : A5 = some ⟨g5, 0, none⟩ ∧ cap5 = cp5 := by simpa using hv
            have hcell5 : w5.cell? ⟨g5, t, none⟩ = some (.int .i64 z) := by
              have h1 := HL5.out.cells (g := g5) rfl t (.int .i64 z) (by rw [List.getElem?_map, hz]; rfl)
              have e : (⟨g5, 0, none⟩ : Addr).add t = ⟨g5, t, none⟩ := by unfold Addr.add; split <;> simp_all
              rw [← e]; exact h1
            obtain ⟨ho1, ho2⟩ := HOUT.out j z hlt hzn hzb
            have HQ2 := Lib.hid (HQ.out t z hz)
            have hsh := shl_pow2 z (by omega)
            have hcello := (HW.out.below b5 hgl).cell ho2
            have hz63 : (z : Int) < 64 := by omega
            clear hv hz hzb
            obtain ⟨o, hoe⟩ : ∃ o, out j z = o := ⟨_, rfl⟩
            rw [hoe] at ho1 ho2 HQ2 hcello
            clear hoe
            obtain ⟨Pz, hPe⟩ : ∃ Pz, 2 ^ z = Pz := ⟨_, rfl⟩
            rw [hPe] at ho1 hsh
            clear hPe
            have hsub : ((j : Int) - (Pz : Int)).toNat = o := by omega
            have h0 : (0 : Int) ≤ (j : Int) - Pz := by omega
            have h1 : (j : Int) - Pz < N := by omega
            have hPj : Pz ≤ 512 := by omega
            cases hq : qq t
            · rw [hq] at HQ2
              clear hq
              go_wp2
              go_round
              case rel => exact ⟨t + 1, by omega, by go_num, by rw [HQ2.out]; rfl⟩
              case measure => simp [intOf]; omega
            · rw [hq] at HQ2
              clear hq
              cases hpo : p o
              all_goals
                rw [hpo] at HQ2 hcello
                clear hpo
                go_wp2
                go_round
                case rel => exact ⟨t + 1, by omega, by go_num, by rw [HQ2.out]; rfl⟩
                case measure => simp [intOf]; omega
          · obtain rfl : t = m := by omega
            cases hq : qq t
            · have HNO := Lib.hid (kindL_no (P := lp) (j := j) (HQM.out.trans hq))
              clear hq
              go_wp2
              go_roundw
              case rel => exact ⟨j + 1, c, B, cp, by omega, by go_num, rfl, by rw [HNO.out]; exact HC.out, by rw [HNO.out]; exact HSS.out.now hb5, b5⟩
              case measure => simp [intOf]; omega
            · have HYES := Lib.hid (kindL_yes (P := lp) (j := j) (HQM.out.trans hq))
              clear hq
              have HSS5 := Lib.hid (HSS.out.now hb5)
              obtain ⟨xs, _, ho, _⟩ := HSS5.out
              rw [← HC.out] at ho
              have HXS := Lib.hid ho
              clear ho
              go_wp2_with (first
                | (go_at_call 102; refine (voList_any j _ hs512).mono ?_; rintro e w6 ⟨A6, cap6, rfl, hown6, hb6⟩; rw [← HM.out] at hown6 ⊢; have HL6 := Lib.hid hown6; clear hown6; have HO6 := Lib.hid (owns_now HXS.out hb6); have b6 := bfromB b5 hb6 hsz5; have hsz6 := b6.size)
                | (at_builtin; refine wpList_append_lies _ rfl _ _ _ rfl w.heap.size 35 i0 _ 1 24 Try.underlying42 hi0 hz0 hz1 hz2 rfl (by decide) (.slice B c cp) c xs rfl (HO6.out.alloc _) ⟨w6.heap.size, 0, none⟩ 1 1 [.slice A6 t cap6] rfl rfl (World.news_of_block (cs := #[.slice A6 t cap6]) (t := 35) (fr := (0, 0)) (heap_alloc_new w6 _)) (by simp [Value.oneCell']) (by omega) (by unfold maxLen; omega) (by omega) (by simp; omega) (w6.heap.size + 1) (by simp) ?_; intro gg cap4 w7 hown7 hgrow7 hat7 hlt7))
              have b7 : Below w.heap.size w w7 := (b6.alloc hsz6 (.cells #[.slice A6 t cap6] 35)).grown hgrow7 (by simp; omega) fun i hi => owns_le HO6.out hi
              have HP := Lib.hid (SSb.push (l := mem j 9) HSS5.out HC.out hsz5 hb6 ⟨A6, cap6, by rw [HM.out], by rw [← HM.out]; exact HL6.out⟩ (Nat.le_succ _) _ (below1 w6 (.cells #[.slice A6 t cap6] 35)) (by simp) xs HXS.out hown7 hgrow7 hat7)
              go_roundw
              case rel => exact ⟨j + 1, c + 1, some ⟨gg, 0, none⟩, cap4, by omega, by go_num, by simp, by rw [HYES.out, List.length_append, ← HC.out]; rfl, by rw [HYES.out]; exact HP.out, b7⟩
              case measure => simp [intOf]; omega
    · obtain rfl : j = N := by omega
      obtain ⟨P0, hP, hA⟩ := SSb.pairs HSS.out HC.out setsL_small
      have HPP := Lib.hid hP
      have HA := Lib.hid hA
      clear hP hA
      go_wp2_with (go_at_call 103; refine (voSorted_any w.heap.size (kindL lp j) P0 B c cp _ hc512 HPP.out HA.out).mono ?_; rintro e w6 ⟨B6, cp6, P6, rfl, hown6, hP6, hb6⟩)
      go_ret
      exact ⟨_, rfl, hP6.rss hown6 hb6 w.heap.size (Nat.le_refl _) hszr, bfromB hbr hb6 hszr⟩
end Go.Proofs.Ytnldodnpakpeeaa
