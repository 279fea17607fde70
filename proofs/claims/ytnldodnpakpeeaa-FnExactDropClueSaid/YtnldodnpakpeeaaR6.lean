/- Contracts of the program's lists of sets: listsOf; LeastWinning, GreatestLosing, LeastBlocking. -/
import Derived.Test.YtnldodnpakpeeaaR5
import Derived.Test.YtnldodnpakpeeaaR4
import Derived.Outline
namespace Go.Proofs.Ytnldodnpakpeeaa
open Go.RowKit Vo

/-- The lists of these sets. -/
def setsL (S : List Nat) : List (List Int) := S.map fun s => mem s 9
theorem setsL_len (S : List Nat) : (setsL S).length = S.length := by simp [setsL]
theorem setsL_take (S : List Nat) (j : Nat) (h : j < S.length) : setsL (S.take (j+1)) = setsL (S.take j) ++ [mem (S.getD j 0) 9] := by
  unfold setsL
  rw [List.take_add_one, List.map_append, List.getElem?_eq_getElem h, List.getD_eq_getElem?_getD, List.getElem?_eq_getElem h]
  rfl

set_option maxRecDepth 20000 in
set_option maxHeartbeats 4000000 in
theorem listsOf_any (S : List Nat) (base cap m : Nat) (A : Option Addr) (w : World) (hm : m = S.length) (hs : m ≤ 512) (hin : ∀ j, j < m → S.getD j 0 < 512) (hown : w.ownsRow base 107 1 (.slice A m cap) m (setsV S)) :
    Calls Try.prog 108 #[.slice A m cap] w fun e w' => ∃ B cp, e = .returned (.slice B m cp) ∧ SSb w.heap.size (setsL S) (.slice B m cp) w' ∧ Below w.heap.size w w' := by
  obtain ⟨i0, hi0, hz0, hz1, hz2⟩ := info_parts infoInts
  have HO := Lib.hid hown
  have HIN := Lib.hid hin
  have HMS := Lib.hid hm
  have HLT := Lib.hid (fun k hk => owns_lt hown (k := k) hk)
  clear hown hin hm
  go_enter Try.func108, Try.ntmps108
  go_wp2_with (at_make; refine wpList_make_own _ rfl _ _ 42 rfl w.heap.size 35 i0 (.slice none 0 0) 1 Try.underlying42 hi0 hz0 hz1 .i64 .i64 m m rfl rfl rfl (by rw [hz2]; omega) (by unfold maxLen; omega) (by simp) ?_; intro w1 hown1 hgrow1)
  have b1 : Below w.heap.size w w1 := (Below.refl _ _).grown hgrow1 (Nat.le_refl _) (fun j hj => by cases hj)
  have HR1 := Lib.hid (SSb.of_row hown1)
  clear hown1 hgrow1
  go_loopw [3, 5, 11] (fun v _ i wr => ∃ (j : Nat) (B : Option Addr) (cp : Nat), j ≤ m ∧ i = .int .i64 j ∧ v = .slice B j cp ∧ SSb w.heap.size (setsL (S.take j)) (.slice B j cp) wr ∧ Below w.heap.size w wr) (fun _ _ i _ => m - (intOf i).toNat)
  case atStart => exact ⟨0, some ⟨w.heap.size, 0, none⟩, m, Nat.zero_le _, rfl, rfl, by simpa [setsL] using HR1.out, b1⟩
  case round =>
    obtain ⟨j, B, cp, hj, rfl, rfl, hssb, hbr⟩ := hrel
    have HSS := Lib.hid hssb
    have hszr := hbr.size
    by_cases hlt : j < m
    · have hlen : (setsL (S.take j)).length = j := by rw [setsL_len, List.length_take, ← HMS.out]; omega
      obtain ⟨xs, G, ho, _⟩ := hssb
      rw [hlen] at ho
      have HXS := Lib.hid ho
      obtain ⟨gs, cps, hvs, hgs, _, _⟩ := owns_head HO.out (by omega)
      obtain ⟨rfl, rfl⟩ : A = some ⟨gs, 0, none⟩ ∧ cap = cps := by simpa using hvs
      have hgsl : gs < w.heap.size := HLT.out gs rfl
      have hcell : wr.cell? ⟨gs, j, none⟩ = some (.int .u64 (S.getD j 0 : Nat)) := by
        have hOwn : Own w gs 107 m (fun i => .int .u64 (S.getD i 0 : Nat)) := Own.of_own HO.out (fun i hi => by
          have : i < S.length := by have := HMS.out; omega
          simp [setsV, List.getD_eq_getElem?_getD, this])
        exact (Own.below hOwn hbr hgsl).cell hlt
      have hs512 := HIN.out j hlt
      have HST := Lib.hid (setsL_take S j (by have := HMS.out; omega))
      have HLEN := Lib.hid hlen
      clear hlen ho hvs
      generalize S.getD j 0 = s at *
      have hgsr : gs < wr.heap.size := by omega
      go_wp2_with (first
        | (go_at_call 153; refine (list_any s _ hs512).mono ?_; rintro e w5 ⟨A5, cap5, rfl, hown5, hb5⟩; have HL5 := Lib.hid hown5; have HO5 := Lib.hid (owns_now HXS.out hb5); have b5 := hbr.trans (hb5.mono hszr); have hsz5 := b5.size; clear hown5)
        | (at_builtin; refine wpList_append_lies _ rfl _ _ _ rfl w.heap.size 35 i0 _ 1 24 Try.underlying42 hi0 hz0 hz1 hz2 rfl (by decide) (.slice B j cp) j xs rfl (HO5.out.alloc _) ⟨w5.heap.size, 0, none⟩ 1 1 [.slice A5 (mem s 9).length cap5] rfl rfl (World.news_of_block (cs := #[.slice A5 (mem s 9).length cap5]) (t := 35) (fr := (0, 0)) (heap_alloc_new w5 _)) (by simp [Value.oneCell']) (by omega) (by unfold maxLen; omega) (by omega) (by simp; omega) (w5.heap.size + 1) (by simp) ?_; intro gg cap4 w6 hown6 hgrow6 hat hlt6))
      have b6 : Below w.heap.size w w6 := (b5.alloc (by omega) (.cells #[.slice A5 (mem s 9).length cap5] 35)).grown hgrow6 (by simp; omega) fun i hi => owns_le HO5.out hi
      have HP := Lib.hid (SSb.push HSS.out HLEN.out.symm hszr hb5 ⟨A5, cap5, rfl, HL5.out⟩ (Nat.le_succ _) _ (below1 w5 (.cells #[.slice A5 (mem s 9).length cap5] 35)) (by simp) xs HXS.out hown6 hgrow6 hat)
      go_roundw
      case rel => exact ⟨j + 1, some ⟨gg, 0, none⟩, cap4, by omega, by go_num, by simp, by rw [HST.out]; exact HP.out, b6⟩
      case measure => simp [intOf]; omega
    · obtain rfl : m = j := by omega
      have HE := Lib.hid (show setsL (S.take m) = setsL S from by rw [HMS.out, List.take_length])
      go_wp2
      go_ret
      exact ⟨B, cp, rfl, by rw [← HE.out]; exact HSS.out, hbr⟩
end Go.Proofs.Ytnldodnpakpeeaa
