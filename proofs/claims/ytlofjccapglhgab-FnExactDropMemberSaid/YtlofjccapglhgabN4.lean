/- Contracts of the model's swings: lists of swings, their counts, pivots. -/
import Derived.Test.YtlofjccapglhgabS3
import Derived.Test.YtlofjccapglhgabN2
import Derived.Test.YtlofjccapglhgabO2
import Derived.Test.YtlofjccapglhgabP1
import Derived.Deep.AppendLies
import Derived.Outline
namespace Go.Proofs.Ytlofjccapglhgab
open Go.RowKit Vo

/-- Block g holds who wins, of all sets. -/
abbrev WinsIn (p : Nat → Bool) (n g : Nat) (w : World) : Prop := Own w g 4 (2^n) (fun j => .bool (p j))

/-- Numbers as integers. -/
def natsL (L : List Nat) : List Int := L.map fun s => ((s : Nat) : Int)
theorem natsL_len (L : List Nat) : (natsL L).length = L.length := by simp [natsL]
theorem natsL_append (L M : List Nat) : natsL (L ++ M) = natsL L ++ natsL M := by simp [natsL]
theorem swL_le (p : Nat → Bool) (k N : Nat) : (swL p k N).length ≤ N := by rw [swL_len]; exact cnt_le _ _

theorem bit_mod0 (s k : Nat) : ((s : Int) / 2 ^ k % 2 == 0) = !s.testBit k := by
  have h := bit_mod s k
  have h0 := div_nn s k
  generalize (s : Int) / 2 ^ k = x at *
  cases hb : s.testBit k
  · rw [hb] at h; simp at h ⊢; omega
  · rw [hb] at h; simp at h ⊢; omega
theorem shl_pow (k : Nat) (hk : k < 10) : wrap64 ((2 : Int) ^ k) = ((2 ^ k : Nat) : Int) := by
  have h1 : (2:Nat)^k ≤ 2^10 := Nat.pow_le_pow_right (by omega) (by omega)
  rw [show ((2 : Int) ^ k) = ((2 ^ k : Nat) : Int) from by simp]
  generalize 2 ^ k = x at *
  exact IntWalk.wrap64_in _ (by omega)

set_option maxHeartbeats 2000000 in
theorem pwSwings_any (p : Nat → Bool) (n k g cap : Nat) (w : World) (hn : n < 10) (hk : k < n) (hw : WinsIn p n g w) :
    Calls Try.prog 37 #[.slice (some ⟨g, 0, none⟩) (2^n : Nat) cap, .int .i64 k] w fun e w' => IntsAt (natsL (swL p k (2^n))) w w' e := by
  obtain ⟨i0, hi0, hz0, hz1, hz2⟩ := infoIntParts
  have HW := Lib.hid hw
  have hgl := hw.lt
  have h512 := pow_lt (n := n) (by omega)
  have HN := Lib.hid (show ∀ s, s < 2^n → s.testBit k = false → s + 2^k < 2^n ∧ s ||| 2^k = s + 2^k from fun s h hb => by rw [add_pow h hk hb]; exact ⟨or_pow_lt h hk, rfl⟩)
  have hsh := shl_pow k (by omega)
  have hP := Nat.pow_le_pow_right (show 1 ≤ 2 by omega) (show k ≤ 9 by omega)
  have HSW := Lib.hid (show ∀ s, swP p k s = (!s.testBit k && (!p s && p (s ||| 2^k))) from fun _ => rfl)
  clear hw
  obtain ⟨N, hN⟩ : ∃ N, 2^n = N := ⟨_, rfl⟩
  unfold WinsIn at HW
  rw [hN] at HW h512 HN ⊢
  clear hN
  obtain ⟨P, hPe⟩ : ∃ P, 2^k = P := ⟨_, rfl⟩
  rw [hPe] at HN hsh hP HSW
  clear hPe
  go_enter Try.func37, Try.ntmps37
  go_wp2
  go_loopw [5, 6, 7, 10] (fun v _ _ i wr => ∃ (j : Nat) (A : Option Addr) (cap : Nat), j ≤ N ∧ i = .int .i64 j ∧ v = .slice A (swL p k j).length cap ∧ wr.ownsRow w.heap.size 3 1 (.slice A (swL p k j).length cap) (swL p k j).length ((natsL (swL p k j)).map (Value.int .i64)) ∧ Below w.heap.size w wr) (fun _ _ _ i _ => N - (intOf i).toNat)
  case atStart => exact ⟨0, none, 0, by omega, rfl, rfl, World.ownsRow_nil _ _ _ _, Below.refl _ _⟩
  case round =>
    obtain ⟨j, A, cap4, hj, rfl, rfl, hown, hbr⟩ := hrel
    have HO := Lib.hid hown
    clear hown
    have hlen := swL_le p k j
    have hszr := hbr.size
    by_cases hlt : j < N
    · have hcell := (HW.out.below hbr hgl).cell hlt
      have HS := Lib.hid (swL_succ p k j)
      have hbm := bit_mod0 j k
      have hnn := div_nn j k
      obtain ⟨L, hL⟩ : ∃ L, swL p k j = L := ⟨_, rfl⟩
      rw [hL] at HO HS hlen ⊢
      clear hL
      obtain ⟨m, hm1⟩ : ∃ m, m = L.length := ⟨_, rfl⟩
      have HM := Lib.hid hm1
      rw [← hm1] at HO hlen ⊢
      clear hm1
      cases hbit : j.testBit k
      · cases hpj : p j
        · obtain ⟨hlt2, hor⟩ := HN.out j hlt hbit
          have hcell2 := (HW.out.below hbr hgl).cell hlt2
          have hsum : ((j : Int) + (P : Int)).toNat = j + P := by omega
          have hS2 := HSW.out j
          rw [hbit, hpj, hor] at hS2
          rw [hbit] at hbm
          rw [hpj] at hcell
          clear hbit hpj
          cases hpt : p (j + P)
          · rw [hpt] at hcell2 hS2
            rw [show swP p k j = false from hS2] at HS
            clear hpt hS2 hor
            have h0 : (0 : Int) ≤ (j : Int) + P := by omega
            have h1 : (j : Int) + P < N := by omega
            go_wp2
            go_roundw
            case rel => exact ⟨j + 1, A, cap4, by omega, by go_num, by rw [HS.out, HM.out]; simp, by rw [HS.out]; simpa [HM.out] using HO.out, hbr⟩
            case measure => simp [intOf]; omega
          · rw [hpt] at hcell2 hS2
            rw [show swP p k j = true from hS2] at HS
            clear hpt hS2 hor
            have h0 : (0 : Int) ≤ (j : Int) + P := by omega
            have h1 : (j : Int) + P < N := by omega
            go_wp2_with (at_builtin; refine wpList_append_lies _ rfl _ _ _ rfl w.heap.size 3 i0 _ 1 8 Try.underlying22 hi0 hz0 hz1 hz2 rfl (by decide) (.slice A m cap4) m ((natsL L).map (Value.int .i64)) rfl (HO.out.alloc _) ⟨wr.heap.size, 0, none⟩ 1 1 [.int .i64 j] rfl rfl (World.news_of_block (cs := #[.int .i64 j]) (t := 3) (fr := (0, 0)) (heap_alloc_new wr _)) (by simp [Value.oneCell']) (by omega) (by unfold maxLen; omega) (by omega) (by simp; omega) (wr.heap.size + 1) (by simp) ?_; intro gg cap2 w4 hown4 hgrow hat hlt4)
            have hb4 : Below w.heap.size w w4 := (hbr.alloc hszr (.cells #[.int .i64 j] 3)).grown hgrow (by simp; omega) fun i hi => owns_le HO.out hi
            go_roundw
            case rel => exact ⟨j + 1, some ⟨gg, 0, none⟩, cap2, by omega, by go_num, by rw [HS.out, HM.out]; simp, by rw [HS.out]; simpa [HM.out, natsL] using hown4, hb4⟩
            case measure => simp [intOf]; omega
        · have hS2 := HSW.out j
          rw [hbit, hpj] at hS2
          rw [show swP p k j = false from hS2] at HS
          rw [hbit] at hbm
          rw [hpj] at hcell
          clear hbit hpj hS2
          go_wp2
          go_roundw
          case rel => exact ⟨j + 1, A, cap4, by omega, by go_num, by rw [HS.out, HM.out]; simp, by rw [HS.out]; simpa [HM.out] using HO.out, hbr⟩
          case measure => simp [intOf]; omega
      · have hS2 := HSW.out j
        rw [hbit] at hS2
        rw [show swP p k j = false from hS2] at HS
        rw [hbit] at hbm
        clear hbit hS2
        go_wp2
        go_roundw
        case rel => exact ⟨j + 1, A, cap4, by omega, by go_num, by rw [HS.out, HM.out]; simp, by rw [HS.out]; simpa [HM.out] using HO.out, hbr⟩
        case measure => simp [intOf]; omega
    · obtain rfl : j = N := by omega
      have HE := Lib.hid (natsL_len (swL p k j))
      go_wp2
      go_ret
      exact ⟨A, cap4, by rw [HE.out]; rfl, by rw [HE.out]; exact HO.out, hbr⟩

end Go.Proofs.Ytlofjccapglhgab
