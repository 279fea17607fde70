/- Contracts of the model's swings: lists of swings, their counts, pivots. -/
import Derived.Test.YtibmaofcnibjnaaS3
import Derived.Test.YtibmaofcnibjnaaN2
import Derived.Test.YtibmaofcnibjnaaO2
import Derived.Test.YtibmaofcnibjnaaP1
import Derived.Deep.AppendLies
import Derived.Outline
import Derived.Test.YtibmaofcnibjnaaW5
import Derived.Test.YtibmaofcnibjnaaC1
import Derived.Test.YtibmaofcnibjnaaB1
import Derived.Deep.RegionWith
namespace Go.Proofs.Ytibmaofcnibjnaa
open Go.RowKit Vo

set_option maxHeartbeats 1000000 in
theorem isSwingP_any (p : Nat → Bool) (f : Nat) (first cap : Array Value) (n s k : Nat) (w : World) (hn : n < 10) (hs : s < 2^n) (hk : k < n) (ha : Asks p f first cap n w) :
    Calls Try.prog 110 #[.func (.func f) first cap, .int .u64 s, .int .i64 k] w fun e w' => e = .returned (.bool (swP p k s)) ∧ Below w.heap.size w w' := by
  have HA := Lib.hid ha
  have eg := ha.enters
  have h512 : s < 512 := by have := pow_lt (n := n) (by omega); omega
  have hor : s ||| 2^k < 2^n := or_pow_lt hs hk
  have HOR := Lib.hid hor
  have HS := Lib.hid hs
  have HP := Lib.hid (show swP p k s = (!s.testBit k && (!p s && p (s ||| 2^k))) from rfl)
  clear ha hs hor
  cases ht : s.testBit k
  · cases hd : p s
    · have HT := Lib.hid ht
      have HD := Lib.hid hd
      clear ht hd
      go_enter Try.func110, Try.ntmps110
      go_wp2_with (first
        | (go_at_call 84; refine (has_any s k _ (by omega) h512).mono ?_; rintro e w0 ⟨rfl, rfl⟩; rw [HT.out])
        | (go_at_call 80; refine (with_any s k _ (by omega) h512).mono ?_; rintro e w2 ⟨rfl, rfl⟩)
        | (go_at_fn f; with_reducible refine (HA.out.gives _ s HS.out (Below.refl _ _)).mono ?_; rintro e w1 ⟨rfl, hb⟩; rw [HD.out])
        | (go_at_fn f; with_reducible refine (HA.out.gives _ (s ||| 2^k) HOR.out hb).mono ?_; rintro e w3 ⟨rfl, hb3⟩))
      go_ret
      exact ⟨by rw [HP.out, HT.out, HD.out]; simp, bfrom hb hb3⟩
    · have HT := Lib.hid ht
      have HD := Lib.hid hd
      clear ht hd
      go_enter Try.func110, Try.ntmps110
      go_wp2_with (first
        | (go_at_call 84; refine (has_any s k _ (by omega) h512).mono ?_; rintro e w0 ⟨rfl, rfl⟩; rw [HT.out])
        | (go_at_fn f; with_reducible refine (HA.out.gives _ s HS.out (Below.refl _ _)).mono ?_; rintro e w1 ⟨rfl, hb⟩; rw [HD.out]))
      go_ret
      exact ⟨by rw [HP.out, HT.out, HD.out]; rfl, hb⟩
  · have HT := Lib.hid ht
    clear ht
    go_enter Try.func110, Try.ntmps110
    go_wp2_with (go_at_call 84; refine (has_any s k _ (by omega) h512).mono ?_; rintro e w0 ⟨rfl, rfl⟩; rw [HT.out])
    go_ret
    exact ⟨by rw [HP.out, HT.out]; simp, Below.refl _ _⟩

set_option maxHeartbeats 1000000 in
theorem swings1_any (p : Nat → Bool) (f : Nat) (first cap : Array Value) (n s k g g2 : Nat) (w : World) (hn : n < 10) (hs : s < 2^n) (hk : k < n) (ha : Asks p f first cap n w) (hx : Box1 61 w g (.func (.func f) first cap)) (hi : BoxI w g2 (.int .i64 k)) :
    Calls Try.prog 109 #[.int .u64 s, .pointer (some ⟨g, 0, none⟩), .pointer (some ⟨g2, 0, none⟩)] w fun e w' => e = .returned (.bool (swP p k s)) ∧ Below w.heap.size w w' := by
  have HA := Lib.hid ha
  clear ha
  have hcx := hx.cell
  have hci := hi.cell
  go_enter Try.func109, Try.ntmps109
  go_wp2_with fail
  refine (isSwingP_any p f first cap n s k _ hn hs hk HA.out).mono ?_
  rintro e w1 ⟨rfl, hb⟩
  go_wp2
  go_ret
  exact ⟨rfl, hb⟩
theorem swings_asks (p : Nat → Bool) (f : Nat) (first cap : Array Value) (n k g g2 : Nat) (w : World) (hn : n < 10) (hk : k < n) (ha : Asks p f first cap n w) (hx : Box1 61 w g (.func (.func f) first cap)) (hi : BoxI w g2 (.int .i64 k)) :
    Asks (swP p k) 109 #[] #[.pointer (some ⟨g, 0, none⟩), .pointer (some ⟨g2, 0, none⟩)] n w :=
  ⟨enters_of Try.func109 (by kernel_rfl) rfl, fun W s hs hb => swings1_any p f first cap n s k g g2 W hn hs hk (ha.now hb) (hx.now hb) (hi.now hb)⟩

set_option maxHeartbeats 1000000 in
theorem countSwingsP_any (p : Nat → Bool) (f : Nat) (first cap : Array Value) (n k : Nat) (w : World) (hn : n < 10) (hk : k < n) (ha : Asks p f first cap n w) :
    Calls Try.prog 101 #[.int .i64 n, .func (.func f) first cap, .int .i64 k] w fun e w' => e = .returned (.int .i64 (cnt (swP p k) (2^n) : Nat)) ∧ Below w.heap.size w w' := by
  have HA := Lib.hid ha
  clear ha
  have hb0 : Below w.heap.size w ((w.alloc (.cells #[.func (.func f) first cap] 61)).alloc (.cells #[.int .i64 k] 3)) := (below1 w _).alloc (by simp) _
  have hx := (Box1.new 61 w (.func (.func f) first cap)).alloc (.cells #[.int .i64 k] 3)
  have hi := BoxI.new (w.alloc (.cells #[.func (.func f) first cap] 61)) (.int .i64 k)
  simp only [World.size_alloc] at hi
  go_enter Try.func101, Try.ntmps101
  go_wp2_with fail
  refine (countSets_any (swP p k) _ _ _ n _ hn (swings_asks p f first cap n k w.heap.size (w.heap.size + 1) _ hn hk (HA.out.now hb0) hx hi)).mono ?_
  rintro e w2 ⟨rfl, hb2⟩
  go_wp2
  go_ret
  exact ⟨rfl, bfrom hb0 hb2⟩

set_option maxHeartbeats 1000000 in
theorem isSwing_any (q : Int) (b off n cap : Nat) (ws : List Int) (s k : Nat) (w : World) (hn : n < 10) (hs : s < 2^n) (hk : k < n) (hok : InK 0 1000 ws n) (hsl : Sl w b off n ws) :
    Calls Try.prog 111 #[.agg #[.int .i64 q, .slice (some ⟨b, off, none⟩) n cap], .int .u64 s, .int .i64 k] w fun e w' => e = .returned (.bool (swP (winB q ws n) k s)) ∧ Below w.heap.size w w' := by
  have HOK := Lib.hid hok
  have HSL := Lib.hid hsl
  clear hok hsl
  have hx := Box.new w (.int .i64 q) (.slice (some ⟨b, off, none⟩) n cap)
  have hb0 := below1 w (.cells #[.int .i64 q, .slice (some ⟨b, off, none⟩) n cap] 24)
  go_enter Try.func111, Try.ntmps111
  go_wp2_with fail
  refine (isSwingP_any (winB q ws n) _ _ _ n s k _ hn hs hk (wins_asks q b off n cap ws _ hn HOK.out (HSL.out.now hb0))).mono ?_
  rintro e w1 ⟨rfl, hb⟩
  go_wp2
  go_ret
  exact ⟨rfl, bfrom hb0 hb⟩

set_option maxHeartbeats 1000000 in
theorem countSwings_any (q : Int) (b off n cap : Nat) (ws : List Int) (k : Nat) (w : World) (hn : n < 10) (hk : k < n) (hok : InK 0 1000 ws n) (hsl : Sl w b off n ws) :
    Calls Try.prog 94 #[.agg #[.int .i64 q, .slice (some ⟨b, off, none⟩) n cap], .int .i64 k] w fun e w' => e = .returned (.int .i64 (cnt (swP (winB q ws n) k) (2^n) : Nat)) ∧ Below w.heap.size w w' := by
  have HOK := Lib.hid hok
  have HSL := Lib.hid hsl
  clear hok hsl
  have hx := Box.new w (.int .i64 q) (.slice (some ⟨b, off, none⟩) n cap)
  have hb0 := below1 w (.cells #[.int .i64 q, .slice (some ⟨b, off, none⟩) n cap] 24)
  go_enter Try.func94, Try.ntmps94
  go_wp2_with fail
  go_region_held3 (fun w' => w'.cell? ⟨w.heap.size, 0, none⟩ = some (.int .i64 q) ∧ w'.cell? ⟨w.heap.size, 1, none⟩ = some (.slice (some ⟨b, off, none⟩) n cap))
    (first | exact hd | exact hd2 | exact hx.cells | go_keep)
    (first
      | (go_at_call 66; refine (members_any _ _ n cap _).mono ?_; rintro e w1 ⟨rfl, hb1⟩; have hd := (hx.drew.now hb1).cells)
      | (go_at_call 101; refine (countSwingsP_any (winB q ws n) _ _ _ n k _ hn hk (wins_asks q b off n cap ws _ hn HOK.out ((HSL.out.now hb0.drew).now hb1))).mono ?_; rintro e w2 ⟨rfl, hb2⟩; have hd2 := ((hx.drew.now hb1).now hb2).cells))
  all_goals
    go_wp2
    go_ret
    exact ⟨rfl, bfrom hb0.drew (bfrom hb1 hb2)⟩

/-- The function value (k, first, cap), called with a member, answers a number; it writes nothing that was there. -/
structure Nums (f : Nat → Nat) (k : Nat) (first cap : Array Value) (n : Nat) (w : World) : Prop where
  enters : ∀ args W, (callFunc k args).run Try.prog W = .ok (.enter k args) W
  gives : ∀ (W : World) (j : Nat), j < n → Below w.heap.size w W → Calls Try.prog k (first.push (.int .i64 j) ++ cap) W fun e W' => e = .returned (.int .i64 (f j : Nat)) ∧ Below W.heap.size W W'
theorem Nums.now {f k first cap n} {w w' : World} (h : Nums f k first cap n w) (hb : Below w.heap.size w w') : Nums f k first cap n w' :=
  ⟨h.enters, fun W j hj hb' => h.gives W j hj (bfrom hb hb')⟩
theorem countSwings_nums (q : Int) (b off n cap : Nat) (ws : List Int) (w : World) (hn : n < 10) (hok : InK 0 1000 ws n) (hsl : Sl w b off n ws) :
    Nums (fun k => cnt (swP (winB q ws n) k) (2^n)) 94 #[.agg #[.int .i64 q, .slice (some ⟨b, off, none⟩) n cap]] #[] n w :=
  ⟨enters_of Try.func94 (by kernel_rfl) rfl, fun W k hk hb => countSwings_any q b off n cap ws k W hn hk hok (hsl.now hb)⟩

end Go.Proofs.Ytibmaofcnibjnaa

namespace Go.Proofs.Ytibmaofcnibjnaa
open Go.RowKit Vo

/-- Block g holds who wins, of all sets. -/
abbrev WinsIn (p : Nat → Bool) (n g : Nat) (w : World) : Prop := Own w g 4 (2^n) (fun j => .bool (p j))

/-- Numbers as integers. -/
def natsL (L : List Nat) : List Int := L.map fun s => ((s : Nat) : Int)
theorem natsL_len (L : List Nat) : (natsL L).length = L.length := by simp [natsL]
theorem natsL_append (L M : List Nat) : natsL (L ++ M) = natsL L ++ natsL M := by simp [natsL]
theorem swL_le (p : Nat → Bool) (k N : Nat) : (swL p k N).length ≤ N := by rw [swL_len]; exact cnt_le _ _

theorem bit_mod0 (s k : Nat) : ((s : Int) / 2 ^ k % 2 == 0) = !s.testBit k := by
  have h := bit_mod s k
  have h0 := div_nn s k
  generalize (s : Int) / 2 ^ k = x at *
  cases hb : s.testBit k
  · rw [hb] at h; simp at h ⊢; omega
  · rw [hb] at h; simp at h ⊢; omega
theorem shl_pow (k : Nat) (hk : k < 10) : wrap64 ((2 : Int) ^ k) = ((2 ^ k : Nat) : Int) := by
  have h1 : (2:Nat)^k ≤ 2^10 := Nat.pow_le_pow_right (by omega) (by omega)
  rw [show ((2 : Int) ^ k) = ((2 ^ k : Nat) : Int) from by simp]
  generalize 2 ^ k = x at *
  exact IntWalk.wrap64_in _ (by omega)

set_option maxHeartbeats 2000000 in
theorem pwSwings_any (p : Nat → Bool) (n k g cap : Nat) (w : World) (hn : n < 10) (hk : k < n) (hw : WinsIn p n g w) :
    Calls Try.prog 92 #[.slice (some ⟨g, 0, none⟩) (2^n : Nat) cap, .int .i64 k] w fun e w' => IntsAt (natsL (swL p k (2^n))) w w' e := by
  obtain ⟨i0, hi0, hz0, hz1, hz2⟩ := infoIntParts
  have HW := Lib.hid hw
  have hgl := hw.lt
  have h512 := pow_lt (n := n) (by omega)
  have HN := Lib.hid (show ∀ s, s < 2^n → s.testBit k = false → s + 2^k < 2^n ∧ s ||| 2^k = s + 2^k from fun s h hb => by rw [add_pow h hk hb]; exact ⟨or_pow_lt h hk, rfl⟩)
  have hsh := shl_pow k (by omega)
  have hP := Nat.pow_le_pow_right (show 1 ≤ 2 by omega) (show k ≤ 9 by omega)
  have HSW := Lib.hid (show ∀ s, swP p k s = (!s.testBit k && (!p s && p (s ||| 2^k))) from fun _ => rfl)
  clear hw
  obtain ⟨N, hN⟩ : ∃ N, 2^n = N := ⟨_, rfl⟩
  unfold WinsIn at HW
  rw [hN] at HW h512 HN ⊢
  clear hN
  obtain ⟨P, hPe⟩ : ∃ P, 2^k = P := ⟨_, rfl⟩
  rw [hPe] at HN hsh hP HSW
  clear hPe
  go_enter Try.func92, Try.ntmps92
  go_wp2
  go_loopw [5, 6, 7, 10] (fun v _ _ i wr => ∃ (j : Nat) (A : Option Addr) (cap : Nat), j ≤ N ∧ i = .int .i64 j ∧ v = .slice A (swL p k j).length cap ∧ wr.ownsRow w.heap.size 3 1 (.slice A (swL p k j).length cap) (swL p k j).length ((natsL (swL p k j)).map (Value.int .i64)) ∧ Below w.heap.size w wr) (fun _ _ _ i _ => N - (intOf i).toNat)
  case atStart => exact ⟨0, none, 0, by omega, rfl, rfl, World.ownsRow_nil _ _ _ _, Below.refl _ _⟩
  case round =>
    obtain ⟨j, A, cap4, hj, rfl, rfl, hown, hbr⟩ := hrel
    have HO := Lib.hid hown
    clear hown
    have hlen := swL_le p k j
    have hszr := hbr.size
    by_cases hlt : j < N
    · have hcell := (HW.out.below hbr hgl).cell hlt
      have HS := Lib.hid (swL_succ p k j)
      have hbm := bit_mod0 j k
      have hnn := div_nn j k
      obtain ⟨L, hL⟩ : ∃ L, swL p k j = L := ⟨_, rfl⟩
      rw [hL] at HO HS hlen ⊢
      clear hL
      obtain ⟨m, hm1⟩ : ∃ m, m = L.length := ⟨_, rfl⟩
      have HM := Lib.hid hm1
      rw [← hm1] at HO hlen ⊢
      clear hm1
      cases hbit : j.testBit k
      · cases hpj : p j
        · obtain ⟨hlt2, hor⟩ := HN.out j hlt hbit
          have hcell2 := (HW.out.below hbr hgl).cell hlt2
          have hsum : ((j : Int) + (P : Int)).toNat = j + P := by omega
          have hS2 := HSW.out j
          rw [hbit, hpj, hor] at hS2
          rw [hbit] at hbm
          rw [hpj] at hcell
          clear hbit hpj
          cases hpt : p (j + P)
          · rw [hpt] at hcell2 hS2
            rw [show swP p k j = false from hS2] at HS
            clear hpt hS2 hor
            have h0 : (0 : Int) ≤ (j : Int) + P := by omega
            have h1 : (j : Int) + P < N := by omega
            go_wp2
            go_roundw
            case rel => exact ⟨j + 1, A, cap4, by omega, by go_num, by rw [HS.out, HM.out]; simp, by rw [HS.out]; simpa [HM.out] using HO.out, hbr⟩
            case measure => simp [intOf]; omega
          · rw [hpt] at hcell2 hS2
            rw [show swP p k j = true from hS2] at HS
            clear hpt hS2 hor
            have h0 : (0 : Int) ≤ (j : Int) + P := by omega
            have h1 : (j : Int) + P < N := by omega
            go_wp2_with (at_builtin; refine wpList_append_lies _ rfl _ _ _ rfl w.heap.size 3 i0 _ 1 8 Try.underlying22 hi0 hz0 hz1 hz2 rfl (by decide) (.slice A m cap4) m ((natsL L).map (Value.int .i64)) rfl (HO.out.alloc _) ⟨wr.heap.size, 0, none⟩ 1 1 [.int .i64 j] rfl rfl (World.news_of_block (cs := #[.int .i64 j]) (t := 3) (fr := (0, 0)) (heap_alloc_new wr _)) (by simp [Value.oneCell']) (by omega) (by unfold maxLen; omega) (by omega) (by simp; omega) (wr.heap.size + 1) (by simp) ?_; intro gg cap2 w4 hown4 hgrow hat hlt4)
            have hb4 : Below w.heap.size w w4 := (hbr.alloc hszr (.cells #[.int .i64 j] 3)).grown hgrow (by simp; omega) fun i hi => owns_le HO.out hi
            go_roundw
            case rel => exact ⟨j + 1, some ⟨gg, 0, none⟩, cap2, by omega, by go_num, by rw [HS.out, HM.out]; simp, by rw [HS.out]; simpa [HM.out, natsL] using hown4, hb4⟩
            case measure => simp [intOf]; omega
        · have hS2 := HSW.out j
          rw [hbit, hpj] at hS2
          rw [show swP p k j = false from hS2] at HS
          rw [hbit] at hbm
          rw [hpj] at hcell
          clear hbit hpj hS2
          go_wp2
          go_roundw
          case rel => exact ⟨j + 1, A, cap4, by omega, by go_num, by rw [HS.out, HM.out]; simp, by rw [HS.out]; simpa [HM.out] using HO.out, hbr⟩
          case measure => simp [intOf]; omega
      · have hS2 := HSW.out j
        rw [hbit] at hS2
        rw [show swP p k j = false from hS2] at HS
        rw [hbit] at hbm
        clear hbit hS2
        go_wp2
        go_roundw
        case rel => exact ⟨j + 1, A, cap4, by omega, by go_num, by rw [HS.out, HM.out]; simp, by rw [HS.out]; simpa [HM.out] using HO.out, hbr⟩
        case measure => simp [intOf]; omega
    · obtain rfl : j = N := by omega
      have HE := Lib.hid (natsL_len (swL p k j))
      go_wp2
      go_ret
      exact ⟨A, cap4, by rw [HE.out]; rfl, by rw [HE.out]; exact HO.out, hbr⟩

set_option maxHeartbeats 2000000 in
theorem pwCounts_any (p : Nat → Bool) (n g cap : Nat) (w : World) (hn : n < 10) (hw : WinsIn p n g w) :
    Calls Try.prog 63 #[.slice (some ⟨g, 0, none⟩) (2^n : Nat) cap, .int .i64 n] w fun e w' => IntsAt (perL (fun k => cnt (swP p k) (2^n)) n) w w' e := by
  obtain ⟨i0, hi0, hz0, hz1, hz2⟩ := infoIntParts
  have HW := Lib.hid hw
  have hgl := hw.lt
  have h512 := pow_lt (n := n) (by omega)
  have HC := Lib.hid (fun k (W : World) (hk : k < n) (hb : Below w.heap.size w W) => pwSwings_any p n k g cap W hn hk (Own.below hw hb hgl))
  obtain ⟨f, hf⟩ : ∃ f, f = fun k => cnt (swP p k) (2^n) := ⟨_, rfl⟩
  have HF := Lib.hid (show ∀ k, (natsL (swL p k (2^n))).length = f k from fun k => by rw [natsL_len, swL_len, hf])
  have HFB := Lib.hid (show ∀ k, f k ≤ 512 from fun k => by rw [hf]; exact Nat.le_trans (cnt_le _ _) h512)
  rw [← hf]
  clear hw hf h512
  obtain ⟨N, hN⟩ : ∃ N, 2^n = N := ⟨_, rfl⟩
  rw [hN] at HF HC ⊢
  clear hN HW
  go_enter Try.func63, Try.ntmps63
  go_wp2
  go_loopw [5, 6] (fun u i wr => ∃ (j : Nat) (A : Option Addr) (cap : Nat), j ≤ n ∧ i = .int .i64 j ∧ u = .slice A j cap ∧ wr.ownsRow w.heap.size 3 1 (.slice A j cap) j ((perL f j).map (Value.int .i64)) ∧ Below w.heap.size w wr) (fun _ i _ => n - (intOf i).toNat)
  case atStart => exact ⟨0, none, 0, by omega, rfl, rfl, World.ownsRow_nil _ _ _ _, Below.refl _ _⟩
  case round =>
    obtain ⟨j, A, cap3, hj, rfl, rfl, hown, hbr⟩ := hrel
    have HO := Lib.hid hown
    have hszr := hbr.size
    clear hown
    by_cases hlt : j < n
    · have HS := Lib.hid (perL_succ f j)
      have hfb := HFB.out j
      go_wp2_with (first | (go_at_call 92; refine (HC.out j _ hlt hbr).mono ?_; rintro e w5 ⟨A5, cap5, rfl, hown5, hb5⟩; rw [HF.out]; clear hown5; have HO5 := Lib.hid (owns_now HO.out hb5); have b5 := hbr.trans (hb5.mono hszr); have hsz5 := b5.size) | (at_builtin; refine wpList_append_lies _ rfl _ _ _ rfl w.heap.size 3 i0 _ 1 8 Try.underlying22 hi0 hz0 hz1 hz2 rfl (by decide) (.slice A j cap3) j ((perL f j).map (Value.int .i64)) rfl (HO5.out.alloc _) ⟨w5.heap.size, 0, none⟩ 1 1 [.int .i64 (f j : Nat)] rfl rfl (World.news_of_block (cs := #[.int .i64 (f j : Nat)]) (t := 3) (fr := (0, 0)) (heap_alloc_new w5 _)) (by simp [Value.oneCell']) (by omega) (by unfold maxLen; omega) (by omega) (by simp; omega) (w5.heap.size + 1) (by simp) ?_; intro gg cap4 w6 hown6 hgrow6 hat hlt6))
      have b6 : Below w.heap.size w w6 := (b5.alloc hsz5 (.cells #[.int .i64 (f j : Nat)] 3)).grown hgrow6 (by simp; omega) fun i hi => owns_le HO5.out hi
      go_roundw
      case rel => exact ⟨j + 1, some ⟨gg, 0, none⟩, cap4, by omega, by go_num, by simp, by rw [HS.out]; simpa using hown6, b6⟩
      case measure => simp [intOf]; omega
    · obtain rfl : j = n := by omega
      have HLE := Lib.hid (perL_len f j)
      go_wp2
      go_ret
      exact ⟨A, cap3, by rw [HLE.out]; rfl, by rw [HLE.out]; exact HO.out, hbr⟩
end Go.Proofs.Ytibmaofcnibjnaa
