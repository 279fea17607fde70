/- Contracts of the program's least winning sets and of what they give to members. -/
import Derived.Test.YtlnlkfldlgchhabA1
import Derived.Test.YtlnlkfldlgchhabZ1
import Derived.Test.YtlnlkfldlgchhabN5
import Derived.Test.YtlnlkfldlgchhabB1
import Derived.Outline
namespace Go.Proofs.Ytlnlkfldlgchhab
open Go.RowKit Vo

/-- The function value (k, first, cap), called with a set of a list, answers a number; it writes nothing that was there. -/
structure Gives (g : Nat → Nat) (L : List Nat) (k : Nat) (first cap : Array Value) (w : World) : Prop where
  enters : ∀ args W, (callFunc k args).run Try.prog W = .ok (.enter k args) W
  gives : ∀ (W : World) (s : Nat), s ∈ L → Below w.heap.size w W → Calls Try.prog k (first.push (.int .u64 s) ++ cap) W fun e W' => e = .returned (.int .i64 (g s : Nat)) ∧ Below W.heap.size W W'
theorem Gives.now {g L k first cap} {w w' : World} (h : Gives g L k first cap w) (hb : Below w.heap.size w w') : Gives g L k first cap w' :=
  ⟨h.enters, fun W s hs hb' => h.gives W s hs (bfrom hb hb')⟩

set_option maxRecDepth 20000 in
set_option maxHeartbeats 2000000 in
theorem gains1_any (g : Nat → Nat) (L : List Nat) (k : Nat) (first cap2 : Array Value) (A : Option Addr) (cp gs gf x : Nat) (base : Nat) (w : World) (hx9 : x < 9) (hL : L.length ≤ 512) (hin : ∀ s ∈ L, s < 512) (hg : ∀ s, g s ≤ 2520)
    (hf : Gives g L k first cap2 w) (hown : w.ownsRow base 77 1 (.slice A L.length cp) L.length (setsV L))
    (hs : Box1 126 w gs (.slice A L.length cp)) (hb2 : Box1 105 w gf (.func (.func k) first cap2)) :
    Calls Try.prog 153 #[.int .i64 x, .pointer (some ⟨gs, 0, none⟩), .pointer (some ⟨gf, 0, none⟩)] w fun e w' => e = .returned (.int .i64 (gainL g L x : Nat)) ∧ Below w.heap.size w w' := by
  have HF := Lib.hid hf
  have eg := hf.enters
  have HS := Lib.hid hs
  have HB := Lib.hid hb2
  have hgs := hs.lt
  have hgf := hb2.lt
  have hcs := hs.cell
  have HOW := Lib.hid hown
  have HIN := Lib.hid (show ∀ j, j < L.length → L.getD j 0 ∈ L ∧ L.getD j 0 < 512 from fun j hj => by
    have : L.getD j 0 ∈ L := by rw [List.getD_eq_getElem?_getD, List.getElem?_eq_getElem hj]; exact List.getElem_mem hj
    exact ⟨this, hin _ this⟩)
  have HGL := Lib.hid (fun j => gainL_take_le hg L x j)
  have HST := Lib.hid (fun j h => gainL_succ g L x j h)
  have HTK := Lib.hid (List.take_length (l := L))
  have HG := Lib.hid hg
  clear hf hs hb2 hown hin hg
  obtain ⟨m, hm⟩ : ∃ m, m = L.length := ⟨_, rfl⟩
  rw [← hm] at HOW HIN HST HTK hL hcs HS HGL
  have HM := Lib.hid hm
  clear hm
  go_enter Try.func153, Try.ntmps153
  go_wp2_with fail
  go_loopw [5, 7, 10] (fun t _ i wr => ∃ j : Nat, j ≤ m ∧ i = .int .i64 j ∧ t = .int .i64 (gainL g (L.take j) x : Nat) ∧ Below w.heap.size w wr) (fun _ _ i _ => m - (intOf i).toNat)
  case atStart => exact ⟨0, Nat.zero_le _, rfl, by simp [gainL], Below.refl _ _⟩
  case round =>
    obtain ⟨j, hj, rfl, rfl, hbr⟩ := hrel
    have hle := HGL.out j
    have hle2 : 2520 * m ≤ 2520 * 512 := Nat.mul_le_mul_left _ hL
    by_cases hlt : j < m
    · obtain ⟨ga, cp', hv, hga, _, _⟩ := owns_head HOW.out (by omega)
      obtain ⟨rfl, rfl⟩ : A = some ⟨ga, 0, none⟩ ∧ cp = cp' := by simpa using hv
      have hOwn : Own w ga 77 m (fun i => .int .u64 (L.getD i 0 : Nat)) := Own.of_own HOW.out (fun i hi => by simp [setsV, List.getD_eq_getElem?_getD, show i < L.length from by have := HM.out; omega])
      have hcell : wr.cell? ⟨ga, j, none⟩ = some (.int .u64 (L.getD j 0 : Nat)) := (hOwn.below hbr hOwn.lt).cell hlt
      obtain ⟨hmem, hs512⟩ := HIN.out j hlt
      have HMEM := Lib.hid hmem
      have HS2 := Lib.hid (HST.out j hlt)
      have hgx := HG.out (L.getD j 0)
      have hcf := (HB.out.now hbr).cell
      clear hOwn hv hmem
      generalize L.getD j 0 = s at *
      cases hbit : s.testBit x
      · have HBT := Lib.hid hbit
        rw [hbit] at HS2
        clear hbit
        go_wp2_with (go_at_call 154; refine (has_any s x _ (by omega) hs512).mono ?_; rintro e w' ⟨rfl, rfl⟩; rw [HBT.out])
        go_roundw
        case rel => exact ⟨j + 1, by omega, by go_num, by rw [HS2.out]; simp, hbr⟩
        case measure => simp [intOf]; omega
      · have HBT := Lib.hid hbit
        rw [hbit] at HS2
        clear hbit
        go_wp2_with (first
          | (go_at_call 154; refine (has_any s x _ (by omega) hs512).mono ?_; rintro e w' ⟨rfl, rfl⟩; rw [HBT.out])
          | (go_at_fn k; refine (HF.out.gives _ s HMEM.out hbr).mono ?_; rintro e w5 ⟨rfl, hb5⟩))
        go_roundw
        case rel => exact ⟨j + 1, by omega, by go_num, by rw [HS2.out]; simp, bfrom hbr hb5⟩
        case measure => simp [intOf]; omega
    · obtain rfl : m = j := by omega
      go_wp2
      go_ret
      exact ⟨by rw [HTK.out]; rfl, hbr⟩
theorem gains1_nums (g : Nat → Nat) (L : List Nat) (k : Nat) (first cap2 : Array Value) (A : Option Addr) (cp gs gf n : Nat) (base : Nat) (w : World) (hn : n < 10) (hL : L.length ≤ 512) (hin : ∀ s ∈ L, s < 512) (hg : ∀ s, g s ≤ 2520)
    (hf : Gives g L k first cap2 w) (hown : w.ownsRow base 77 1 (.slice A L.length cp) L.length (setsV L))
    (hs : Box1 126 w gs (.slice A L.length cp)) (hb2 : Box1 105 w gf (.func (.func k) first cap2)) :
    Nums (gainL g L) 153 #[] #[.pointer (some ⟨gs, 0, none⟩), .pointer (some ⟨gf, 0, none⟩)] n w :=
  ⟨enters_of Try.func153 (by kernel_rfl) rfl, fun W x hx hb => gains1_any g L k first cap2 A cp gs gf x base W (by omega) hL hin hg (hf.now hb) (owns_now hown hb) (hs.now hb) (hb2.now hb)⟩

set_option maxHeartbeats 1000000 in
theorem gains_any (g : Nat → Nat) (k : Nat) (first cap2 : Array Value) (q : Int) (b off n cap : Nat) (ws : List Int) (w : World) (hn : n < 10) (hok : InK 0 1000 ws n) (hsl : Sl w b off n ws) (hg : ∀ s, g s ≤ 2520) (hf : Gives g (lwL q ws n) k first cap2 w) :
    Calls Try.prog 104 #[.agg #[.int .i64 q, .slice (some ⟨b, off, none⟩) n cap], .func (.func k) first cap2] w fun e w' => IntsAt (perL (gainL g (lwL q ws n)) n) w w' e := by
  have HOK := Lib.hid hok
  have HF := Lib.hid hf
  have HG := Lib.hid hg
  have hb0 : Below w.heap.size w ((w.alloc (.cells #[.int .i64 q, .slice (some ⟨b, off, none⟩) n cap] 29)).alloc (.cells #[.func (.func k) first cap2] 105)) := (below1 w _).alloc (by simp) _
  have HSL := Lib.hid (hsl.now hb0)
  have hx := (Box.new w (.int .i64 q) (.slice (some ⟨b, off, none⟩) n cap)).alloc (.cells #[.func (.func k) first cap2] 105)
  have hfx := Box1.new 105 (w.alloc (.cells #[.int .i64 q, .slice (some ⟨b, off, none⟩) n cap] 29)) (.func (.func k) first cap2)
  simp only [World.size_alloc] at hfx
  have HL := Lib.hid (lwL_len (q := q) (ws := ws) (n := n) (by omega))
  have HIN := Lib.hid (show ∀ s ∈ lwL q ws n, s < 512 from fun s h => by have := (lwL_mem h).1; have := pow_lt (n := n) (by omega); omega)
  clear hok hsl hf hg
  go_enter Try.func104, Try.ntmps104
  go_wp2_with fail
  refine (leastWinning_any q b off n cap ws _ hn HOK.out HSL.out).mono ?_
  rintro e w1 ⟨A1, cap1, rfl, hown1, hb1⟩
  have g1 := bfrom hb0 hb1
  have HO1 := Lib.hid hown1
  have hx1 := hx.now hb1
  have hf1 := hfx.now hb1
  have b2 := below1 w1 (.cells #[.slice A1 (lwL q ws n).length cap1] 126)
  have hx2 := hx1.now b2
  have hf2 := hf1.now b2
  have hs2 := Box1.new 126 w1 (.slice A1 (lwL q ws n).length cap1)
  have g2 := bfrom g1 b2
  obtain ⟨c0, c1⟩ := hx2.cells
  clear hown1 hx hfx
  go_wp2_with fail
  refine (forEachMember_any _ _ _ _ q _ n cap _ hn (gains1_nums g (lwL q ws n) k first cap2 A1 cap1 w1.heap.size (w.heap.size + 1) n _ _ hn HL.out HIN.out HG.out (HF.out.now g2) (owns_now HO1.out b2) hs2 hf2)).mono ?_
  rintro e w3 ⟨A3, cap3, rfl, hown3, hb3⟩
  have HO3 := Lib.hid hown3
  clear hown3
  go_wp2
  go_ret
  exact ⟨A3, cap3, rfl, owns_less HO3.out g2.size, bfrom g2 hb3⟩

set_option maxHeartbeats 400000 in
theorem one_any (s : Nat) (w : World) : Calls Try.prog 105 #[.int .u64 s] w fun e w' => e = .returned (.int .i64 1) ∧ w = w' := by
  go_enter Try.func105, Try.ntmps105
  go_wp2
  go_ret
  exact ⟨rfl, rfl⟩
theorem one_gives (L : List Nat) (w : World) : Gives (fun _ => 1) L 105 #[] #[] w :=
  ⟨enters_of Try.func105 (by kernel_rfl) rfl, fun W s _ _ => (one_any s W).mono fun _ _ h => ⟨h.1, h.2 ▸ Below.refl _ _⟩⟩
set_option maxHeartbeats 400000 in
theorem part_any (s : Nat) (w : World) (hs : s < 512) (h0 : 1 ≤ sz s) : Calls Try.prog 112 #[.int .u64 s] w fun e w' => e = .returned (.int .i64 (partOf s : Nat)) ∧ w = w' := by
  have h9 := sz_le9 s
  have HZ := Lib.hid (show (mem s 9).length = sz s from rfl)
  have HP := Lib.hid (show ((partOf s : Nat) : Int) = (2520 : Int) / (sz s : Int) from by unfold partOf; simp)
  have hpl := partOf_le s
  generalize sz s = z at *
  have hz : ((z : Int) == 0) = false := by simp; omega
  go_enter Try.func112, Try.ntmps112
  go_wp2_with (go_at_call 113; refine (size_any s _ hs).mono ?_; rintro e w' ⟨rfl, rfl⟩; rw [HZ.out])
  go_ret
  exact ⟨ret_int HP.out.symm, rfl⟩
theorem part_gives (L : List Nat) (w : World) (hL : ∀ s ∈ L, s < 512 ∧ 1 ≤ sz s) : Gives partOf L 112 #[] #[] w :=
  ⟨enters_of Try.func112 (by kernel_rfl) rfl, fun W s hs _ => (part_any s W (hL s hs).1 (hL s hs).2).mono fun _ _ h => ⟨h.1, h.2 ▸ Below.refl _ _⟩⟩

set_option maxHeartbeats 400000 in
theorem leastSetCounts0_any (q : Int) (b off n cap : Nat) (ws : List Int) (w : World) (hn : n < 10) (hok : InK 0 1000 ws n) (hsl : Sl w b off n ws) :
    Calls Try.prog 56 #[.agg #[.int .i64 q, .slice (some ⟨b, off, none⟩) n cap]] w fun e w' => IntsAt (perL (gainL (fun _ => 1) (lwL q ws n)) n) w w' e := by
  have HOK := Lib.hid hok
  have hb0 := below1 w (.cells #[.int .i64 q, .slice (some ⟨b, off, none⟩) n cap] 29)
  have HSL := Lib.hid (hsl.now hb0)
  clear hok hsl
  go_enter Try.func56, Try.ntmps56
  go_wp2_with fail
  refine (gains_any (fun _ => 1) _ _ _ q b off n cap ws _ hn HOK.out HSL.out (fun _ => by omega) (one_gives _ _)).mono ?_
  rintro e w3 ⟨A3, cap3, rfl, hown3, hb3⟩
  have HO3 := Lib.hid hown3
  clear hown3
  go_wp2
  go_ret
  exact ⟨A3, cap3, rfl, owns_less HO3.out hb0.size, bfrom hb0 hb3⟩
set_option maxHeartbeats 400000 in
theorem evenGains_any (q : Int) (b off n cap : Nat) (ws : List Int) (w : World) (hn : n < 10) (hq : 1 ≤ q) (hok : InK 0 1000 ws n) (hsl : Sl w b off n ws) :
    Calls Try.prog 60 #[.agg #[.int .i64 q, .slice (some ⟨b, off, none⟩) n cap]] w fun e w' => IntsAt (perL (gainL partOf (lwL q ws n)) n) w w' e := by
  have HOK := Lib.hid hok
  have hb0 := below1 w (.cells #[.int .i64 q, .slice (some ⟨b, off, none⟩) n cap] 29)
  have HSL := Lib.hid (hsl.now hb0)
  have HPG := Lib.hid (fun W => part_gives (lwL q ws n) W (fun s h => by
    have h1 := (lwL_mem h).1
    have h2 := pow_lt (n := n) (by omega)
    exact ⟨by omega, sz_pos (by omega) h1 (lwL_pos hq h)⟩))
  clear hok hsl
  go_enter Try.func60, Try.ntmps60
  go_wp2_with fail
  refine (gains_any partOf _ _ _ q b off n cap ws _ hn HOK.out HSL.out partOf_le (HPG.out _)).mono ?_
  rintro e w3 ⟨A3, cap3, rfl, hown3, hb3⟩
  have HO3 := Lib.hid hown3
  clear hown3
  go_wp2
  go_ret
  exact ⟨A3, cap3, rfl, owns_less HO3.out hb0.size, bfrom hb0 hb3⟩
theorem leastSetCounts_lists (q : Int) (A : Option Addr) (n cap : Nat) (ws : List Int) (w : World) (hk : Known w A n ws) (hg : Vo.Good q ws n) :
    Lists (perL (gainL (fun _ => 1) (lwL q ws n)) n) 56 (.agg #[.int .i64 q, .slice A n cap]) w := by
  obtain ⟨b, off, rfl, hsl⟩ := hk.get hg.lo
  exact ⟨enters_of Try.func56 (by kernel_rfl) rfl, fun W hb => leastSetCounts0_any q b off n cap ws W (by have := hg.hi; omega) hg.ok (hsl.now hb)⟩
theorem evenGains_lists (q : Int) (A : Option Addr) (n cap : Nat) (ws : List Int) (w : World) (hk : Known w A n ws) (hg : Vo.Good q ws n) :
    Lists (perL (gainL partOf (lwL q ws n)) n) 60 (.agg #[.int .i64 q, .slice A n cap]) w := by
  obtain ⟨b, off, rfl, hsl⟩ := hk.get hg.lo
  exact ⟨enters_of Try.func60 (by kernel_rfl) rfl, fun W hb => evenGains_any q b off n cap ws W (by have := hg.hi; omega) hg.q1 hg.ok (hsl.now hb)⟩

def leastSetCountsL (q : Int) (ws : List Int) (n : Nat) : List Int := okL (goodB q ws n) (perL (gainL (fun _ => 1) (lwL q ws n)) n)
theorem leastSetCountsL_len (q : Int) (ws : List Int) (n : Nat) : (leastSetCountsL q ws n).length ≤ 1048576 := by
  by_cases hg : Vo.Good q ws n
  · exact okL_len (by rw [perL_len]; have := hg.hi; omega)
  · unfold leastSetCountsL; rw [okL_no (goodB_false hg)]; simp
end Go.Proofs.Ytlnlkfldlgchhab
