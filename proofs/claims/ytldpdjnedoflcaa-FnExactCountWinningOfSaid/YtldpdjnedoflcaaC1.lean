/- Contracts of CountWinningOf, the program's and the model's. -/
import Derived.Test.YtldpdjnedoflcaaS3
import Derived.Test.YtldpdjnedoflcaaO2
namespace Go.Proofs.Ytldpdjnedoflcaa
open Go.RowKit Vo

/-- A winning set of a size. -/
def sizeP (q : Int) (ws : List Int) (n : Nat) (z : Int) (s : Nat) : Bool := (((mem s 9).length : Nat) : Int) == z && winB q ws n s
def ofOk (q : Int) (ws : List Int) (n : Nat) (z : Int) : Bool := goodB q ws n && inB z 0 n
def cntOf (q : Int) (ws : List Int) (n : Nat) (z : Int) : Int := if ofOk q ws n z then (cnt (sizeP q ws n z) (2^n) : Nat) else 0
theorem cntOf_yes {q ws n z} (h : ofOk q ws n z = true) : cntOf q ws n z = (cnt (sizeP q ws n z) (2^n) : Nat) := if_pos h
theorem cntOf_no {q ws n z} (h : ofOk q ws n z = false) : cntOf q ws n z = 0 := if_neg (by rw [h]; simp)

set_option maxRecDepth 20000 in
set_option maxHeartbeats 2000000 in
theorem sCountWinningOf_any (q : Int) (A : Option Addr) (n cap : Nat) (ws : List Int) (z : Int) (w : World) (hm : n ≤ 9223372036854775807) (hk : Known w A n ws) (_hz : (Lit.int .i64 z).wf = true) :
    Calls Try.prog 32 #[.agg #[.int .i64 q, .slice A n cap], .int .i64 z] w fun e w' =>
      e = .returned (.tuple #[.int .i64 (cntOf q ws n z), .bool (ofOk q ws n z)]) ∧ Below w.heap.size w w' := by
  have HK := Lib.hid hk
  clear hk
  have hx := Box.new w (.int .i64 q) (.slice A n cap)
  have hb0 := below1 w (.cells #[.int .i64 q, .slice A n cap] 27)
  by_cases hg : Vo.Good q ws n
  · obtain ⟨b, off, rfl, hsl⟩ := HK.out.get hg.lo
    have HSL := Lib.hid hsl
    have HOK := Lib.hid hg.ok
    have HGB := Lib.hid (goodB_true hg)
    have hn9 := hg.hi
    have h512 := pow_lt hn9
    clear hg hsl
    cases hin : inB z 0 n with
    | true =>
      have HI := Lib.hid hin
      have HF := Lib.hid (show ofOk q ws n z = true from by unfold ofOk; rw [HGB.out, hin]; rfl)
      clear hin
      go_enter Try.func32, Try.ntmps32
      go_wp2_with fail
      refine (voGood_any q _ n cap ws _ hm (HK.out.now hb0)).mono ?_
      rintro e w1 ⟨rfl, hb⟩
      rw [HGB.out]
      obtain ⟨hc0, hc1⟩ := (hx.now hb).cells
      go_wp2_with fail
      refine (l1In_any z 0 n _).mono ?_
      rintro e w1 ⟨rfl, rfl⟩
      rw [HI.out]
      go_wp2_with fail
      refine (voWins_any q b off n cap ws _ (by omega) HOK.out ((HSL.out.now hb0).now hb)).mono ?_
      rintro e w2 ⟨g, cap2, rfl, hg, hown, hb2⟩
      have HO := Lib.hid hown
      have hgl := hown.lt
      clear hown hc0 hc1
      have HC := Lib.hid (cntOf_yes HF.out)
      obtain ⟨N, hN⟩ : ∃ N, 2^n = N := ⟨_, rfl⟩
      rw [hN] at HO HC h512 ⊢
      clear hN
      go_wp2_with fail
      go_loopw [6, 7, 8, 23] (fun c _ _ i wr => ∃ k : Nat, k ≤ N ∧ i = .int .i64 k ∧ c = .int .i64 (cnt (sizeP q ws n z) k : Nat) ∧ Below w2.heap.size w2 wr) (fun _ _ _ i _ => N - (intOf i).toNat)
      case atStart => exact ⟨0, Nat.zero_le _, rfl, rfl, Below.refl _ _⟩
      case round =>
        obtain ⟨k, hk, rfl, rfl, hbr⟩ := hrel
        have hcl := cnt_le (sizeP q ws n z) k
        by_cases hlt : k < N
        · have hcell := (HO.out.below hbr hgl).cell hlt
          have HS := Lib.hid (show cnt (sizeP q ws n z) (k+1) = cnt (sizeP q ws n z) k + if ((((mem k 9).length : Nat) : Int) == z && winB q ws n k) then 1 else 0 from rfl)
          generalize cnt (sizeP q ws n z) k = t at *
          cases hwin : winB q ws n k
          · rw [hwin] at hcell HS
            clear hwin
            go_wp2
            go_roundw
            case rel => exact ⟨k + 1, by omega, by go_num, by rw [HS.out]; simp, hbr⟩
            case measure => simp [intOf]; omega
          · rw [hwin] at hcell HS
            clear hwin
            cases heq : (((mem k 9).length : Nat) : Int) == z
            all_goals
              rw [heq] at HS
              go_wp2_with (go_at_call 65; refine (voList_any k _ (by omega)).mono ?_; rintro e w5 ⟨A5, cap5, rfl, hown5, hb5⟩)
              go_roundw
              case rel => exact ⟨k + 1, by omega, by go_num, by rw [HS.out]; simp, hbr.trans (hb5.mono hbr.size)⟩
              case measure => simp [intOf]; omega
        · obtain rfl : k = N := by omega
          go_wp2
          go_ret2
          exact ⟨by rw [HF.out, HC.out]; rfl, bfrom hb0 (bfrom hb (bfrom hb2 hbr))⟩
    | false =>
      have HI := Lib.hid hin
      have HF := Lib.hid (show ofOk q ws n z = false from by unfold ofOk; rw [hin]; simp)
      clear hin
      go_enter Try.func32, Try.ntmps32
      go_wp2_with fail
      refine (voGood_any q _ n cap ws _ hm (HK.out.now hb0)).mono ?_
      rintro e w1 ⟨rfl, hb⟩
      rw [HGB.out]
      obtain ⟨hc0, hc1⟩ := (hx.now hb).cells
      go_wp2_with fail
      refine (l1In_any z 0 n _).mono ?_
      rintro e w1 ⟨rfl, rfl⟩
      rw [HI.out]
      go_wp2
      go_ret2
      exact ⟨by rw [cntOf_no HF.out, HF.out]; rfl, bfrom hb0 hb⟩
  · have HGB := Lib.hid (goodB_false hg)
    have HF := Lib.hid (show ofOk q ws n z = false from by unfold ofOk; rw [HGB.out]; rfl)
    clear hg
    go_enter Try.func32, Try.ntmps32
    go_wp2_with fail
    refine (voGood_any q A n cap ws _ hm (HK.out.now hb0)).mono ?_
    rintro e w1 ⟨rfl, hb⟩
    rw [HGB.out]
    go_wp2
    go_ret2
    exact ⟨by rw [cntOf_no HF.out, HF.out]; rfl, bfrom hb0 hb⟩

/-- The box of a number. -/
def BoxI (w : World) (g : Nat) (v : Value) : Prop := w.heap[g]? = some (.cells #[v] 3 (0, 0))
namespace BoxI
variable {w w' : World} {g : Nat} {v : Value}
theorem lt (h : BoxI w g v) : g < w.heap.size := (Array.getElem?_eq_some_iff.1 h).1
theorem cell (h : BoxI w g v) : w.cell? ⟨g, 0, none⟩ = some v := by unfold BoxI at h; simp [World.cell?, h]
theorem now (h : BoxI w g v) (hb : Below w.heap.size w w') : BoxI w' g v := (hb.block g h.lt).trans h
theorem drew (h : BoxI w g v) : BoxI w.drew g v := h
theorem new (w : World) (v : Value) : BoxI (w.alloc (.cells #[v] 3)) w.heap.size v := heap_alloc_new w _
end BoxI

set_option maxRecDepth 20000 in
set_option maxHeartbeats 2000000 in
theorem of1_any (q : Int) (b off n cap g g2 : Nat) (ws : List Int) (z : Int) (s : Nat) (w : World) (hn : n < 10) (hs : s < 2^n) (hok : InK 0 1000 ws n) (hsl : Sl w b off n ws) (hx : Box w g (.int .i64 q) (.slice (some ⟨b, off, none⟩) n cap)) (hi : BoxI w g2 (.int .i64 z)) :
    Calls Try.prog 66 #[.int .u64 s, .pointer (some ⟨g2, 0, none⟩), .pointer (some ⟨g, 0, none⟩)] w fun e w' => e = .returned (.bool (sizeP q ws n z s)) ∧ Below w.heap.size w w' := by
  have HOK := Lib.hid hok
  have HSL := Lib.hid hsl
  have h512 : s < 512 := by have := pow_lt (n := n) (by omega); omega
  clear hok hsl
  have hglt := hx.lt
  have hglt2 := hi.lt
  obtain ⟨hc0, hc1⟩ := hx.cells
  have hci := hi.cell
  cases heq : (((mem s 9).length : Nat) : Int) == z
  · have HP := Lib.hid (show sizeP q ws n z s = false from by unfold sizeP; rw [heq]; rfl)
    go_enter Try.func66, Try.ntmps66
    go_wp2_with fail
    go_quiet ((go_at_call 67; exact Calls.quiet_of_same ((size_any s _ h512).mono fun _ _ h => ⟨h.1, h.2.symm⟩)))
    go_wp2
    go_ret
    exact ⟨by rw [HP.out]; simp, below_drewN (Below.refl _ _) _⟩
  · have HP := Lib.hid (show sizeP q ws n z s = decide (q ≤ wtK ws s n) from by unfold sizeP; rw [heq]; rfl)
    go_enter Try.func66, Try.ntmps66
    go_wp2_with fail
    go_region_held3 (fun w' => w'.cell? ⟨g, 0, none⟩ = some (.int .i64 q) ∧ w'.cell? ⟨g, 1, none⟩ = some (.slice (some ⟨b, off, none⟩) n cap) ∧ w'.cell? ⟨g2, 0, none⟩ = some (.int .i64 z))
      (first | go_keep | exact ⟨hd.1, hd.2, hd3⟩)
      (first
        | (go_at_call 67; refine (size_any s _ h512).mono ?_; rintro e w2 ⟨rfl, rfl⟩)
        | (go_at_call 51; refine (wins_any q b off n cap ws s _ hn h512 HOK.out HSL.out.drew).mono ?_; rintro e w3 ⟨rfl, hb3⟩; have hd := (hx.drew.now hb3).cells; have hd3 := (hi.drew.now hb3).cell))
    go_wp2
    go_ret
    exact ⟨by rw [HP.out]; simp, bfrom (Below.refl _ _).drew hb3⟩
end Go.Proofs.Ytldpdjnedoflcaa
