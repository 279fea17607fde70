/- The model's count of games: the recursion as a pure function. -/
import Derived.Test.YtpcijgdpinmcmabJ6
import Derived.Maps.AppendAt
import Derived.Outline
namespace Go.Proofs.Ytpcijgdpinmcmab
open Go.RowKit Vo

/-- Whether a part of set f with one member less wins. -/
def undB (S f : Nat) : Nat → Bool
  | 0 => false
  | i+1 => undB S f i || (f.testBit i && S.testBit (f - 2^i))
def leafB (N S : Nat) (pr : Bool) : Bool := (!S.testBit (N-1) || S.testBit 0) || (pr && !allK (fun s => !S.testBit s || !S.testBit (N - 1 - s)) N)
/-- How many games there are whose first sets win as the bits of S say. -/
def eachK (N n : Nat) (pr : Bool) : Nat → Nat → Nat
  | 0, S => if leafB N S pr then 0 else 1
  | d+1, S => (if undB S (N-(d+1)) n then 0 else eachK N n pr d S) + eachK N n pr d (S + 2^(N-(d+1)))
theorem eachK_le (N n : Nat) (pr : Bool) : ∀ d S, eachK N n pr d S ≤ 2^d
  | 0, S => by unfold eachK; split <;> simp
  | d+1, S => by
    unfold eachK
    have h1 := eachK_le N n pr d S
    have h2 := eachK_le N n pr d (S + 2^(N-(d+1)))
    rw [Nat.pow_succ]
    split <;> omega
theorem bit_put {S f j : Nat} (h : S < 2^f) : (S + 2^f).testBit j = if j = f then true else S.testBit j := by
  rw [Nat.add_comm]
  by_cases e : j = f
  · subst e
    rw [if_pos rfl, Nat.testBit_two_pow_add_eq, Nat.testBit_lt_two_pow h]; rfl
  · rw [if_neg e]
    rcases Nat.lt_or_ge j f with hl | hl
    · exact Nat.testBit_two_pow_add_gt hl S
    · have h1 : 2^f + S < 2^j := by
        have : 2^(f+1) ≤ 2^j := Nat.pow_le_pow_right (by omega) (by omega)
        rw [Nat.pow_succ] at this
        omega
      have h2 : S < 2^j := by omega
      rw [Nat.testBit_lt_two_pow h1, Nat.testBit_lt_two_pow h2]
theorem grown_below {w w' : World} {r : Option Nat} (h : Below w.heap.size w w') : w.grownBy w' r := ⟨h.os, h.tape, h.output, h.size, fun k hk _ => h.block k hk⟩
theorem grown_set7 (w : World) (g i : Nat) (v : Value) : w.grownBy (w.setCell ⟨g, i, none⟩ v) (some g) :=
  ⟨rfl, rfl, rfl, by simp [World.setCell], fun k _ hk => Below.heap_setCell _ _ _ _ (fun e => hk (by rw [e]))⟩
theorem Own.ext {w : World} {g : Nat} {t : TypeId} {n : Nat} {f f' : Nat → Value} (h : Own w g t n f) (e : ∀ j, j < n → f j = f' j) : Own w g t n f' := by
  obtain ⟨c, h1, h2, h3⟩ := h
  exact ⟨c, h1, h2, fun i hi => by rw [h3 i hi, e i hi]⟩
abbrev bits (S : Nat) : Nat → Value := fun j => .bool (S.testBit j)

set_option maxRecDepth 20000 in
set_option maxHeartbeats 4000000 in
theorem gmEach_leaf (N n : Nat) (pr : Bool) (S g cap : Nat) (w : World) (h1 : 1 ≤ N) (hN : N ≤ 512) (hw : Own w g 4 N (bits S)) :
    Calls Try.prog 76 #[.slice (some ⟨g, 0, none⟩) N cap, .int .i64 N, .int .i64 n, .bool pr] w fun e w' => e = .returned (.int .i64 (eachK N n pr 0 S)) ∧ w = w' := by
  have HO := Lib.hid hw
  have hcell := hw.cell (i := N - 1) (by omega)
  have hcell2 := hw.cell (i := 0) (by omega)
  have hcoi : ((N : Int) - 1).toNat = N - 1 := by omega
  have h0 : (0 : Int) ≤ (N : Int) - 1 := by omega
  have h2 : (N : Int) - 1 < N := by omega
  have HE := Lib.hid (show eachK N n pr 0 S = if (!S.testBit (N-1) || S.testBit 0) || (pr && !allK (fun s => !S.testBit s || !S.testBit (N - 1 - s)) N) then 0 else 1 from rfl)
  have HP := Lib.hid (gmProper_any (fun j => S.testBit j) N g cap w hN hw)
  generalize allK (fun s => !S.testBit s || !S.testBit (N - 1 - s)) N = al at *
  simp only [bits] at hcell hcell2
  clear hw
  cases hb1 : S.testBit (N - 1) <;> cases hb2 : S.testBit 0 <;> cases pr <;> cases al
  all_goals
    rw [hb1] at hcell HE
    rw [hb2] at hcell2 HE
    clear hb1 hb2
    go_enter Try.func76, Try.ntmps76
    go_wp2_with (first
      | (go_at_call 103; refine HP.out.mono ?_; rintro e w1 ⟨rfl, rfl⟩))
    go_ret
    exact ⟨by rw [HE.out]; rfl, rfl⟩
set_option maxHeartbeats 2000000 in
theorem gmEach_any (N n : Nat) (pr : Bool) (hN : N = 2^n) (hn1 : 1 ≤ n) (hn : n ≤ 4) : ∀ d f S g cap w, f + d = N → S < 2^f → Own w g 4 N (bits S) →
    Calls Try.prog 76 #[.slice (some ⟨g, 0, none⟩) N cap, .int .i64 f, .int .i64 n, .bool pr] w fun e w' => e = .returned (.int .i64 (eachK N n pr d S)) ∧ Own w' g 4 N (bits S) ∧ w.grownBy w' (some g) := by
  have hN16 : N ≤ 16 := by rw [hN]; exact Nat.pow_le_pow_right (by omega) hn
  have hN2 : 2 ≤ N := by rw [hN]; exact Nat.pow_le_pow_right (n := 2) (by omega) hn1
  clear hN
  intro d
  induction d with
  | zero =>
    intro f S g cap w hf hS hw
    obtain rfl : f = N := by omega
    refine (gmEach_leaf f n pr S g cap w (by omega) (by omega) hw).mono ?_
    rintro e w' ⟨rfl, rfl⟩
    exact ⟨rfl, hw, grown_below (Below.refl _ _)⟩
  | succ d ih =>
    intro f S g cap w hf hS hw
    have hfN : f < N := by omega
    have hfe : N - (d+1) = f := by omega
    have HK := Lib.hid (show eachK N n pr (d+1) S = (if undB S f n then 0 else eachK N n pr d S) + eachK N n pr d (S + 2^f) from by rw [← hfe]; rfl)
    have hp : 2^d ≤ 2^16 := Nat.pow_le_pow_right (by omega) (by omega)
    have hla := eachK_le N n pr d S
    have hlb := eachK_le N n pr d (S + 2^f)
    have hla2 : eachK N n pr d S ≤ 65536 := by omega
    have hlb2 : eachK N n pr d (S + 2^f) ≤ 65536 := by omega
    have hS2 : S + 2^f < 2^(f+1) := by rw [Nat.pow_succ]; omega
    have hS1 : S < 2^(f+1) := by omega
    have HI := Lib.hid (fun S' cap w (h2 : S' < 2^(f+1)) h3 => show Calls Try.prog 76 #[.slice (some ⟨g, 0, none⟩) N cap, .int .i64 ((f : Int) + 1), .int .i64 n, .bool pr] w (fun e w' => e = .returned (.int .i64 (eachK N n pr d S')) ∧ Own w' g 4 N (bits S') ∧ w.grownBy w' (some g)) from ih (f+1) S' g cap w (by omega) h2 h3)
    have HSF := Lib.hid (fun W (h : Own W g 4 N (bits S)) => show Own (W.setCell ⟨g, f, none⟩ (.bool false)) g 4 N (bits S) from (h.set f (.bool false)).ext fun j _ => by
      by_cases e : j = f
      · subst e; rw [if_pos rfl]; simp [bits, Nat.testBit_lt_two_pow hS]
      · rw [if_neg e])
    have HST := Lib.hid (fun W (h : Own W g 4 N (bits S)) => show Own (W.setCell ⟨g, f, none⟩ (.bool true)) g 4 N (bits (S + 2^f)) from (h.set f (.bool true)).ext fun j _ => by
      simp only [bits, bit_put hS]
      by_cases e : j = f
      · rw [if_pos e, if_pos e]
      · rw [if_neg e, if_neg e])
    have HSB := Lib.hid (fun W (h : Own W g 4 N (bits (S + 2^f))) => show Own (W.setCell ⟨g, f, none⟩ (.bool false)) g 4 N (bits S) from (h.set f (.bool false)).ext fun j _ => by
      simp only [bits, bit_put hS]
      by_cases e : j = f
      · subst e; rw [if_pos rfl, Nat.testBit_lt_two_pow hS]
      · rw [if_neg e, if_neg e])
    have HS1 := Lib.hid hS1
    have HS2 := Lib.hid hS2
    have HO := Lib.hid hw
    have hgl := hw.lt
    have hne : (f : Int) ≠ N := by omega
    have hnb : ((f : Int) == N) = false := beq_false_of_ne hne
    have HU0 := Lib.hid (show undB S f 0 = false from rfl)
    clear ih hp hla hlb hS1 hS2 hw hfe
    obtain ⟨a, ha⟩ : ∃ a, a = eachK N n pr d S := ⟨_, rfl⟩
    obtain ⟨b, hb⟩ : ∃ b, b = eachK N n pr d (S + 2^f) := ⟨_, rfl⟩
    rw [← ha] at HK hla2
    rw [← hb] at HK hlb2
    have HA := Lib.hid ha
    have HB := Lib.hid hb
    clear ha hb
    go_enter Try.func76, Try.ntmps76
    go_wp2_with fail
    go_loop [10, 11] (fun v i => ∃ k : Nat, k ≤ n ∧ i = .int .i64 k ∧ v = .bool (undB S f k)) (fun _ i => n - (intOf i).toNat)
    case atStart => exact ⟨0, Nat.zero_le _, rfl, rfl⟩
    case round =>
      obtain ⟨k, hk, rfl, rfl⟩ := hrel
      by_cases hlt : k < n
      · have HUS := Lib.hid (show undB S f (k+1) = (undB S f k || (f.testBit k && S.testBit (f - 2^k))) from rfl)
        generalize undB S f k = u at *
        have hnn := div_nn f k
        have hb := bit_mod f k
        have hge : f.testBit k = true → 2^k ≤ f := fun h => Nat.ge_two_pow_of_testBit h
        have hk4 : k = 0 ∨ k = 1 ∨ k = 2 ∨ k = 3 := by omega
        have hcl : f.testBit k = true → w.cell? ⟨g, f - 2^k, none⟩ = some (.bool (S.testBit (f - 2^k))) := fun h => HO.out.cell (i := f - 2^k) (by have := Nat.two_pow_pos k; have := hge h; omega)
        cases hbit : f.testBit k
        · rw [hbit] at hb HUS
          clear hge hcl hbit
          go_wp2
          go_round
          case rel => exact ⟨k + 1, by omega, by go_num, by rw [HUS.out]; simp⟩
          case measure => simp [intOf]; omega
        · rw [hbit] at hb HUS
          have hge2 := hge hbit
          have hcell := hcl hbit
          clear hge hcl hbit
          generalize S.testBit (f - 2^k) = y at *
          rcases hk4 with rfl | rfl | rfl | rfl <;> cases u
          · simp only [Nat.reducePow] at hcell hge2
            go_wp2
            go_round
            case rel => exact ⟨1, by omega, by go_num, by rw [show undB S f 1 = _ from HUS.out]; simp⟩
            case measure => simp [intOf]; omega
          · simp only [Nat.reducePow] at hcell hge2
            go_wp2
            go_round
            case rel => exact ⟨1, by omega, by go_num, by rw [show undB S f 1 = _ from HUS.out]; simp⟩
            case measure => simp [intOf]; omega
          · simp only [Nat.reducePow] at hcell hge2
            go_wp2
            go_round
            case rel => exact ⟨2, by omega, by go_num, by rw [show undB S f 2 = _ from HUS.out]; simp⟩
            case measure => simp [intOf]; omega
          · simp only [Nat.reducePow] at hcell hge2
            go_wp2
            go_round
            case rel => exact ⟨2, by omega, by go_num, by rw [show undB S f 2 = _ from HUS.out]; simp⟩
            case measure => simp [intOf]; omega
          · simp only [Nat.reducePow] at hcell hge2
            go_wp2
            go_round
            case rel => exact ⟨3, by omega, by go_num, by rw [show undB S f 3 = _ from HUS.out]; simp⟩
            case measure => simp [intOf]; omega
          · simp only [Nat.reducePow] at hcell hge2
            go_wp2
            go_round
            case rel => exact ⟨3, by omega, by go_num, by rw [show undB S f 3 = _ from HUS.out]; simp⟩
            case measure => simp [intOf]; omega
          · simp only [Nat.reducePow] at hcell hge2
            go_wp2
            go_round
            case rel => exact ⟨4, by omega, by go_num, by rw [show undB S f 4 = _ from HUS.out]; simp⟩
            case measure => simp [intOf]; omega
          · simp only [Nat.reducePow] at hcell hge2
            go_wp2
            go_round
            case rel => exact ⟨4, by omega, by go_num, by rw [show undB S f 4 = _ from HUS.out]; simp⟩
            case measure => simp [intOf]; omega
      · obtain rfl : k = n := by omega
        have HL0 := Lib.hid (show Own (w.alloc (.cells #[.bool false, .bool true] 4)) w.heap.size 4 2 (fun j => .bool (decide (j = 1))) from ⟨_, heap_alloc_new w _, by simp, fun i hi => by
          have : i = 0 ∨ i = 1 := by omega
          rcases this with rfl | rfl <;> rfl⟩)
        have HO1 := Lib.hid (HO.out.below (below1 w (.cells #[.bool false, .bool true] 4)) hgl)
        have hgr1 : w.grownBy (w.alloc (.cells #[.bool false, .bool true] 4)) (some g) := grown_below (below1 w _)
        generalize undB S f k = u at *
        obtain ⟨A, hA⟩ : ∃ A : Nat, A = if u then 0 else a := ⟨_, rfl⟩
        rw [← hA] at HK
        have hA5 : A ≤ 65536 := by rw [hA]; split <;> omega
        have HAA := Lib.hid hA
        clear hA
        go_wp2_with fail
        go_loopw [9, 60] (fun s i wr => Own wr w.heap.size 4 2 (fun j => .bool (decide (j = 1))) ∧ w.grownBy wr (some g) ∧ ((i = .int .i64 0 ∧ s = .int .i64 0 ∧ Own wr g 4 N (bits S)) ∨ (i = .int .i64 1 ∧ s = .int .i64 A ∧ Own wr g 4 N (bits S)) ∨ (i = .int .i64 2 ∧ s = .int .i64 ((A + b : Nat) : Int) ∧ Own wr g 4 N (bits (S + 2^f))))) (fun _ i _ => 2 - (intOf i).toNat)
        case atStart => exact ⟨HL0.out, hgr1, Or.inl ⟨rfl, rfl, HO1.out⟩⟩
        case round =>
          obtain ⟨hL, hgr, hh⟩ := hrel
          have hl0 := hL.cell (i := 0) (by omega)
          have hl1 := hL.cell (i := 1) (by omega)
          have hLl := hL.lt
          have HL := Lib.hid hL
          have HG := Lib.hid hgr
          simp only [decide_true, show decide (0 = 1) = false from rfl] at hl0 hl1
          clear hL hgr
          rcases hh with ⟨rfl, rfl, hO⟩ | ⟨rfl, rfl, hO⟩ | ⟨rfl, rfl, hO⟩
          · have hcf := hO.cell (i := f) hfN
            have hff := hO.frozen f
            have HOr := Lib.hid hO
            clear hO
            cases u
            · have HAE := Lib.hid (show A = a from HAA.out)
              go_wp2_with (first
                | (go_at_call 76; refine (HI.out S cap _ HS1.out (HSF.out _ HOr.out)).mono ?_; rintro e w5 ⟨rfl, hO5, hg5⟩; rw [← HA.out]; have HO5 := Lib.hid hO5; have HG5 := Lib.hid hg5; clear hO5 hg5))
              have hL5 := (HL.out.far (p := ⟨g, f, none⟩) (by simp; omega) (.bool false)).of_block (HG5.out.block w.heap.size (by simpa [World.setCell] using hLl) (by simp; omega))
              go_roundw
              case rel => exact ⟨hL5, (HG.out.trans (grown_set7 _ _ _ _)).trans HG5.out, Or.inr (Or.inl ⟨by go_num, by rw [HAE.out], HO5.out⟩)⟩
              case measure => simp [intOf]
            · have HAE := Lib.hid (show A = 0 from HAA.out)
              go_wp2
              go_roundw
              case rel => exact ⟨HL.out, HG.out, Or.inr (Or.inl ⟨by go_num, by rw [HAE.out]; rfl, HOr.out⟩)⟩
              case measure => simp [intOf]
          · have hcf := hO.cell (i := f) hfN
            have hff := hO.frozen f
            have HOr := Lib.hid hO
            clear hO
            cases u
            all_goals
              go_wp2_with (first
                | (go_at_call 76; refine (HI.out (S + 2^f) cap _ HS2.out (HST.out _ HOr.out)).mono ?_; rintro e w5 ⟨rfl, hO5, hg5⟩; rw [← HB.out]; have HO5 := Lib.hid hO5; have HG5 := Lib.hid hg5; clear hO5 hg5))
              have hL5 := (HL.out.far (p := ⟨g, f, none⟩) (by simp; omega) (.bool true)).of_block (HG5.out.block w.heap.size (by simpa [World.setCell] using hLl) (by simp; omega))
              go_roundw
              case rel => exact ⟨hL5, (HG.out.trans (grown_set7 _ _ _ _)).trans HG5.out, Or.inr (Or.inr ⟨by go_num, by go_num, HO5.out⟩)⟩
              case measure => simp [intOf]
          · have hcf := hO.cell (i := f) hfN
            have hff := hO.frozen f
            have HOr := Lib.hid hO
            clear hO
            go_wp2
            go_ret
            exact ⟨by rw [HK.out]; rfl, HSB.out _ HOr.out, HG.out.trans (grown_set7 _ _ _ _)⟩
end Go.Proofs.Ytpcijgdpinmcmab
