/- The model's sums of sets; how many votings there are, both sides. -/
import Derived.Test.YtlnlkfldlgchhabUc
import Derived.Test.YtlnlkfldlgchhabS3
import Derived.Outline
namespace Go.Proofs.Ytlnlkfldlgchhab
open Go.RowKit Vo

theorem hasK_in {xs : List Int} {z : Int} : ∀ m, hasK xs z m = true → ∃ k, k < m ∧ xs.getD k 0 = z
  | 0, h => by simp [hasK] at h
  | m+1, h => by
    simp only [hasK, Bool.or_eq_true, decide_eq_true_iff] at h
    rcases h with h | h
    · obtain ⟨k, hk, e⟩ := hasK_in m h; exact ⟨k, by omega, e⟩
    · exact ⟨m, by omega, h⟩
theorem hasK_mem {L : List Int} {z : Int} : hasK L z L.length = decide (z ∈ L) := by
  by_cases h : z ∈ L
  · rw [decide_eq_true h]
    obtain ⟨k, hk, e⟩ := List.mem_iff_getElem.1 h
    exact hasK_yes hk (by rw [List.getD_eq_getElem?_getD, List.getElem?_eq_getElem hk]; exact e)
  · rw [decide_eq_false h]
    cases hh : hasK L z L.length with
    | false => rfl
    | true =>
      obtain ⟨k, hk, e⟩ := hasK_in _ hh
      exact absurd (by rw [← e]; exact at_mem hk) h
set_option maxHeartbeats 400000 in
theorem l1Has_nil (z : Int) (w : World) : Calls Try.prog 114 #[.slice none 0 0, .int .i64 z] w fun e w' => e = .returned (.bool false) ∧ w = w' := by
  go_enter Try.func114, Try.ntmps114
  go_wp2
  go_loop [9] (fun i => i = .int .i64 0) (fun _ => 0)
  case atStart => rfl
  case round =>
    obtain rfl := hrel
    go_wp2
    go_ret
    exact ⟨rfl, rfl⟩
theorem l1Has_row (L : List Int) (z : Int) (base j cp : Nat) (B : Option Addr) (w : World) (hlen : L.length = j) (hj5 : j ≤ 1024) (hown : w.ownsRow base 3 1 (.slice B j cp) j (intsV L)) :
    Calls Try.prog 114 #[.slice B j cp, .int .i64 z] w fun e w' => e = .returned (.bool (decide (z ∈ L))) ∧ w = w' := by
  rcases hown.2 with ⟨hv, hn⟩ | ⟨gb, cb, cur, hv, hgb, hh, hcb, hcm, _⟩
  · obtain ⟨rfl, rfl, rfl⟩ : B = none ∧ j = 0 ∧ cp = 0 := by simpa using hv
    obtain rfl : L = [] := List.length_eq_zero_iff.1 hlen
    exact l1Has_nil z w
  · obtain ⟨rfl, rfl⟩ : B = some ⟨gb, 0, none⟩ ∧ cp = cb := by simpa using hv
    have hO : Own w gb 3 j (fun i => .int .i64 (L.getD i 0)) := Own.of_own hown fun i hi => by
      have : i < L.length := by omega
      simp [intsV, List.getD_eq_getElem?_getD, this]
    have hs : Sl w gb 0 j L := ⟨hO.lt, fun k hk => by rw [Nat.zero_add]; exact hO.cell hk⟩
    refine (l1Has_any gb 0 j cp L z w (by omega) hs).mono ?_
    rintro e w' ⟨rfl, rfl⟩
    rw [← hlen, hasK_mem]
    exact ⟨rfl, rfl⟩

/-- The sums of the first j sets that are greater than nothing. -/
def SumsTo (ws : List Int) (n j : Nat) (L : List Int) : Prop := L.length < j ∧ L.Pairwise (· < ·) ∧ ∀ y, y ∈ L ↔ 0 < y ∧ ∃ s, s < j ∧ wtK ws s n = y
theorem SumsTo.one (ws : List Int) (n : Nat) : SumsTo ws n 1 [] := by
  refine ⟨by simp, List.Pairwise.nil, fun y => ⟨fun h => by simp at h, ?_⟩⟩
  rintro ⟨h, s, hs, e⟩
  obtain rfl : s = 0 := by omega
  rw [wtK_nought] at e
  omega
theorem SumsTo.same {ws : List Int} {n j : Nat} {L : List Int} (h : SumsTo ws n j L) (hx : 0 < wtK ws j n → wtK ws j n ∈ L) : SumsTo ws n (j+1) L := by
  refine ⟨by have := h.1; omega, h.2.1, fun y => ⟨fun hy => ?_, ?_⟩⟩
  · obtain ⟨hp, s, hs, e⟩ := (h.2.2 y).1 hy
    exact ⟨hp, s, by omega, e⟩
  · rintro ⟨hp, s, hs, e⟩
    by_cases es : s = j
    · subst es; rw [← e]; exact hx (by rw [e]; exact hp)
    · exact (h.2.2 y).2 ⟨hp, s, by omega, e⟩
theorem SumsTo.put {ws : List Int} {n j : Nat} {L L' : List Int} (h : SumsTo ws n j L) (hx : 0 < wtK ws j n) (h1 : L'.length = L.length + 1) (h2 : L'.Pairwise (· < ·)) (h3 : ∀ y, y ∈ L' ↔ y = wtK ws j n ∨ y ∈ L) : SumsTo ws n (j+1) L' := by
  refine ⟨by have := h.1; omega, h2, fun y => ?_⟩
  rw [h3]
  constructor
  · rintro (rfl | hy)
    · exact ⟨hx, j, by omega, rfl⟩
    · obtain ⟨hp, s, hs, e⟩ := (h.2.2 y).1 hy
      exact ⟨hp, s, by omega, e⟩
  · rintro ⟨hp, s, hs, e⟩
    by_cases es : s = j
    · subst es; exact Or.inl e.symm
    · exact Or.inr ((h.2.2 y).2 ⟨hp, s, by omega, e⟩)
theorem SumsTo.all {ws : List Int} {n : Nat} {L : List Int} (h : SumsTo ws n (2^n) L) : L = posL ws n := by
  obtain ⟨h3, h4⟩ := pos_facts ws n
  exact strict_unique h.2.1 h3 fun x => by rw [h.2.2, h4]

set_option maxRecDepth 20000 in
set_option maxHeartbeats 4000000 in
theorem shSums_any (q : Int) (b off n cap : Nat) (ws : List Int) (w : World) (h1 : 1 ≤ n) (hn : n < 10) (hok : InK 0 1000 ws n) (hsl : Sl w b off n ws) :
    Calls Try.prog 63 #[.agg #[.int .i64 q, .slice (some ⟨b, off, none⟩) n cap]] w fun e w' => ∃ C c, e = .returned (.slice C (posL ws n).length c) ∧ w'.ownsRow w.heap.size 3 1 (.slice C (posL ws n).length c) (posL ws n).length (intsV (posL ws n)) ∧ Below w.heap.size w w' := by
  have hb0 := below1 w (.cells #[.int .i64 q, .slice (some ⟨b, off, none⟩) n cap] 29)
  have hx := Box.new w (.int .i64 q) (.slice (some ⟨b, off, none⟩) n cap)
  have HSL := Lib.hid (hsl.now hb0)
  have HOK := Lib.hid hok
  have h512 := pow_lt (n := n) (by omega)
  obtain ⟨w0, hw0⟩ : ∃ w0, w0 = w.alloc (.cells #[.int .i64 q, .slice (some ⟨b, off, none⟩) n cap] 29) := ⟨_, rfl⟩
  have hpos := Nat.two_pow_pos n
  have HALL := Lib.hid (fun L (h : SumsTo ws n (2^n) L) => h.all)
  obtain ⟨N, hN⟩ : ∃ N, N = 2^n := ⟨_, rfl⟩
  have HE := Lib.hid (show ((2^n - 1 : Nat) : Int) = (N : Int) - 1 from by omega)
  rw [← hN] at h512 hpos HALL
  clear hN
  rw [← hw0] at hx hb0 HSL
  have K := Lib.hid (show ∀ W, Below w0.heap.size w0 W → (W.cell? ⟨w.heap.size, 0, none⟩ = some (.int .i64 q) ∧ W.cell? ⟨w.heap.size, 1, none⟩ = some (.slice (some ⟨b, off, none⟩) n cap)) from fun W hb => (hx.now hb).cells)
  have hzw : w.heap.size < w0.heap.size := by rw [hw0]; simp
  have HB0 := Lib.hid hb0
  clear hsl hok
  go_enter Try.func63, Try.ntmps63
  go_wp2_with fail
  rw [← hw0]
  clear hw0
  go_loopw [3, 4] (fun v i wr => ∃ (j m : Nat) (L : List Int) (A : Option Addr) (c : Nat), 1 ≤ j ∧ j ≤ N ∧ i = .int .i64 j ∧ v = .slice A m c ∧ L.length = m ∧ SumsTo ws n j L ∧ wr.ownsRow w0.heap.size 3 1 (.slice A m c) m (intsV L) ∧ Below w0.heap.size w0 wr) (fun _ i _ => N - (intOf i).toNat)
  case atStart => exact ⟨1, 0, [], none, 0, by omega, by omega, rfl, rfl, rfl, SumsTo.one ws n, World.ownsRow_nil _ _ _ _, Below.refl _ _⟩
  case round =>
    obtain ⟨j, m, L, A, c, hj1, hj, rfl, rfl, hlen, hst, hown, hb⟩ := hrel
    have HO := Lib.hid hown
    have HST := Lib.hid hst
    have HLEN := Lib.hid hlen
    have hmj : m < j := by rw [← hlen]; exact hst.1
    have hsz := hb.size
    obtain ⟨c0, c1⟩ := K.out _ hb
    clear hown hst hlen
    by_cases hlt : j < N
    · have HW := Lib.hid (fun W hs => voWeight_any (.int .i64 q) b off n cap ws j W hn (by omega) HOK.out hs)
      by_cases hx0 : 0 < wtK ws j n
      · by_cases hin : wtK ws j n ∈ L
        · have HST2 := Lib.hid (HST.out.same fun _ => hin)
          have HIN := Lib.hid (show decide (wtK ws j n ∈ L) = true from decide_eq_true hin)
          clear hin
          generalize wtK ws j n = x at *
          go_wp2_with (first
            | (go_at_call 110; refine (voAll_any n _ hn).mono ?_; rintro e w1 ⟨rfl, rfl⟩; rw [HE.out])
            | (go_at_call 111; refine (HW.out _ (HSL.out.now hb)).mono ?_; rintro e w5 ⟨rfl, hb5⟩; have HO5 := Lib.hid (owns_now HO.out hb5); have b5 := bfrom hb hb5; have hsz5 := b5.size)
            | (go_at_call 114; refine (l1Has_row L x _ m c A _ HLEN.out (by omega) HO5.out).mono ?_; rintro e w6 ⟨rfl, rfl⟩; rw [HIN.out]))
          go_roundw
          case rel => exact ⟨j + 1, m, L, A, c, by omega, by omega, by go_num, rfl, HLEN.out, HST2.out, HO5.out, b5⟩
          case measure => simp [intOf]; omega
        · have HPUT := Lib.hid (fun L' h1 h2 h3 => HST.out.put (L' := L') hx0 h1 h2 h3)
          have HIN := Lib.hid (show decide (wtK ws j n ∈ L) = false from decide_eq_false hin)
          have HNI := Lib.hid hin
          have HPW := Lib.hid HST.out.2.1
          clear hin
          generalize wtK ws j n = x at *
          go_wp2_with (first
            | (go_at_call 110; refine (voAll_any n _ hn).mono ?_; rintro e w1 ⟨rfl, rfl⟩; rw [HE.out])
            | (go_at_call 111; refine (HW.out _ (HSL.out.now hb)).mono ?_; rintro e w5 ⟨rfl, hb5⟩; have HO5 := Lib.hid (owns_now HO.out hb5); have b5 := bfrom hb hb5; have hsz5 := b5.size)
            | (go_at_call 114; refine (l1Has_row L x _ m c A _ HLEN.out (by omega) HO5.out).mono ?_; rintro e w6 ⟨rfl, rfl⟩; rw [HIN.out])
            | (go_at_call 115; refine (l1Put_any L x _ m c A _ HLEN.out (by omega) HPW.out HNI.out HO5.out).mono ?_; rintro e w7 ⟨C, c7, rfl, L', hl7, hp7, hm7, hown7, hb7⟩; have HO7 := Lib.hid (owns_less hown7 hsz5); have b7 := bfrom b5 hb7; have HS7 := Lib.hid (HPUT.out L' (by rw [hl7, HLEN.out]) hp7 hm7); have HL7 := Lib.hid hl7; clear hl7 hp7 hm7 hown7))
          go_roundw
          case rel => exact ⟨j + 1, m + 1, L', C, c7, by omega, by omega, by go_num, rfl, HL7.out, HS7.out, HO7.out, b7⟩
          case measure => simp [intOf]; omega
      · have HST2 := Lib.hid (HST.out.same fun h => absurd h hx0)
        generalize wtK ws j n = x at *
        go_wp2_with (first
          | (go_at_call 110; refine (voAll_any n _ hn).mono ?_; rintro e w1 ⟨rfl, rfl⟩; rw [HE.out])
          | (go_at_call 111; refine (HW.out _ (HSL.out.now hb)).mono ?_; rintro e w5 ⟨rfl, hb5⟩; have HO5 := Lib.hid (owns_now HO.out hb5); have b5 := bfrom hb hb5; have hsz5 := b5.size))
        go_roundw
        case rel => exact ⟨j + 1, m, L, A, c, by omega, by omega, by go_num, rfl, HLEN.out, HST2.out, HO5.out, b5⟩
        case measure => simp [intOf]; omega
    · obtain rfl : j = N := by omega
      have HPL := Lib.hid (HALL.out L HST.out)
      go_wp2_with (first
        | (go_at_call 110; refine (voAll_any n _ hn).mono ?_; rintro e w1 ⟨rfl, rfl⟩; rw [HE.out]))
      go_ret
      have e1 : m = (posL ws n).length := by rw [← HPL.out, HLEN.out]
      subst e1
      rw [HPL.out] at HO
      exact ⟨A, c, rfl, owns_less HO.out (Nat.le_of_lt hzw), bfrom HB0.out hb⟩
end Go.Proofs.Ytlnlkfldlgchhab
