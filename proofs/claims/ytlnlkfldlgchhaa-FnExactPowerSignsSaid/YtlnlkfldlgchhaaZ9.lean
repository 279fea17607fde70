/- Contracts of the model's LeastSetShares and WeightShares. -/
import Derived.Test.YtlnlkfldlgchhaaZ8
import Derived.Test.YtlnlkfldlgchhaaZ5
import Derived.Outline
namespace Go.Proofs.Ytlnlkfldlgchhaa
open Go.RowKit Vo

/-- The weights, none behind the last member. -/
abbrev wtF (ws : List Int) (n : Nat) : Nat → Nat := fun k => if k < n then wtN ws k else 0
set_option maxRecDepth 20000 in
set_option maxHeartbeats 4000000 in
theorem shWeights_any (v : Int) (b off n cap : Nat) (ws : List Int) (w : World) (hn : n < 10) (hok : InK 0 1000 ws n) (hpos : 0 < sumN (wtF ws n) n) (hsl : Sl w b off n ws) :
    Calls Try.prog 80 #[.agg #[.int .i64 v, .slice (some ⟨b, off, none⟩) n cap]] w fun e w' =>
      ∃ A cp, e = .returned (.slice A n cp) ∧ w'.ownsRow w.heap.size 38 2 (.slice A n cp) n (shV (shL (wtF ws n) (sumN (wtF ws n) n) n)) ∧ Below w.heap.size w w' := by
  obtain ⟨i0, hi0, hz0, hz1, hz2⟩ := info_parts infoShare
  have hb0 := below1 w (.cells #[.int .i64 v, .slice (some ⟨b, off, none⟩) n cap] 28)
  have hx := Box.new w (.int .i64 v) (.slice (some ⟨b, off, none⟩) n cap)
  have hfb : ∀ j, wtF ws n j ≤ 1000 := fun j => wtN_le hok j
  have hsl2 := (hsl.now hb0).congr (ys := perL (wtF ws n) n) fun j hj => by
    rw [perL_get hj]
    have h := hok j hj
    simp only [wtF, hj, if_true]
    unfold wtN; omega
  have hD1 : sumN (wtF ws n) n ≤ 1000 * 9 := sumN_le2 (n := 9) hfb (by omega)
  obtain ⟨f, hf⟩ : ∃ f, f = wtF ws n := ⟨_, rfl⟩
  rw [← hf] at hfb hsl2 hpos hD1 ⊢
  have HSL := Lib.hid hsl2
  have HFF := Lib.hid hfb
  have HIN := Lib.hid (inK_perL (f := f) (n := n) fun k => hfb k)
  have HSK := Lib.hid (sumK_perL f (Nat.le_refl n))
  obtain ⟨D, hD⟩ : ∃ D, D = sumN f n := ⟨_, rfl⟩
  rw [← hD] at hpos hD1 HSK ⊢
  clear hok hsl hsl2 hf hfb hD
  go_enter Try.func80, Try.ntmps80
  go_wp2_with fail
  obtain ⟨w0, hw0⟩ : ∃ w0, w0 = w.alloc (.cells #[.int .i64 v, .slice (some ⟨b, off, none⟩) n cap] 28) := ⟨_, rfl⟩
  rw [← hw0] at hb0 hx HSL ⊢
  have hsz0 : w0.heap.size = w.heap.size + 1 := by rw [hw0]; simp
  clear hw0
  go_loopw [3, 5, 9] (fun v _ i wr => ∃ (j : Nat) (B : Option Addr) (cp : Nat), j ≤ n ∧ i = .int .i64 j ∧ v = .slice B j cp ∧ wr.ownsRow w0.heap.size 38 2 (.slice B j cp) j (shV (shL f D j)) ∧ Below w0.heap.size w0 wr) (fun _ _ i _ => n - (intOf i).toNat)
  case atStart => exact ⟨0, none, 0, Nat.zero_le _, rfl, rfl, World.ownsRow_nil _ _ _ _, Below.refl _ _⟩
  case round =>
    obtain ⟨j, B, cp, hj, rfl, rfl, hown, hbr⟩ := hrel
    have HO := Lib.hid hown
    have hszr := hbr.size
    have hsr := HSL.out.now hbr
    obtain ⟨c0, c1⟩ := (hx.now hbr).cells
    clear hown
    by_cases hlt : j < n
    · have hcell : wr.cell? ⟨b, off + j, none⟩ = some (.int .i64 (f j : Nat)) := by rw [hsr.cell j hlt, perL_get hlt]
      have HSR := Lib.hid hsr
      have HS := Lib.hid (shL_succ f D j)
      have hfj := HFF.out j
      have HLT := Lib.hid (fun W => pwShare_any (f j) D W hpos (by omega) (by omega))
      have HSH := Lib.hid (show share1 (f j) D = (((f j / Nat.gcd (f j) D : Nat) : Int), ((D / Nat.gcd (f j) D : Nat) : Int)) from rfl)
      clear hsr
      generalize f j / Nat.gcd (f j) D = a at *
      generalize D / Nat.gcd (f j) D = bb at *
      go_wp2_with (first
        | (go_at_call 89; refine (voSum_any b off n cap (perL f n) _ hn HIN.out HSR.out).mono ?_; rintro e w4 ⟨rfl, rfl⟩; rw [HSK.out])
        | (go_at_call 64; refine (HLT.out _).mono ?_; rintro e w5 ⟨rfl, hb5⟩; have HO5 := Lib.hid (owns_now HO.out hb5); have b5 := hbr.trans (hb5.mono (by omega)); have hsz5 := b5.size)
        | (at_builtin; refine wpList_append_lies _ rfl _ _ _ rfl w0.heap.size 38 i0 _ 2 16 Try.underlying42 hi0 hz0 hz1 hz2 rfl (by decide) (.slice B j cp) j (shV (shL f D j)) rfl (HO5.out.alloc _) ⟨w5.heap.size, 0, none⟩ 1 1 [.int .i64 a, .int .i64 bb] rfl rfl (World.news_of_block (cs := #[.int .i64 a, .int .i64 bb]) (t := 38) (fr := (0, 0)) (heap_alloc_new w5 _)) (by simp [Value.oneCell']) (by omega) (by unfold maxLen; omega) (by omega) (by simp; omega) (w5.heap.size + 1) (by simp) ?_; intro gg cap4 w6 hown6 hgrow6 hat hlt6))
      have b6 : Below w0.heap.size w0 w6 := (b5.alloc (by omega) (.cells #[.int .i64 a, .int .i64 bb] 38)).grown hgrow6 (by simp; omega) fun i hi => owns_le HO5.out hi
      go_roundw
      case rel => exact ⟨j + 1, some ⟨gg, 0, none⟩, cap4, by omega, by go_num, by simp, by rw [HS.out, shV_append, HSH.out]; simpa [shV] using hown6, b6⟩
      case measure => simp [intOf]; omega
    · obtain rfl : n = j := by omega
      go_wp2
      go_ret
      exact ⟨B, cp, rfl, owns_less HO.out (by omega), bfrom hb0 hbr⟩
end Go.Proofs.Ytlnlkfldlgchhaa
