/- Contracts of SwingsOf, the program's and the model's. -/
import Derived.Test.YtlnlkfldlgchhabN4
import Derived.Test.YtlnlkfldlgchhabK1
import Derived.Deep.RegionHeld3
namespace Go.Proofs.Ytlnlkfldlgchhab
open Go.RowKit Vo

/-- The function value (k, none bound), called with a committee, answers with these integers in memory of its own. -/
structure Lists (L : List Int) (k : Nat) (c : Value) (w : World) : Prop where
  enters : ∀ args W, (callFunc k args).run Try.prog W = .ok (.enter k args) W
  gives : ∀ (W : World), Below w.heap.size w W → Calls Try.prog k #[c] W fun e W' => IntsAt L W W' e
theorem Lists.now {L k c} {w w' : World} (h : Lists L k c w) (hb : Below w.heap.size w w') : Lists L k c w' := ⟨h.enters, fun W hb' => h.gives W (bfrom hb hb')⟩

def okL (ok : Bool) (L : List Int) : List Int := if ok then L else []
theorem okL_yes {ok L} (h : ok = true) : okL ok L = L := if_pos h
theorem okL_no {ok L} (h : ok = false) : okL ok L = [] := if_neg (by rw [h]; simp)
theorem okL_len {ok L} {N : Nat} (h : L.length ≤ N) : (okL ok L).length ≤ N := by unfold okL; split; exact h; simp

set_option maxHeartbeats 1000000 in
theorem numbersOf_any (L : List Int) (k : Nat) (q : Int) (A : Option Addr) (n cap : Nat) (ws : List Int) (w : World) (hm : n ≤ 9223372036854775807) (hk : Known w A n ws)
    (hl : Vo.Good q ws n → Lists L k (.agg #[.int .i64 q, .slice A n cap]) w) :
    Calls Try.prog 149 #[.agg #[.int .i64 q, .slice A n cap], .func (.func k) #[] #[]] w fun e w' => PairAt (okL (goodB q ws n) L) (goodB q ws n) w w' e := by
  have HK := Lib.hid hk
  clear hk
  have hx := Box.new w (.int .i64 q) (.slice A n cap)
  have hb0 := below1 w (.cells #[.int .i64 q, .slice A n cap] 29)
  by_cases hg : Vo.Good q ws n
  · have HL := Lib.hid (hl hg)
    have eg := (hl hg).enters
    have HGB := Lib.hid (goodB_true hg)
    clear hg hl
    go_enter Try.func149, Try.ntmps149
    go_wp2_with fail
    refine (isCommittee_any q _ n cap ws _ hm (HK.out.now hb0)).mono ?_
    rintro e w1 ⟨rfl, hb⟩
    rw [HGB.out]
    have g1 := bfrom hb0 hb
    obtain ⟨hc0, hc1⟩ := (hx.now hb).cells
    have HV := Lib.hid (okL_yes (L := L) HGB.out)
    go_wp2_with (go_at_fn k; refine (HL.out.gives _ g1).mono ?_; rintro e w2 ⟨A2, cap2, rfl, hown, hb2⟩; have HO := Lib.hid hown; clear hown)
    go_ret2
    exact ⟨A2, cap2, by rw [HV.out, HGB.out]; rfl, by rw [HV.out]; exact owns_less HO.out g1.size, bfrom g1 hb2⟩
  · have HGB := Lib.hid (goodB_false hg)
    clear hg hl
    go_enter Try.func149, Try.ntmps149
    go_wp2_with fail
    refine (isCommittee_any q A n cap ws _ hm (HK.out.now hb0)).mono ?_
    rintro e w1 ⟨rfl, hb⟩
    rw [HGB.out]
    go_wp2
    go_ret2
    rw [okL_no HGB.out, HGB.out]
    exact PairAt.none_ (bfrom hb0 hb)

/-- How many swings each member has. -/
def swingN (q : Int) (ws : List Int) (n : Nat) (k : Nat) : Nat := cnt (swP (winB q ws n) k) (2^n)
def swingsL (q : Int) (ws : List Int) (n : Nat) : List Int := okL (goodB q ws n) (perL (swingN q ws n) n)

theorem swings_lists (q : Int) (A : Option Addr) (n cap : Nat) (ws : List Int) (w : World) (hk : Known w A n ws) (hg : Vo.Good q ws n) :
    Lists (perL (swingN q ws n) n) 81 (.agg #[.int .i64 q, .slice A n cap]) w := by
  obtain ⟨b, off, rfl, hsl⟩ := hk.get hg.lo
  exact ⟨enters_of Try.func81 (by kernel_rfl) rfl, fun W hb => swings_any q b off n cap ws W (by have := hg.hi; omega) hg.ok (hsl.now hb)⟩

theorem swingsL_len (q : Int) (ws : List Int) (n : Nat) : (swingsL q ws n).length ≤ 1048576 := by
  by_cases hg : Vo.Good q ws n
  · exact okL_len (by rw [perL_len]; have := hg.hi; omega)
  · unfold swingsL; rw [okL_no (goodB_false hg)]; simp
end Go.Proofs.Ytlnlkfldlgchhab
