/- Contract of the model's SplitMember. -/
import Derived.Test.YtbecagfokcadnaaQa
import Derived.Test.YtbecagfokcadnaaPz
import Derived.Outline
namespace Go.Proofs.Ytbecagfokcadnaa
open Go.RowKit Vo

set_option maxRecDepth 20000 in
set_option maxHeartbeats 2000000 in
theorem sSplitMember_core (q : Int) (A : Option Addr) (n : Nat) (ws : List Int) (x y : Int) (w : World) (hm : n ≤ 9223372036854775807) (hk : Known w A n ws) :
    Calls Try.prog 12 #[.agg #[.int .i64 q, .slice A n n], .int .i64 x, .int .i64 y] w fun e w' => ComAt (qIf (splitOk q ws n x y) q) (nIf (splitOk q ws n x y) (n + 1)) (splitL ws n x.toNat y) (splitOk q ws n x y) w w' e := by
  have HK := Lib.hid hk
  clear hk
  have hb0 : Below w.heap.size w ((w.alloc (.cells #[.int .i64 q, .slice A n n] 26)).alloc (.cells #[.int .i64 0, .slice none 0 0] 26)) := (below1 w _).alloc (by simp) _
  have hx := (Box.new w (.int .i64 q) (.slice A n n)).alloc (.cells #[.int .i64 0, .slice none 0 0] 26)
  have hr := Box.new (w.alloc (.cells #[.int .i64 q, .slice A n n] 26)) (.int .i64 0) (.slice none 0 0)
  simp only [World.size_alloc] at hr
  cases hok : splitOk q ws n x y with
  | false =>
    have HO := Lib.hid hok
    clear hok
    go_enter Try.func12, Try.ntmps12
    go_wp2_with fail
    refine (unPart_any q A n n ws x y _ hm (HK.out.now hb0)).mono ?_
    rintro e w1 ⟨rfl, hb1⟩
    rw [HO.out]
    have g1 := bfrom hb0 hb1
    have hr1 := hr.now hb1
    obtain ⟨d0, d1⟩ := hr1.cells
    obtain ⟨f0, f1⟩ := frozen2 hr1
    clear hr hb0 hb1 hx
    go_wp2
    refine bodyPost_ret (v := .tuple #[.agg #[.int .i64 0, .slice none 0 0], .bool false]) (by simp [results, Try.results12, go_sem, d0, d1]) rfl ?_
    exact ComAt.fail ((g1.setCell (by simp) _).setCell (by simp) _)
  | true =>
    obtain ⟨hask, h9⟩ := splitOk_parts hok
    obtain ⟨hg, hxb, hy0, hy1⟩ := partAsk_parts hask
    have HO := Lib.hid hok
    obtain ⟨b, off, rfl, hsl⟩ := HK.out.get hg.lo
    obtain ⟨i, rfl⟩ : ∃ i : Nat, x = i := ⟨x.toNat, by omega⟩
    rw [Int.toNat_natCast] at hy1 ⊢
    have HSL := Lib.hid hsl
    have HU := Lib.hid (fun W (h : Sl W b off n ws) => unSplit_any q b off n i ws y W (by omega) hg hy0 hy1 h)
    clear hok hask hg hsl
    go_enter Try.func12, Try.ntmps12
    go_wp2_with fail
    refine (unPart_any q _ n n ws i y _ hm (HK.out.now hb0)).mono ?_
    rintro e w1 ⟨rfl, hb1⟩
    rw [HO.out]
    have g1 := bfrom hb0 hb1
    have hr1 := hr.now hb1
    obtain ⟨c0, c1⟩ := (hx.now hb1).cells
    go_wp2_with fail
    refine (HU.out _ (HSL.out.now g1)).mono ?_
    rintro e w2 ⟨g, cp, rfl, hge, hI, hb2⟩
    have HI := Lib.hid hI
    have g2 := bfrom g1 hb2
    have hr2 := hr1.now hb2
    have hz1 := hr1.lt
    obtain ⟨d0, d1⟩ := hr2.cells
    obtain ⟨f0, f1⟩ := frozen2 hr2
    have hgr : g ≠ w.heap.size + 1 := by omega
    have hgw : w.heap.size ≤ g := by omega
    clear hr hb0 hb1 hx c0 c1 hI
    go_wp2
    refine bodyPost_ret (v := .tuple #[.agg #[.int .i64 q, .slice (some ⟨g, 0, none⟩) (n + 1) cp], .bool true]) (by simp [results, Try.results12, go_sem, d0, d1]) rfl ?_
    exact ⟨_, _, rfl, Or.inr ⟨g, rfl, hgw, (HI.out.far (by simpa using hgr) _).far (by simpa using hgr) _⟩, (g2.setCell (by simp) _).setCell (by simp) _⟩
theorem sSplitMember_any (q : Int) (A : Option Addr) (n cap : Nat) (ws : List Int) (x y : Int) (w : World) (hm : n ≤ 9223372036854775807) (hk : Known w A n ws) (_hxw : (Lit.int .i64 x).wf = true) (_hyw : (Lit.int .i64 y).wf = true) (hcap : n = cap := by exact rfl) :
    Calls Try.prog 12 #[.agg #[.int .i64 q, .slice A n cap], .int .i64 x, .int .i64 y] w fun e w' => ComAt (qIf (splitOk q ws n x y) q) (nIf (splitOk q ws n x y) (n + 1)) (splitL ws n x.toNat y) (splitOk q ws n x y) w w' e := by
  subst hcap
  exact sSplitMember_core q A n ws x y w hm hk
end Go.Proofs.Ytbecagfokcadnaa
