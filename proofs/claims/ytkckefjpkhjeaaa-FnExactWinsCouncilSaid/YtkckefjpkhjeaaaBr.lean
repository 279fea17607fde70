/- Contracts of the program's councils: read, their games and powers. -/
import Derived.Test.YtkckefjpkhjeaaaBq
import Derived.Test.YtkckefjpkhjeaaaBh
import Derived.Test.YtkckefjpkhjeaaaN2
import Derived.Test.YtkckefjpkhjeaaaN8
namespace Go.Proofs.Ytkckefjpkhjeaaa
open Go.RowKit Vo

theorem put3 {t : TypeId} {w : World} {g : Nat} {x y z : Value} (h : w.heap[g]? = some (.cells #[x, y, z] t (0, 0))) (a b c : Value) : (((w.setCell ⟨g, 0, none⟩ a).setCell ⟨g, 1, none⟩ b).setCell ⟨g, 2, none⟩ c).heap[g]? = some (.cells #[a, b, c] t (0, 0)) := by
  simp [World.setCell, Array.getElem?_modify, h]
theorem cells3 {t : TypeId} {w : World} {g : Nat} {a b c : Value} (h : w.heap[g]? = some (.cells #[a, b, c] t (0, 0))) : w.cell? ⟨g, 0, none⟩ = some a ∧ w.cell? ⟨g, 1, none⟩ = some b ∧ w.cell? ⟨g, 2, none⟩ = some c ∧ w.frozen? ⟨g, 0, none⟩ = false ∧ w.frozen? ⟨g, 1, none⟩ = false ∧ w.frozen? ⟨g, 2, none⟩ = false := by
  exact ⟨by simp [World.cell?, h], by simp [World.cell?, h], by simp [World.cell?, h], by simp [World.frozen?, h], by simp [World.frozen?, h], by simp [World.frozen?, h]⟩

set_option maxRecDepth 20000 in
set_option maxHeartbeats 2000000 in
theorem readCouncil_yes (q : Int) (A : Option Addr) (n cap : Nat) (ws : List Int) (A2 : Option Addr) (k cp : Nat) (C : List (Int × List Int)) (w : World) (hm : n ≤ 9223372036854775807) (hk : Known w A n ws) (hm2 : k ≤ 9223372036854775807) (hk2 : KCS w A2 k C) (hc : cnB q ws n C = true) :
    Calls Try.prog 97 #[.agg #[.int .i64 q, .slice A n cap], .slice A2 k cp] w fun e w' => e = .returned (.tuple #[.agg #[.int .i64 q, .slice A n cap, .slice A2 k cp], .bool true]) ∧ Below w.heap.size w w' := by
  have HC := Lib.hid hc
  have hb0 : Below w.heap.size w ((w.alloc (.cells #[.int .i64 q, .slice A n cap] 47)).alloc (.cells #[.int .i64 0, .slice none 0 0, .slice none 0 0] 103)) := (below1 w _).alloc (by simp) _
  have hx := (Box.new w (.int .i64 q) (.slice A n cap)).alloc (.cells #[.int .i64 0, .slice none 0 0, .slice none 0 0] 103)
  have hr := heap_alloc_new (w.alloc (.cells #[.int .i64 q, .slice A n cap] 47)) (.cells #[.int .i64 0, .slice none 0 0, .slice none 0 0] 103)
  simp only [World.size_alloc] at hr
  have HAC := Lib.hid (iAreCouncil_any q A n cap ws A2 k cp C _ hm (hk.now hb0) hm2 (hk2.now hb0))
  obtain ⟨c0, c1⟩ := hx.cells
  clear hk hk2 hc
  go_enter Try.func97, Try.ntmps97
  go_wp2_with fail
  refine HAC.out.mono ?_
  rintro e w1 ⟨rfl, hb1⟩
  rw [HC.out]
  have g1 := bfrom hb0 hb1
  obtain ⟨d0, d1⟩ := (hx.now hb1).cells
  have hr1 : w1.heap[w.heap.size + 1]? = some (.cells #[.int .i64 0, .slice none 0 0, .slice none 0 0] 103 (0, 0)) := (hb1.block (w.heap.size + 1) (by simp)).trans hr
  obtain ⟨e0, e1, e2, f0, f1, f2⟩ := cells3 hr1
  clear hx hr c0 c1
  go_wp2
  have hr3 := put3 hr1 (.int .i64 q) (.slice A n cap) (.slice A2 k cp)
  obtain ⟨p0, p1, p2, _⟩ := cells3 hr3
  refine bodyPost_ret (v := .tuple #[.agg #[.int .i64 q, .slice A n cap, .slice A2 k cp], .bool true]) (by simp [results, Try.results97, go_sem, p0, p1, p2]) rfl ⟨rfl, ?_⟩
  exact ((g1.setCell (by simp) _).setCell (by simp) _).setCell (by simp) _

set_option maxRecDepth 20000 in
set_option maxHeartbeats 2000000 in
theorem readCouncil_no (q : Int) (A : Option Addr) (n cap : Nat) (ws : List Int) (A2 : Option Addr) (k cp : Nat) (C : List (Int × List Int)) (w : World) (hm : n ≤ 9223372036854775807) (hk : Known w A n ws) (hm2 : k ≤ 9223372036854775807) (hk2 : KCS w A2 k C) (hc : cnB q ws n C = false) :
    Calls Try.prog 97 #[.agg #[.int .i64 q, .slice A n cap], .slice A2 k cp] w fun e w' => e = .returned (.tuple #[.agg #[.int .i64 0, .slice none 0 0, .slice none 0 0], .bool false]) ∧ Below w.heap.size w w' := by
  have HC := Lib.hid hc
  have hb0 : Below w.heap.size w ((w.alloc (.cells #[.int .i64 q, .slice A n cap] 47)).alloc (.cells #[.int .i64 0, .slice none 0 0, .slice none 0 0] 103)) := (below1 w _).alloc (by simp) _
  have hx := (Box.new w (.int .i64 q) (.slice A n cap)).alloc (.cells #[.int .i64 0, .slice none 0 0, .slice none 0 0] 103)
  have hr := heap_alloc_new (w.alloc (.cells #[.int .i64 q, .slice A n cap] 47)) (.cells #[.int .i64 0, .slice none 0 0, .slice none 0 0] 103)
  simp only [World.size_alloc] at hr
  have HAC := Lib.hid (iAreCouncil_any q A n cap ws A2 k cp C _ hm (hk.now hb0) hm2 (hk2.now hb0))
  obtain ⟨c0, c1⟩ := hx.cells
  clear hk hk2 hc
  go_enter Try.func97, Try.ntmps97
  go_wp2_with fail
  refine HAC.out.mono ?_
  rintro e w1 ⟨rfl, hb1⟩
  rw [HC.out]
  have g1 := bfrom hb0 hb1
  have hr1 : w1.heap[w.heap.size + 1]? = some (.cells #[.int .i64 0, .slice none 0 0, .slice none 0 0] 103 (0, 0)) := (hb1.block (w.heap.size + 1) (by simp)).trans hr
  obtain ⟨e0, e1, e2, f0, f1, f2⟩ := cells3 hr1
  clear hx hr c0 c1
  go_wp2
  have hr3 := put3 hr1 (.int .i64 0) (.slice none 0 0) (.slice none 0 0)
  obtain ⟨p0, p1, p2, _⟩ := cells3 hr3
  refine bodyPost_ret (v := .tuple #[.agg #[.int .i64 0, .slice none 0 0, .slice none 0 0], .bool false]) (by simp [results, Try.results97, go_sem, p0, p1, p2]) rfl ⟨rfl, ?_⟩
  exact ((g1.setCell (by simp) _).setCell (by simp) _).setCell (by simp) _

theorem council_of {q : Int} {A A2 : Option Addr} {n k : Nat} {ws : List Int} {C : List (Int × List Int)} {w : World} (hk : Known w A n ws) (hk2 : KCS w A2 k C) (hc : cnB q ws n C = true) : k = n ∧ Council q A n ws A2 C w := by
  obtain ⟨h1, h2, h3, h4⟩ := cnB_parts hc
  have hkn : k = n := by rw [← hk2.1, h2]
  subst hkn
  exact ⟨rfl, hk, hk2, h1, h4, h3⟩

set_option maxRecDepth 20000 in
set_option maxHeartbeats 4000000 in
theorem iCouncilGame_ans (q : Int) (A : Option Addr) (n cap : Nat) (ws : List Int) (A2 : Option Addr) (k cp : Nat) (C : List (Int × List Int)) (w : World) (hm : n ≤ 9223372036854775807) (hk : Known w A n ws) (hm2 : k ≤ 9223372036854775807) (hk2 : KCS w A2 k C) (_hT : csum C k ≤ 1048576) :
    Calls Try.prog 49 #[.agg #[.int .i64 q, .slice A n cap], .slice A2 k cp] w fun e w' => AnsG RSS (okM (cnB q ws n C) (csum C n : Nat)) (okG (cnB q ws n C) ((inOrder (csum C n)).filter (leastP (councilP q ws n C) (csum C n)))) (cnB q ws n C) w w' e := by
  have hb0 : Below w.heap.size w ((w.alloc (.cells #[.int .i64 q, .slice A n cap] 47)).alloc (.cells #[.int .i64 0, .slice none 0 0] 37)) := (below1 w _).alloc (by simp) _
  have hx := (Box.new w (.int .i64 q) (.slice A n cap)).alloc (.cells #[.int .i64 0, .slice none 0 0] 37)
  have hr := BoxT.new 37 (w.alloc (.cells #[.int .i64 q, .slice A n cap] 47)) (.int .i64 0) (.slice none 0 0)
  simp only [World.size_alloc] at hr
  have KF := Lib.hid (show ∀ W, BoxT 37 W (w.heap.size + 1) (.int .i64 0) (.slice none 0 0) → (W.frozen? ⟨w.heap.size + 1, 0, none⟩ = false ∧ W.frozen? ⟨w.heap.size + 1, 1, none⟩ = false) from fun W h => by unfold BoxT at h; exact ⟨by simp [World.frozen?, h], by simp [World.frozen?, h]⟩)
  obtain ⟨c0, c1⟩ := hx.cells
  cases hc : cnB q ws n C with
  | true =>
    obtain ⟨hkn, hco⟩ := council_of hk hk2 hc
    subst hkn
    have h9 : csum C k < 10 := by have := hco.few; omega
    have HRC := Lib.hid (readCouncil_yes q A k cap ws A2 k cp C _ hm (hk.now hb0) hm2 (hk2.now hb0) hc)
    have HCA := Lib.hid (fun W (hb : Below w.heap.size w W) => cAssembly_any q A k cap ws A2 cp C W hm (hco.now hb))
    have HM := Lib.hid (okM_yes (m := ((csum C k : Nat) : Int)) (show true = true from rfl))
    have HG := Lib.hid (okG_yes (S := (inOrder (csum C k)).filter (leastP (councilP q ws k C) (csum C k))) (show true = true from rfl))
    rw [HM.out, HG.out]
    clear HM HG hk hk2 hc hco
    obtain ⟨m0, hm0⟩ : ∃ z, z = csum C k := ⟨_, rfl⟩
    rw [← hm0] at h9 ⊢
    simp only [← hm0] at HCA
    clear hm0
    have HGA := Lib.hid (fun g b wa W hh => aGame_any (councilP q ws k C) m0 g b wa W h9 hh)
    obtain ⟨L, hL⟩ : ∃ L, L = setsL ((inOrder m0).filter (leastP (councilP q ws k C) m0)) := ⟨_, rfl⟩
    simp only [← hL] at HGA
    rw [← hL]
    clear hL
    obtain ⟨ln, hln⟩ : ∃ z, z = L.length := ⟨_, rfl⟩
    simp only [← hln] at HGA
    have HLN := Lib.hid hln
    clear hln
    go_enter Try.func49, Try.ntmps49
    go_wp2_with fail
    refine HRC.out.mono ?_
    rintro e w1 ⟨rfl, hb1⟩
    have g1 := bfrom hb0 hb1
    have b2 := below1 w1 (.cells #[.int .i64 q, .slice A k cap, .slice A2 k cp] 103)
    have hy := CBox.new q A k cap A2 k cp w1
    obtain ⟨d0, d1, d2⟩ := hy.cells
    have g2 := bfrom g1 b2
    have HR2 := Lib.hid ((hr.now hb1).now b2)
    have hzz := (hr.now hb1).lt
    clear hx hr c0 c1 hy
    go_wp2_with (first
      | (go_at_call 98; refine (HCA.out _ g2).mono ?_; rintro e w3 ⟨g, b, w0, rfl, hasm, hw0, hb3⟩; have HA := Lib.hid hasm; have HB3 := Lib.hid (bfrom g2 hb3); have HR3 := Lib.hid (HR2.out.now hb3); have hbb := hasm.bw; clear hasm)
      | (go_at_call 85; refine (HGA.out g b w0 _ HA.out).mono ?_; rintro e w4 ⟨B, cB, rfl, hl4, hg4⟩; have HL4 := Lib.hid hl4; have HG4 := Lib.hid hg4; clear hl4 hg4; have hr4 := HR3.out.grown HG4.out (by simp at hw0 ⊢; omega); obtain ⟨f0, f1⟩ := KF.out _ hr4; obtain ⟨p0, p1⟩ := hr4.cells)
      | fail)
    have hz3 := HB3.out.size
    have hz4 := HG4.out.size
    have hz33 : w.heap.size + 1 < w3.heap.size := HR3.out.lt
    simp only [World.size_alloc] at hw0
    have HB4 := Lib.hid (HB3.out.grown HG4.out hz3 (fun z hz => by cases hz; omega))
    refine bodyPost_ret (v := .tuple #[.agg #[.int .i64 m0, .slice B ln cB], .bool true]) (by simp [results, Try.results49, go_sem, p0, p1]) rfl ⟨B, cB, by rw [HLN.out], ?_, ?_⟩
    · rw [← HLN.out]
      exact Lies.rss_wide (Lies.far (Lies.far HL4.out (by first | omega | (simp; omega)) _) (by first | omega | (simp; omega)) _) (by omega) (by first | exact Nat.le_refl _ | simp) (by first | exact Nat.le_refl _ | simp)
    · exact (HB4.out.setCell (by simp) _).setCell (by simp) _
  | false =>
    have HRC := Lib.hid (readCouncil_no q A n cap ws A2 k cp C _ hm (hk.now hb0) hm2 (hk2.now hb0) hc)
    have HM := Lib.hid (okM_no (m := ((csum C n : Nat) : Int)) (show false = false from rfl))
    have HG := Lib.hid (okG_no (S := (inOrder (csum C n)).filter (leastP (councilP q ws n C) (csum C n))) (show false = false from rfl))
    rw [HM.out, HG.out]
    clear HM HG hk hk2 hc
    go_enter Try.func49, Try.ntmps49
    go_wp2_with fail
    refine HRC.out.mono ?_
    rintro e w1 ⟨rfl, hb1⟩
    have g1 := bfrom hb0 hb1
    have b2 := below1 w1 (.cells #[.int .i64 0, .slice none 0 0, .slice none 0 0] 103)
    have g2 := bfrom g1 b2
    have hr2 := (hr.now hb1).now b2
    obtain ⟨f0, f1⟩ := KF.out _ hr2
    obtain ⟨p0, p1⟩ := hr2.cells
    clear hx hr c0 c1
    go_wp2
    refine bodyPost_ret (v := .tuple #[.agg #[.int .i64 0, .slice none 0 0], .bool false]) (by simp [results, Try.results49, go_sem, p0, p1]) rfl ?_
    exact AnsG.none_ RSS.none_ ((g2.setCell (by simp) _).setCell (by simp) _)

set_option maxHeartbeats 4000000 in
theorem partsOfWhole_any (f : Nat → Nat) (n D base cap : Nat) (A : Option Addr) (w : World) (hn : n < 10) (hn1 : 1 ≤ n) (hf : ∀ j, j < n → f j < 4611686018427387904) (hD0 : 0 < D) (hD1 : D < 4611686018427387904) (hown : w.ownsRow base 3 1 (.slice A n cap) n ((perL f n).map (Value.int .i64))) :
    Calls Try.prog 104 #[.slice A n cap, .int .i64 D] w fun e w' => ∃ B cp, e = .returned (.slice B n cp) ∧ w'.ownsRow w.heap.size 112 2 (.slice B n cp) n (shV (shL f D n)) ∧ Below w.heap.size w w' := by
  obtain ⟨i0, hi0, hz0, hz1, hz2⟩ := info_parts infoShare
  have HFF := Lib.hid hf
  obtain ⟨g, cap', hv, _, _, _⟩ := owns_head hown (by omega)
  obtain ⟨rfl, rfl⟩ : A = some ⟨g, 0, none⟩ ∧ cap = cap' := by simpa using hv
  have HOI := Lib.hid (show Own w g 3 n (fun i => .int .i64 (f i : Nat)) from Own.of_own hown fun i hi => by simp [perL, hi])
  have hgl := HOI.out.lt
  clear hown hf
  go_enter Try.func104, Try.ntmps104
  go_wp2_with (first
    | (at_make; refine wpList_make_own _ rfl _ _ 63 rfl w.heap.size 112 i0 (.agg #[.int .i64 0, .int .i64 0]) 2 Try.underlying63 hi0 hz0 hz1 .i64 .i64 n n rfl rfl rfl (by rw [hz2]; omega) (by unfold maxLen; omega) (by simp) ?_; intro w3 hown3 hgrow3; have b3 : Below w.heap.size w w3 := (Below.refl _ _).grown hgrow3 (Nat.le_refl _) (fun j hj => by cases hj); have HR3 := Lib.hid hown3; clear hown3 hgrow3)
    | fail)
  go_loopw [5, 7, 13] (fun v _ i wr => ∃ (j : Nat) (B : Option Addr) (cp : Nat), j ≤ n ∧ i = .int .i64 j ∧ v = .slice B j cp ∧ wr.ownsRow w.heap.size 112 2 (.slice B j cp) j (shV (shL f D j)) ∧ Below w.heap.size w wr) (fun _ _ i _ => n - (intOf i).toNat)
  case atStart => exact ⟨0, some ⟨w.heap.size, 0, none⟩, n, Nat.zero_le _, rfl, rfl, HR3.out, b3⟩
  case round =>
    obtain ⟨j, B, cp, hj, rfl, rfl, hown, hbr⟩ := hrel
    have HO := Lib.hid hown
    have hszr := hbr.size
    clear hown
    by_cases hlt : j < n
    · have hcell := (HOI.out.below hbr hgl).cell hlt
      have HS := Lib.hid (shL_succ f D j)
      have hfj := HFF.out j hlt
      have HLT := Lib.hid (fun W => lowestTerms_any (f j) D W hD0 hfj hD1)
      have HSH := Lib.hid (show share1 (f j) D = (((f j / Nat.gcd (f j) D : Nat) : Int), ((D / Nat.gcd (f j) D : Nat) : Int)) from rfl)
      generalize f j / Nat.gcd (f j) D = a at *
      generalize D / Nat.gcd (f j) D = b at *
      go_wp2_with (first
        | (go_at_call 131; refine (HLT.out _).mono ?_; rintro e w5 ⟨rfl, hb5⟩; have HO5 := Lib.hid (owns_now HO.out hb5); have b5 := hbr.trans (hb5.mono hszr); have hsz5 := b5.size)
        | (at_builtin; refine wpList_append_lies _ rfl _ _ _ rfl w.heap.size 112 i0 _ 2 16 Try.underlying63 hi0 hz0 hz1 hz2 rfl (by decide) (.slice B j cp) j (shV (shL f D j)) rfl (HO5.out.alloc _) ⟨w5.heap.size, 0, none⟩ 1 1 [.int .i64 a, .int .i64 b] rfl rfl (World.news_of_block (cs := #[.int .i64 a, .int .i64 b]) (t := 112) (fr := (0, 0)) (heap_alloc_new w5 _)) (by simp [Value.oneCell']) (by omega) (by unfold maxLen; omega) (by omega) (by simp; omega) (w5.heap.size + 1) (by simp) ?_; intro gg cap4 w6 hown6 hgrow6 hat hlt6)
        | fail)
      have b6 : Below w.heap.size w w6 := (b5.alloc hsz5 (.cells #[.int .i64 a, .int .i64 b] 112)).grown hgrow6 (by simp; omega) fun i hi => owns_le HO5.out hi
      go_roundw
      case rel => exact ⟨j + 1, some ⟨gg, 0, none⟩, cap4, by omega, by go_num, by simp, by rw [HS.out, shV_append, HSH.out]; simpa [shV] using hown6, b6⟩
      case measure => simp [intOf]; omega
    · obtain rfl : j = n := by omega
      go_wp2
      go_ret
      exact ⟨B, cp, rfl, HO.out, hbr⟩
end Go.Proofs.Ytkckefjpkhjeaaa
