/- Desks: a committee and a game in one; IsDesk, the program's and the model's. -/
import Derived.Test.YtlcfimddcedbcaaI4
import Derived.Test.YtlcfimddcedbcaaI6
import Derived.Test.YtlcfimddcedbcaaI2
import Derived.Test.YtlcfimddcedbcaaL1
import Derived.Test.YtlcfimddcedbcaaK4
import Derived.Test.YtlcfimddcedbcaaS2
import Derived.BigQuiet
namespace Go.Proofs.Ytlcfimddcedbcaa
open Go.RowKit Vo

/-- A block of four cells. -/
def Bx4 (t : TypeId) (w : World) (g : Nat) (a b c d : Value) : Prop := w.heap[g]? = some (.cells #[a, b, c, d] t (0, 0))
namespace Bx4
variable {t : TypeId} {w w' : World} {g : Nat} {a b c d : Value}
theorem lt (h : Bx4 t w g a b c d) : g < w.heap.size := (Array.getElem?_eq_some_iff.1 h).1
theorem cells (h : Bx4 t w g a b c d) : w.cell? ⟨g, 0, none⟩ = some a ∧ w.cell? ⟨g, 1, none⟩ = some b ∧ w.cell? ⟨g, 2, none⟩ = some c ∧ w.cell? ⟨g, 3, none⟩ = some d := by
  unfold Bx4 at h; exact ⟨by simp [World.cell?, h], by simp [World.cell?, h], by simp [World.cell?, h], by simp [World.cell?, h]⟩
theorem soft (h : Bx4 t w g a b c d) : w.frozen? ⟨g, 0, none⟩ = false ∧ w.frozen? ⟨g, 1, none⟩ = false ∧ w.frozen? ⟨g, 2, none⟩ = false ∧ w.frozen? ⟨g, 3, none⟩ = false := by
  unfold Bx4 at h; exact ⟨by simp [World.frozen?, h], by simp [World.frozen?, h], by simp [World.frozen?, h], by simp [World.frozen?, h]⟩
theorem now (h : Bx4 t w g a b c d) (hb : Below w.heap.size w w') : Bx4 t w' g a b c d := (hb.block g h.lt).trans h
theorem drew (h : Bx4 t w g a b c d) : Bx4 t w.drew g a b c d := h
theorem alloc (h : Bx4 t w g a b c d) (o : Obj) : Bx4 t (w.alloc o) g a b c d := h.now ((Below.refl _ _).alloc (Nat.le_refl _) _)
theorem far (h : Bx4 t w g a b c d) {p : Addr} (hp : g ≠ p.block) (x : Value) : Bx4 t (w.setCell p x) g a b c d := (Below.heap_setCell w p x g hp).trans h
theorem new (t : TypeId) (w : World) (a b c d : Value) : Bx4 t (w.alloc (.cells #[a, b, c, d] t)) w.heap.size a b c d := heap_alloc_new w _
theorem put01 (h : Bx4 t w g a b c d) (x y : Value) : Bx4 t ((w.setCell ⟨g, 0, none⟩ x).setCell ⟨g, 1, none⟩ y) g x y c d := by
  unfold Bx4 at *
  simp [World.setCell, Array.getElem?_modify, h]
theorem put23 (h : Bx4 t w g a b c d) (x y : Value) : Bx4 t ((w.setCell ⟨g, 2, none⟩ x).setCell ⟨g, 3, none⟩ y) g a b x y := by
  unfold Bx4 at *
  simp [World.setCell, Array.getElem?_modify, h]
theorem turn {lo hi : Nat} (h : Bx4 t w g a b c d) (ht : Turn lo hi w w') (hg : g < lo ∨ hi ≤ g) : Bx4 t w' g a b c d := (ht.block g h.lt hg).trans h
end Bx4

set_option maxRecDepth 20000 in
set_option maxHeartbeats 2000000 in
theorem szDesk_any (q : Int) (A : Option Addr) (n cap : Nat) (m : Int) (B : Option Addr) (k cp : Nat) (L : List (List Int)) (w : World) (hm : n ≤ 9223372036854775807) (hm2 : k ≤ 9223372036854775807) (hk : KSS w B k L) :
    Calls Try.prog 19 #[.agg #[.int .i64 q, .slice A n cap, .int .i64 m, .slice B k cp], .int .i64 1048576] w fun e w' => (e = .returned (.int .i64 (-1)) ∨ (n + k + tot L ≤ 1048576 ∧ e = .returned (.int .i64 (1048576 - n - k - (tot L : Nat))))) ∧ Below w.heap.size w w' := by
  have b0 := below1 w (.cells #[.int .i64 q, .slice A n cap, .int .i64 m, .slice B k cp] 37)
  have hx := Bx4.new 37 w (.int .i64 q) (.slice A n cap) (.int .i64 m) (.slice B k cp)
  have HK := Lib.hid hk
  clear hk
  obtain ⟨T, hT⟩ : ∃ T, T = tot L := ⟨_, rfl⟩
  have HS := Lib.hid (fun left W h0 h1 (h : Below w.heap.size w W) => szGame_any m B k cp L left W h0 h1 hm2 (HK.out.now h))
  rw [← hT] at HS ⊢
  clear hT
  obtain ⟨c0, c1, c2, c3⟩ := hx.cells
  by_cases hn : 1048576 < n
  · go_enter Try.func19, Try.ntmps19
    go_wp2_with fail
    refine (szCommittee_no _ A n cap _ hm hn).mono ?_
    rintro e w1 ⟨rfl, hb1⟩
    go_wp2
    go_ret
    exact ⟨Or.inl rfl, bfrom b0 hb1⟩
  · have hn' : n ≤ 1048576 := by omega
    go_enter Try.func19, Try.ntmps19
    go_wp2_with fail
    refine (szCommittee_yes _ A n cap _ hn').mono ?_
    rintro e w1 ⟨rfl, hb1⟩
    have g1 := bfrom b0 hb1
    have hge : ¬ 1048576 - (n : Int) < 0 := by omega
    clear c0 c1 c2 c3
    obtain ⟨c0, c1, c2, c3⟩ := (hx.now hb1).cells
    go_wp2_with fail
    refine (HS.out _ _ (by omega) (by omega) g1).mono ?_
    rintro e w2 ⟨h, hb2⟩
    rcases h with rfl | ⟨hle, rfl⟩
    · go_wp2
      go_ret
      exact ⟨Or.inl rfl, bfrom g1 hb2⟩
    · have hge2 : ¬ 1048576 - (n : Int) - (k : Int) - (T : Int) < 0 := by omega
      go_wp2
      go_ret
      exact ⟨Or.inr ⟨by omega, rfl⟩, bfrom g1 hb2⟩

set_option maxRecDepth 20000 in
set_option maxHeartbeats 4000000 in
theorem toDesk_any (q : Int) (A : Option Addr) (n cap : Nat) (xs : List Int) (m : Int) (B : Option Addr) (k cp : Nat) (L : List (List Int)) (w : World) (hn : n ≤ 1048576) (hk2 : k + tot L ≤ 1048576) (hk : Known w A n xs) (hkk : KSS w B k L) :
    Calls Try.prog 21 #[.agg #[.int .i64 q, .slice A n cap, .int .i64 m, .slice B k cp]] w fun e w' => ∃ a b, e = .returned (.agg #[.int .i64 q, .slice (some ⟨a, 0, none⟩) n n, .int .i64 m, .slice (some ⟨b, 0, none⟩) k k]) ∧ w.heap.size ≤ a ∧ a < b ∧ Ints w' a n xs ∧ Lies (RSS L b w'.heap.size (.slice (some ⟨b, 0, none⟩) k k)) b w'.heap.size w' ∧ Below w.heap.size w w' := by
  have b0 : Below w.heap.size w (((w.alloc (.cells #[.int .i64 q, .slice A n cap, .int .i64 m, .slice B k cp] 37)).alloc (.cells #[.int .i64 0, .slice none 0 0, .int .i64 0, .slice none 0 0] 29)).alloc (.cells #[.int .i64 0, .slice none 0 0, .int .i64 0, .slice none 0 0] 29)) := ((below1 w _).alloc (by simp) _).alloc (by simp; omega) _
  have hx := ((Bx4.new 37 w (.int .i64 q) (.slice A n cap) (.int .i64 m) (.slice B k cp)).alloc (.cells #[.int .i64 0, .slice none 0 0, .int .i64 0, .slice none 0 0] 29)).alloc (.cells #[.int .i64 0, .slice none 0 0, .int .i64 0, .slice none 0 0] 29)
  have hr := (Bx4.new 29 (w.alloc (.cells #[.int .i64 q, .slice A n cap, .int .i64 m, .slice B k cp] 37)) (.int .i64 0) (.slice none 0 0) (.int .i64 0) (.slice none 0 0)).alloc (.cells #[.int .i64 0, .slice none 0 0, .int .i64 0, .slice none 0 0] 29)
  have ho := Bx4.new 29 ((w.alloc (.cells #[.int .i64 q, .slice A n cap, .int .i64 m, .slice B k cp] 37)).alloc (.cells #[.int .i64 0, .slice none 0 0, .int .i64 0, .slice none 0 0] 29)) (.int .i64 0) (.slice none 0 0) (.int .i64 0) (.slice none 0 0)
  simp only [World.size_alloc] at hr ho
  have HK := Lib.hid hk
  have HKK := Lib.hid hkk
  clear hk hkk
  obtain ⟨w0, hw0⟩ : ∃ w0, w0 = ((w.alloc (.cells #[.int .i64 q, .slice A n cap, .int .i64 m, .slice B k cp] 37)).alloc (.cells #[.int .i64 0, .slice none 0 0, .int .i64 0, .slice none 0 0] 29)).alloc (.cells #[.int .i64 0, .slice none 0 0, .int .i64 0, .slice none 0 0] 29) := ⟨_, rfl⟩
  have HSZ0 := Lib.hid (show w0.heap.size = w.heap.size + 3 from by rw [hw0]; simp)
  rw [← hw0] at b0 hx hr ho
  have HTG := Lib.hid (fun W (h : Below w.heap.size w W) => toGame_any m B k cp L W hk2 (HKK.out.now h))
  go_enter Try.func21, Try.ntmps21
  go_wp2_with fail
  rw [← hw0]
  clear hw0
  obtain ⟨c0, c1, c2, c3⟩ := hx.cells
  go_wp2_with fail
  refine (toCommittee_any q A n cap xs _ hn (HK.out.now b0)).mono ?_
  rintro e w1 ⟨rfl, hi1, hb1⟩
  have ha0 : w.heap.size + 5 < w0.heap.size + 3 := by have h := HSZ0.out; omega
  obtain ⟨a, ha⟩ : ∃ a, a = w0.heap.size + 3 := ⟨_, rfl⟩
  have hz01 := hb1.size
  rw [← ha] at hi1 ha0 ⊢
  have ha1 : a ≤ w0.heap.size + 3 := Nat.le_of_eq ha
  clear ha
  have HI1 := Lib.hid hi1
  have hl1 := hi1.lt
  have g1 := bfrom b0 hb1
  have hx1 := hx.now hb1
  have hr1 := hr.now hb1
  have ho1 := ho.now hb1
  clear hi1 c0 c1 c2 c3 hx hr ho
  obtain ⟨c0, c1, c2, c3⟩ := hx1.cells
  obtain ⟨o0, o1, o2, o3⟩ := ho1.cells
  obtain ⟨f0, f1, f2, f3⟩ := ho1.soft
  have ho2 := ho1.put01 (.int .i64 q) (.slice (some ⟨a, 0, none⟩) n n)
  have hx2 := (hx1.far (p := ⟨w.heap.size + 1 + 1, 0, none⟩) (by first | (simp; done) | (simp; omega)) (.int .i64 q)).far (p := ⟨w.heap.size + 1 + 1, 1, none⟩) (by first | (simp; done) | (simp; omega)) (.slice (some ⟨a, 0, none⟩) n n)
  have hr2 := (hr1.far (p := ⟨w.heap.size + 1 + 1, 0, none⟩) (by first | (simp; done) | (simp; omega)) (.int .i64 q)).far (p := ⟨w.heap.size + 1 + 1, 1, none⟩) (by first | (simp; done) | (simp; omega)) (.slice (some ⟨a, 0, none⟩) n n)
  have hI2 := (HI1.out.far (p := ⟨w.heap.size + 1 + 1, 0, none⟩) (by first | (simp; done) | (simp; omega)) (.int .i64 q)).far (p := ⟨w.heap.size + 1 + 1, 1, none⟩) (by first | (simp; done) | (simp; omega)) (.slice (some ⟨a, 0, none⟩) n n)
  have g2 := (g1.setCell (p := ⟨w.heap.size + 1 + 1, 0, none⟩) (by first | (simp; done) | (simp; omega)) (.int .i64 q)).setCell (p := ⟨w.heap.size + 1 + 1, 1, none⟩) (by first | (simp; done) | (simp; omega)) (.slice (some ⟨a, 0, none⟩) n n)
  go_wp2_with fail
  obtain ⟨w2, hw2⟩ : ∃ w2, w2 = (w1.setCell ⟨w.heap.size + 1 + 1, 0, none⟩ (.int .i64 q)).setCell ⟨w.heap.size + 1 + 1, 1, none⟩ (.slice (some ⟨a, 0, none⟩) n n) := ⟨_, rfl⟩
  have hsz2 : w2.heap.size = w1.heap.size := by rw [hw2]; simp [World.setCell]
  rw [← hw2] at ho2 hx2 hr2 hI2 g2 ⊢
  rw [← hsz2] at hl1
  have HS2 := Lib.hid hsz2
  have HI2 := Lib.hid hI2
  clear hI2 hw2 hsz2 c0 c1 c2 c3 o0 o1 o2 o3 f0 f1 f2 f3 hx1 hr1 ho1 HI1 hb1
  refine (HTG.out _ g2).mono ?_
  rintro e w3 ⟨rfl, hl3, hb3⟩
  have HL3 := Lib.hid hl3
  have hle3 := hl3.hi_le
  have hr3 := hr2.now hb3
  have ho3 := ho2.now hb3
  have HI3 := Lib.hid (Own.below HI2.out hb3 hl1)
  have g3 := bfrom g2 hb3
  have hz3 := hb3.size
  clear hl3
  obtain ⟨b, hb⟩ : ∃ b, b = w2.heap.size + 3 := ⟨_, rfl⟩
  rw [← hb] at HL3 ⊢
  have HB := Lib.hid hb
  clear hb
  have ho4 := ho3.put23 (.int .i64 m) (.slice (some ⟨b, 0, none⟩) k k)
  have hr4 := (hr3.far (p := ⟨w.heap.size + 1 + 1, 2, none⟩) (by first | (simp; done) | (simp; omega)) (.int .i64 m)).far (p := ⟨w.heap.size + 1 + 1, 3, none⟩) (by first | (simp; done) | (simp; omega)) (.slice (some ⟨b, 0, none⟩) k k)
  obtain ⟨o0, o1, o2, o3⟩ := ho3.cells
  obtain ⟨f0, f1, f2, f3⟩ := ho3.soft
  obtain ⟨p0, p1, p2, p3⟩ := ho4.cells
  obtain ⟨r0, r1, r2, r3⟩ := hr4.cells
  obtain ⟨s0, s1, s2, s3⟩ := hr4.soft
  go_wp2
  have hbv : w2.heap.size + 3 ≤ b := by have := HB.out; omega
  refine bodyPost_ret (v := .agg #[.int .i64 q, .slice (some ⟨a, 0, none⟩) n n, .int .i64 m, .slice (some ⟨b, 0, none⟩) k k]) (by simp [results, Try.results21, go_sem, r0, r1, r2, r3]) rfl ⟨a, b, rfl, by omega, by omega, ?_, ?_, ?_⟩
  · exact ((((((HI3.out).far (by first | (simp; done) | (simp; omega) | omega) _).far (by first | (simp; done) | (simp; omega) | omega) _).far (by first | (simp; done) | (simp; omega) | omega) _).far (by first | (simp; done) | (simp; omega) | omega) _).far (by first | (simp; done) | (simp; omega) | omega) _).far (by first | (simp; done) | (simp; omega) | omega) _
  · exact Lies.rss_wide (Lies.far (Lies.far (Lies.far (Lies.far (Lies.far (Lies.far HL3.out (by first | (simp; done) | (simp; omega) | omega) _) (by first | (simp; done) | (simp; omega) | omega) _) (by first | (simp; done) | (simp; omega) | omega) _) (by first | (simp; done) | (simp; omega) | omega) _) (by first | (simp; done) | (simp; omega) | omega) _) (by first | (simp; done) | (simp; omega) | omega) _) (Nat.le_refl _) (by simp) (by simp)
  · exact ((((((g3).setCell (by first | (simp; done) | (simp; omega) | omega) _).setCell (by first | (simp; done) | (simp; omega) | omega) _).setCell (by first | (simp; done) | (simp; omega) | omega) _).setCell (by first | (simp; done) | (simp; omega) | omega) _).setCell (by first | (simp; done) | (simp; omega) | omega) _).setCell (by first | (simp; done) | (simp; omega) | omega) _

set_option maxRecDepth 20000 in
set_option maxHeartbeats 2000000 in
theorem eqDesk_same (q m : Int) (b off n ca b2 off2 cb : Nat) (xs : List Int) (A A2 : Option Addr) (k cp cp2 : Nat) {L : List (List Int)} {lo hi lo2 hi2 : Nat} (w : World) (hm : n ≤ 9223372036854775807) (hx : Sl w b off n xs) (hy : Sl w b2 off2 n xs) (hL : tot L + L.length ≤ 1048576) (h1 : Lies (RSS L lo hi (.slice A k cp)) lo hi w) (h2 : Lies (RSS0 L lo2 hi2 (.slice A2 k cp2)) lo2 hi2 w) :
    Calls Try.prog 16 #[.agg #[.int .i64 q, .slice (some ⟨b, off, none⟩) n ca, .int .i64 m, .slice A k cp], .agg #[.int .i64 q, .slice (some ⟨b2, off2, none⟩) n cb, .int .i64 m, .slice A2 k cp2]] w fun e w' => e = .returned (.bool true) ∧ Below w.heap.size w w' := by
  have b0 : Below w.heap.size w ((w.alloc (.cells #[.int .i64 q, .slice (some ⟨b, off, none⟩) n ca, .int .i64 m, .slice A k cp] 29)).alloc (.cells #[.int .i64 q, .slice (some ⟨b2, off2, none⟩) n cb, .int .i64 m, .slice A2 k cp2] 29)) := (below1 w _).alloc (by simp) _
  have ha := (Bx4.new 29 w (.int .i64 q) (.slice (some ⟨b, off, none⟩) n ca) (.int .i64 m) (.slice A k cp)).alloc (.cells #[.int .i64 q, .slice (some ⟨b2, off2, none⟩) n cb, .int .i64 m, .slice A2 k cp2] 29)
  have hb := Bx4.new 29 (w.alloc (.cells #[.int .i64 q, .slice (some ⟨b, off, none⟩) n ca, .int .i64 m, .slice A k cp] 29)) (.int .i64 q) (.slice (some ⟨b2, off2, none⟩) n cb) (.int .i64 m) (.slice A2 k cp2)
  simp only [World.size_alloc] at hb
  have HX := Lib.hid hx
  have HY := Lib.hid hy
  have H1 := Lib.hid h1
  have H2 := Lib.hid h2
  have HL := Lib.hid hL
  clear hx hy h1 h2 hL
  obtain ⟨c0, c1, c2, c3⟩ := ha.cells
  obtain ⟨d0, d1, d2, d3⟩ := hb.cells
  go_enter Try.func16, Try.ntmps16
  go_wp2_with fail
  refine (eqCommittee_same q b off n ca b2 off2 cb xs _ hm (HX.out.now b0) (HY.out.now b0)).mono ?_
  rintro e w1 ⟨rfl, hb1⟩
  have g1 := bfrom b0 hb1
  clear c0 c1 c2 c3 d0 d1 d2 d3
  obtain ⟨c0, c1, c2, c3⟩ := (ha.now hb1).cells
  obtain ⟨d0, d1, d2, d3⟩ := (hb.now hb1).cells
  go_wp2_with fail
  refine (eqGame_v m A A2 k cp cp2 _ HL.out (H1.out.now g1) (H2.out.now g1)).mono ?_
  rintro e w2 ⟨rfl, hb2⟩
  go_wp2
  go_ret
  exact ⟨rfl, bfrom g1 hb2⟩

def deskB (q : Int) (ws : List Int) (n : Nat) (m : Int) (L : List (List Int)) : Bool := goodB q ws n && goodG m L
set_option maxRecDepth 20000 in
set_option maxHeartbeats 2000000 in
theorem iIsDesk_any (q : Int) (A : Option Addr) (n cap : Nat) (ws : List Int) (m : Int) (B : Option Addr) (k cp : Nat) (L : List (List Int)) (w : World) (hm : n ≤ 9223372036854775807) (hk : Known w A n ws) (hl : k ≤ 1048576) (hk2 : Lists w B k L) :
    Calls Try.prog 22 #[.agg #[.int .i64 q, .slice A n cap, .int .i64 m, .slice B k cp]] w fun e w' => e = .returned (.bool (deskB q ws n m L)) ∧ Below w.heap.size w w' := by
  have b0 := below1 w (.cells #[.int .i64 q, .slice A n cap, .int .i64 m, .slice B k cp] 29)
  have hx := Bx4.new 29 w (.int .i64 q) (.slice A n cap) (.int .i64 m) (.slice B k cp)
  have HC := Lib.hid (isCommittee_any q A n cap ws _ hm (hk.now b0))
  have HG := Lib.hid (fun W (h : Below w.heap.size w W) => iIsGame_any m B k cp L W hl (hk2.now h))
  have HD := Lib.hid (show deskB q ws n m L = (goodB q ws n && goodG m L) from rfl)
  generalize goodB q ws n = r1 at *
  generalize goodG m L = r2 at *
  clear hk hk2
  obtain ⟨c0, c1, c2, c3⟩ := hx.cells
  cases r1 with
  | false =>
    go_enter Try.func22, Try.ntmps22
    go_wp2_with fail
    refine HC.out.mono ?_
    rintro e w1 ⟨rfl, hb1⟩
    go_wp2
    go_ret
    exact ⟨by rw [HD.out]; rfl, bfrom b0 hb1⟩
  | true =>
    go_enter Try.func22, Try.ntmps22
    go_wp2_with fail
    refine HC.out.mono ?_
    rintro e w1 ⟨rfl, hb1⟩
    have g1 := bfrom b0 hb1
    clear c0 c1 c2 c3
    obtain ⟨c0, c1, c2, c3⟩ := (hx.now hb1).cells
    go_wp2_with (first
      | (go_at_call 66; refine (HG.out _ g1).mono ?_; rintro e w2 ⟨rfl, hb2⟩)
      | fail)
    go_ret
    exact ⟨by rw [HD.out]; rfl, bfrom g1 hb2⟩
set_option maxRecDepth 20000 in
set_option maxHeartbeats 2000000 in
theorem coGood_any (q : Int) (A : Option Addr) (n cap : Nat) (ws : List Int) (m : Int) (B : Option Addr) (k cp : Nat) (L : List (List Int)) (w : World) (hm : n ≤ 9223372036854775807) (hk : Known w A n ws) (hl : k ≤ 1048576) (hcp : k ≤ cp) (hk2 : ListsR w B k L) :
    Calls Try.prog 63 #[.agg #[.int .i64 q, .slice A n cap, .int .i64 m, .slice B k cp]] w fun e w' => e = .returned (.bool (deskB q ws n m L)) ∧ Below w.heap.size w w' := by
  have b0 := below1 w (.cells #[.int .i64 q, .slice A n cap, .int .i64 m, .slice B k cp] 29)
  have hx := Bx4.new 29 w (.int .i64 q) (.slice A n cap) (.int .i64 m) (.slice B k cp)
  have HC := Lib.hid (voGood_any q A n cap ws _ hm (hk.now b0))
  have HG := Lib.hid (fun W (h : Below w.heap.size w W) => gmGood_any m B k cp L W hl hcp (hk2.now h))
  have HD := Lib.hid (show deskB q ws n m L = (goodB q ws n && goodG m L) from rfl)
  generalize goodB q ws n = r1 at *
  generalize goodG m L = r2 at *
  clear hk hk2
  obtain ⟨c0, c1, c2, c3⟩ := hx.cells
  cases r1 with
  | false =>
    go_enter Try.func63, Try.ntmps63
    go_wp2_with fail
    refine HC.out.mono ?_
    rintro e w1 ⟨rfl, hb1⟩
    go_wp2
    go_ret
    exact ⟨by rw [HD.out]; rfl, bfrom b0 hb1⟩
  | true =>
    go_enter Try.func63, Try.ntmps63
    go_wp2_with fail
    refine HC.out.mono ?_
    rintro e w1 ⟨rfl, hb1⟩
    have g1 := bfrom b0 hb1
    clear c0 c1 c2 c3
    obtain ⟨c0, c1, c2, c3⟩ := (hx.now hb1).cells
    go_wp2_with (first
      | (go_at_call 94; refine (HG.out _ g1).mono ?_; rintro e w2 ⟨rfl, hb2⟩)
      | fail)
    go_ret
    exact ⟨by rw [HD.out]; rfl, bfrom g1 hb2⟩
set_option maxRecDepth 20000 in
set_option maxHeartbeats 2000000 in
theorem sIsDesk_any (q : Int) (A : Option Addr) (n cap : Nat) (ws : List Int) (m : Int) (B : Option Addr) (k cp : Nat) (L : List (List Int)) (w : World) (hm : n ≤ 9223372036854775807) (hk : Known w A n ws) (hl : k ≤ 1048576) (hcp : k ≤ cp) (hk2 : ListsR w B k L) :
    Calls Try.prog 20 #[.agg #[.int .i64 q, .slice A n cap, .int .i64 m, .slice B k cp]] w fun e w' => e = .returned (.bool (deskB q ws n m L)) ∧ Below w.heap.size w w' := by
  have b0 := below1 w (.cells #[.int .i64 q, .slice A n cap, .int .i64 m, .slice B k cp] 29)
  have hx := Bx4.new 29 w (.int .i64 q) (.slice A n cap) (.int .i64 m) (.slice B k cp)
  have HC := Lib.hid (coGood_any q A n cap ws m B k cp L _ hm (hk.now b0) hl hcp (hk2.now b0))
  generalize deskB q ws n m L = r1 at *
  clear hk hk2
  obtain ⟨c0, c1, c2, c3⟩ := hx.cells
  go_enter Try.func20, Try.ntmps20
  go_wp2_with fail
  refine HC.out.mono ?_
  rintro e w1 ⟨rfl, hb1⟩
  go_wp2
  go_ret
  exact ⟨rfl, bfrom b0 hb1⟩
end Go.Proofs.Ytlcfimddcedbcaa
