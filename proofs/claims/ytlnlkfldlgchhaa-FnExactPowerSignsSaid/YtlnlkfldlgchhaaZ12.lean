/- Contracts of numbers of members that may be negative, and of how far powers lead. -/
import Derived.Test.YtlnlkfldlgchhaaN7
import Derived.Test.YtlnlkfldlgchhaaN4
import Derived.Test.YtlnlkfldlgchhaaN8
import Derived.Test.YtlnlkfldlgchhaaZ1
import Derived.Test.YtlnlkfldlgchhaaB1
import Derived.Outline
import Derived.Handy
namespace Go.Proofs.Ytlnlkfldlgchhaa
open Go.RowKit Vo

/-- A list of numbers, one a member. -/
def perZ (f : Nat → Int) (n : Nat) : List Int := (List.range n).map f
theorem perZ_len (f n) : (perZ f n).length = n := by simp [perZ]
theorem perZ_succ (f n) : perZ f (n+1) = perZ f n ++ [f n] := by simp [perZ, List.range_succ]
theorem perZ_get {f : Nat → Int} {n k : Nat} (h : k < n) : (perZ f n).getD k 0 = f k := by
  simp [perZ, List.getD_eq_getElem?_getD, h]
structure NumsZ (f : Nat → Int) (k : Nat) (first cap : Array Value) (n : Nat) (w : World) : Prop where
  enters : ∀ args W, (callFunc k args).run Try.prog W = .ok (.enter k args) W
  gives : ∀ (W : World) (j : Nat), j < n → Below w.heap.size w W → Calls Try.prog k (first.push (.int .i64 j) ++ cap) W fun e W' => e = .returned (.int .i64 (f j)) ∧ Below W.heap.size W W'

theorem NumsZ.now {f : Nat → Int} {k : Nat} {first cap : Array Value} {n : Nat} {w w' : World} (h : NumsZ f k first cap n w) (hb : Below w.heap.size w w') : NumsZ f k first cap n w' := ⟨h.enters, fun W j hj hW => h.gives W j hj (bfrom hb hW)⟩
set_option maxHeartbeats 2000000 in
theorem forEachOfZ_any (f : Nat → Int) (k : Nat) (first cap2 : Array Value) (n : Nat) (w : World) (hn : n < 10) (hf : NumsZ f k first cap2 n w) :
    Calls Try.prog 113 #[.int .i64 n, .func (.func k) first cap2] w fun e w' => IntsAt (perZ f n) w w' e := by
  have HF := Lib.hid hf
  have eg := hf.enters
  clear hf
  obtain ⟨i0, hi0, hz0, hz1, hz2⟩ := infoIntParts
  go_enter Try.func113, Try.ntmps113
  go_wp2_with (first
    | (at_make; refine wpList_make_own _ rfl _ _ 22 rfl w.heap.size 3 i0 (.int .i64 0) 1 Try.underlying22 hi0 hz0 hz1 .i64 .i64 n n rfl rfl rfl (by rw [hz2]; omega) (by unfold maxLen; omega) (by simp) ?_; intro w2 hown hgrow; have b2 : Below w.heap.size w w2 := (Below.refl _ _).grown hgrow (Nat.le_refl _) (fun j hj => by cases hj); have HO2 := Lib.hid hown; clear hown hgrow)
    | fail)
  go_loopw [5, 6, 10] (fun u _ i wr => ∃ (j : Nat) (A : Option Addr) (cap : Nat), j ≤ n ∧ i = .int .i64 j ∧ u = .slice A j cap ∧ wr.ownsRow w.heap.size 3 1 (.slice A j cap) j ((perZ f j).map (Value.int .i64)) ∧ Below w.heap.size w wr) (fun _ _ i _ => n - (intOf i).toNat)
  case atStart => exact ⟨0, some ⟨w.heap.size, 0, none⟩, n, Nat.zero_le _, rfl, rfl, HO2.out, b2⟩
  case round =>
    obtain ⟨j, A, cap3, hj, rfl, rfl, hown, hbr⟩ := hrel
    have HO := Lib.hid hown
    have hszr := hbr.size
    clear hown
    by_cases hlt : j < n
    · have HS := Lib.hid (perZ_succ f j)
      have HB := Lib.hid hbr
      go_wp2_with (first | (go_at_fn k; refine (HF.out.gives _ j hlt HB.out).mono ?_; rintro e w5 ⟨rfl, hb5⟩; have HO5 := Lib.hid (owns_now HO.out hb5); have b5 := hbr.trans (hb5.mono hszr); have hsz5 := b5.size) | (at_builtin; refine wpList_append_lies _ rfl _ _ _ rfl w.heap.size 3 i0 _ 1 8 Try.underlying22 hi0 hz0 hz1 hz2 rfl (by decide) (.slice A j cap3) j ((perZ f j).map (Value.int .i64)) rfl (HO5.out.alloc _) ⟨w5.heap.size, 0, none⟩ 1 1 [.int .i64 (f j)] rfl rfl (World.news_of_block (cs := #[.int .i64 (f j)]) (t := 3) (fr := (0, 0)) (heap_alloc_new w5 _)) (by simp [Value.oneCell']) (by omega) (by unfold maxLen; omega) (by omega) (by simp; omega) (w5.heap.size + 1) (by simp) ?_; intro gg cap4 w6 hown6 hgrow6 hat hlt6))
      have b6 : Below w.heap.size w w6 := (b5.alloc hsz5 (.cells #[.int .i64 (f j)] 3)).grown hgrow6 (by simp; omega) fun i hi => owns_le HO5.out hi
      go_roundw
      case rel => exact ⟨j + 1, some ⟨gg, 0, none⟩, cap4, by omega, by go_num, by simp, by rw [HS.out]; simpa using hown6, b6⟩
      case measure => simp [intOf]; omega
    · obtain rfl : j = n := by omega
      have HLE := Lib.hid (perZ_len f j)
      go_wp2
      go_ret
      exact ⟨A, cap3, by rw [HLE.out]; rfl, by rw [HLE.out]; exact HO.out, hbr⟩

set_option maxHeartbeats 1000000 in
theorem forEachMemberZ_any (f : Nat → Int) (k : Nat) (first cap2 : Array Value) (q : Int) (A : Option Addr) (n cap : Nat) (w : World) (hn : n < 10) (hf : NumsZ f k first cap2 n w) :
    Calls Try.prog 84 #[.agg #[.int .i64 q, .slice A n cap], .func (.func k) first cap2] w fun e w' => IntsAt (perZ f n) w w' e := by
  have HF := Lib.hid hf
  clear hf
  have hb0 := below1 w (.cells #[.int .i64 q, .slice A n cap] 28)
  have HFE := Lib.hid (fun W (hb : Below w.heap.size w W) => forEachOfZ_any f k first cap2 n W hn (HF.out.now hb))
  simp only [IntsAt, perZ_len] at HFE
  have HLE := Lib.hid (perZ_len f n)
  go_enter Try.func84, Try.ntmps84
  go_wp2_with fail
  refine (members_any _ _ n cap _).mono ?_
  rintro e w1 ⟨rfl, hb1⟩
  have g1 := bfrom hb0 hb1
  go_wp2_with fail
  refine (HFE.out _ g1).mono ?_
  rintro e w2 ⟨B, cB, rfl, hown, hb2⟩
  have HO := Lib.hid hown
  have hz := g1.size
  clear hown
  go_wp2
  go_ret
  exact ⟨B, cB, by rw [HLE.out]; rfl, by rw [HLE.out]; exact owns_less HO.out hz, bfrom g1 hb2⟩

theorem Box1.set {t : TypeId} {w : World} {g : Nat} {u : Value} (h : Box1 t w g u) (v : Value) : Box1 t (w.setCell ⟨g, 0, none⟩ v) g v := by
  unfold Box1 at *
  simp [World.setCell, Array.getElem?_modify, h]
theorem Box1.far {t : TypeId} {w : World} {g : Nat} {v : Value} (h : Box1 t w g v) {p : Addr} (hp : g ≠ p.block) (x : Value) : Box1 t (w.setCell p x) g v := (Below.heap_setCell w p x g hp).trans h
theorem Box1.frozen {t : TypeId} {w : World} {g : Nat} {v : Value} (h : Box1 t w g v) : w.frozen? ⟨g, 0, none⟩ = false := by unfold Box1 at h; simp [World.frozen?, h]

theorem Box1.new2 (t : TypeId) (w : World) (o : Obj) (v : Value) : Box1 t ((w.alloc o).alloc (.cells #[v] t)) (w.heap.size + 1) v := by
  have := Box1.new t (w.alloc o) v
  simpa only [World.size_alloc] using this
theorem Box1.new3 (t : TypeId) (w : World) (p : Addr) (x v : Value) : Box1 t ((w.setCell p x).alloc (.cells #[v] t)) w.heap.size v := by
  have h1 := Box1.new t (w.setCell p x) v
  rw [show (w.setCell p x).heap.size = w.heap.size from by simp [World.setCell]] at h1
  exact h1
/-- How far a member's power leads its weight, in parts of all orders times all weights. -/
def leadZ (q : Int) (ws : List Int) (n : Nat) (k : Nat) : Int := (pivotN q ws n k : Int) * sumK ws n - ws.getD k 0 * (fact n : Int)
theorem lead_bd {q : Int} {ws : List Int} {n k : Nat} (hn : n ≤ 9) (hok : InK 0 1000 ws n) (hk : k < n) :
    (0 ≤ (pivotN q ws n k : Int) * sumK ws n ∧ (pivotN q ws n k : Int) * sumK ws n ≤ 606800000000000000) ∧ (0 ≤ ws.getD k 0 * (fact n : Int) ∧ ws.getD k 0 * (fact n : Int) ≤ 362880000) := by
  have h1 := pivN_le (p := winB q ws n) (k := k) hn (pow_lt hn)
  have h2 := sumK_bd hok
  have h3 := hok k hk
  have h4 := fact_le hn
  have h5 : (pivotN q ws n k : Int) ≤ 131681894400 * 512 := by unfold pivotN; omega
  refine ⟨⟨Int.mul_nonneg (by omega) h2.1, ?_⟩, ⟨Int.mul_nonneg h3.1 (by omega), ?_⟩⟩
  · have := Int.mul_le_mul h5 (show sumK ws n ≤ 9000 by omega) h2.1 (by omega)
    omega
  · have := Int.mul_le_mul h3.2 (show (fact n : Int) ≤ 362880 by omega) (by omega) (by omega)
    omega

set_option maxHeartbeats 2000000 in
theorem leads1_any (q : Int) (b off n cap g gt go : Nat) (ws : List Int) (k : Nat) (w : World) (hn : n < 10) (hk : k < n) (hok : InK 0 1000 ws n) (hsl : Sl w b off n ws) (hx : Box w g (.int .i64 q) (.slice (some ⟨b, off, none⟩) n cap)) (ht : Box1 3 w gt (.int .i64 (sumK ws n))) (ho : Box1 3 w go (.int .i64 (fact n : Nat))) :
    Calls Try.prog 112 #[.int .i64 k, .pointer (some ⟨g, 0, none⟩), .pointer (some ⟨gt, 0, none⟩), .pointer (some ⟨go, 0, none⟩)] w fun e w' => e = .returned (.int .i64 (leadZ q ws n k)) ∧ Below w.heap.size w w' := by
  have HOK := Lib.hid hok
  have HSL := Lib.hid hsl
  obtain ⟨m1, m2⟩ := lead_bd (q := q) (by omega) hok hk
  have HC := Lib.hid (fun W (h : Sl W b off n ws) => show Calls Try.prog 95 #[.agg #[.int .i64 q, .slice (some ⟨b, off, none⟩) n cap], .int .i64 k] W fun e w' => e = .returned (.int .i64 (pivotN q ws n k : Nat)) ∧ Below W.heap.size W w' from countPivots_any q b off n cap ws k W hn hk HOK.out h)
  have HV := Lib.hid (show leadZ q ws n k = (pivotN q ws n k : Int) * sumK ws n - ws.getD k 0 * (fact n : Int) from rfl)
  have K := Lib.hid (show ∀ W, Below w.heap.size w W → (W.cell? ⟨g, 0, none⟩ = some (.int .i64 q) ∧ W.cell? ⟨g, 1, none⟩ = some (.slice (some ⟨b, off, none⟩) n cap) ∧ W.cell? ⟨gt, 0, none⟩ = some (.int .i64 (sumK ws n)) ∧ W.cell? ⟨go, 0, none⟩ = some (.int .i64 (fact n : Nat)) ∧ W.cell? ⟨b, off + k, none⟩ = some (.int .i64 (ws.getD k 0))) from fun W h =>
    ⟨(hx.now h).cells.1, (hx.now h).cells.2, (ht.now h).cell, (ho.now h).cell, (hsl.now h).cell k hk⟩)
  have hg1 := hx.lt
  have hg2 := ht.lt
  have hg3 := ho.lt
  have hg4 := hsl.lt
  have hkI : (k : Int) < (n : Int) := by omega
  obtain ⟨P, hP⟩ : ∃ P, P = pivotN q ws n k := ⟨_, rfl⟩
  rw [← hP] at m1 HC HV
  obtain ⟨T, hT⟩ : ∃ T, T = sumK ws n := ⟨_, rfl⟩
  rw [← hT] at m1 HV K
  obtain ⟨N, hN⟩ : ∃ N, N = fact n := ⟨_, rfl⟩
  rw [← hN] at m2 HV K
  obtain ⟨x, hx'⟩ : ∃ x, x = ws.getD k 0 := ⟨_, rfl⟩
  rw [← hx'] at m2 HV K
  have HW := Lib.hid (show IntKind.i64.wrap (IntKind.i64.wrap ((P : Int) * T) - IntKind.i64.wrap (x * (N : Int))) = (P : Int) * T - x * (N : Int) from by rw [IntWalk.i64_in ((P : Int) * T) (by omega), IntWalk.i64_in (x * (N : Int)) (by omega), IntWalk.i64_in _ (by omega)])
  clear hok hsl hx ht ho hP hT hN hx' m1 m2
  obtain ⟨c0, c1, c2, c3, c4⟩ := K.out w (Below.refl _ _)
  go_enter Try.func112, Try.ntmps112
  go_wp2_with fail
  go_region_held3 (fun w' => w'.cell? ⟨g, 0, none⟩ = some (.int .i64 q) ∧ w'.cell? ⟨g, 1, none⟩ = some (.slice (some ⟨b, off, none⟩) n cap) ∧ w'.cell? ⟨gt, 0, none⟩ = some (.int .i64 T) ∧ w'.cell? ⟨go, 0, none⟩ = some (.int .i64 (N : Nat)) ∧ w'.cell? ⟨b, off + k, none⟩ = some (.int .i64 x))
    (first | exact ⟨c0, c1, c2, c3, c4⟩ | exact K.out _ hb2d | go_keep)
    (first
      | (go_at_call 95; refine (HC.out _ HSL.out.drew).mono ?_; rintro e w2 ⟨rfl, hb2⟩; have hb2d := bfrom (Below.refl w.heap.size w).drew hb2))
  all_goals
    go_wp2
    go_ret
    exact ⟨by rw [HV.out]; exact ret_int HW.out, hb2d⟩
theorem leads_nums (q : Int) (b off n cap g gt go : Nat) (ws : List Int) (w : World) (hn : n < 10) (hok : InK 0 1000 ws n) (hsl : Sl w b off n ws) (hx : Box w g (.int .i64 q) (.slice (some ⟨b, off, none⟩) n cap)) (ht : Box1 3 w gt (.int .i64 (sumK ws n))) (ho : Box1 3 w go (.int .i64 (fact n : Nat))) :
    NumsZ (leadZ q ws n) 112 #[] #[.pointer (some ⟨g, 0, none⟩), .pointer (some ⟨gt, 0, none⟩), .pointer (some ⟨go, 0, none⟩)] n w :=
  ⟨enters_of Try.func112 (by kernel_rfl) rfl, fun W k hk hb => leads1_any q b off n cap g gt go ws k W hn hk hok (hsl.now hb) (hx.now hb) (ht.now hb) (ho.now hb)⟩

theorem bfrom3 {B : Nat} {w w1 w2 : World} (h : Below B w w1) (k : Below w1.heap.size w1 w2) (hB : B ≤ w.heap.size := by first | exact Nat.le_refl _ | assumption) : Below B w w2 := h.trans (k.mono (Nat.le_trans hB h.size))
theorem two1 {t : TypeId} {w : World} {g : Nat} {v : Value} (h : Box1 t w g v) (x : Value) : ((w.alloc (.cells #[.int .i64 0] 3)).setCell ⟨g, 0, none⟩ x).frozen? ⟨w.heap.size, 0, none⟩ = false ∧ ((w.alloc (.cells #[.int .i64 0] 3)).setCell ⟨g, 0, none⟩ x).cell? ⟨w.heap.size, 0, none⟩ = some (.int .i64 0) := by
  have h1 := (Box1.new 3 w (.int .i64 0)).far (p := ⟨g, 0, none⟩) (show w.heap.size ≠ g by have := h.lt; omega) x
  exact ⟨h1.frozen, h1.cell⟩
theorem two2 {t : TypeId} {w : World} {g : Nat} {v : Value} (_h : Box1 t w g v) (x : Value) : ((w.setCell ⟨g, 0, none⟩ x).alloc (.cells #[.int .i64 0] t)).frozen? ⟨w.heap.size, 0, none⟩ = false ∧ ((w.setCell ⟨g, 0, none⟩ x).alloc (.cells #[.int .i64 0] t)).cell? ⟨w.heap.size, 0, none⟩ = some (.int .i64 0) := by
  have h1 := Box1.new t (w.setCell ⟨g, 0, none⟩ x) (.int .i64 0)
  rw [show (w.setCell ⟨g, 0, none⟩ x).heap.size = w.heap.size from by simp [World.setCell]] at h1
  exact ⟨h1.frozen, h1.cell⟩
theorem two3 {t : TypeId} {w : World} {g g2 : Nat} {v v2 : Value} (_h : Box1 t w g v) (h2 : Box1 t w g2 v2) (hne : g2 ≠ g) (x : Value) : (w.setCell ⟨g, 0, none⟩ x).frozen? ⟨g2, 0, none⟩ = false ∧ (w.setCell ⟨g, 0, none⟩ x).cell? ⟨g2, 0, none⟩ = some v2 := by
  have h1 := h2.far (p := ⟨g, 0, none⟩) hne x
  exact ⟨h1.frozen, h1.cell⟩
set_option maxHeartbeats 20000000 in
theorem powerLeads_any (q : Int) (b off n cap : Nat) (ws : List Int) (w : World) (hn : n < 10) (hok : InK 0 1000 ws n) (hsl : Sl w b off n ws) :
    Calls Try.prog 83 #[.agg #[.int .i64 q, .slice (some ⟨b, off, none⟩) n cap]] w fun e w' => IntsAt (perZ (leadZ q ws n) n) w w' e := by
  have HOK := Lib.hid hok
  have hb0 := below1 w (.cells #[.int .i64 q, .slice (some ⟨b, off, none⟩) n cap] 28)
  have hx := Box.new w (.int .i64 q) (.slice (some ⟨b, off, none⟩) n cap)
  have hsl0 := hsl.now hb0
  obtain ⟨W0, hW0⟩ : ∃ W0, W0 = w.alloc (.cells #[.int .i64 q, .slice (some ⟨b, off, none⟩) n cap] 28) := ⟨_, rfl⟩
  rw [← hW0] at hb0 hx hsl0
  have HW0 := Lib.hid hW0
  have K := Lib.hid (show ∀ W, Below W0.heap.size W0 W → (W.cell? ⟨w.heap.size, 0, none⟩ = some (.int .i64 q) ∧ W.cell? ⟨w.heap.size, 1, none⟩ = some (.slice (some ⟨b, off, none⟩) n cap)) from fun W h => (hx.now h).cells)
  have HSL := Lib.hid hsl0
  have HX := Lib.hid hx
  clear hok hsl hsl0 hx hW0
  go_enter Try.func83, Try.ntmps83
  go_wp2_with fail
  rw [← HW0.out]
  have cur : Below W0.heap.size W0 W0.drew := (Below.refl _ _).drew
  obtain ⟨c0, c1⟩ := K.out _ (Below.refl _ W0)
  go_region_held3 (fun w' => w'.cell? ⟨w.heap.size, 0, none⟩ = some (.int .i64 q) ∧ w'.cell? ⟨w.heap.size, 1, none⟩ = some (.slice (some ⟨b, off, none⟩) n cap))
    (first | exact K.out _ cur | exact K.out _ (cur.alloc cur.size _) | exact K.out _ ((cur.alloc cur.size _).alloc (cur.alloc cur.size _).size _) | (refine K.out _ ?_; (repeat' (first | exact cur | (refine Below.setCell ?_ ?_ _) | (refine Below.alloc ?_ ?_ _))); (all_goals (have e9 := cur.size; (try dsimp only); (try simp only [World.setCell, Array.size_modify]); omega))) | go_keep)
    (first
      | (go_at_call 75; refine (allOrders_any q _ n cap _ hn).mono ?_; rintro e wA ⟨rfl, hb⟩; (first | (have cur := bfrom3 cur hb; (first | (have bx := bx.now hb; have q0 := bx.cell; have z0 := bx.frozen; have l0 := bx.lt) | skip); (first | (have bz := bz.now hb; have q1 := bz.cell; have z1 := bz.frozen; have l1 := bz.lt) | skip)) | ((first | (have bz := (Box1.new 3 _ (.int .i64 0)).now hb; have bx := (bx.alloc _).now hb; have q0 := bx.cell; have z0 := bx.frozen; have l0 := bx.lt; have q1 := bz.cell; have z1 := bz.frozen; have l1 := bz.lt) | (have bx := (Box1.new 3 _ (.int .i64 0)).now hb; have q0 := bx.cell; have z0 := bx.frozen; have l0 := bx.lt)); have e0 := cur.size; have cur := bfrom3 (cur.alloc cur.size _) hb) | (have bz := (Box1.new 3 _ (.int .i64 0)).now hb; (try simp only [World.size_alloc] at bz); have bx := ((Box1.new 3 _ (.int .i64 0)).alloc _).now hb; have q0 := bx.cell; have z0 := bx.frozen; have l0 := bx.lt; have q1 := bz.cell; have z1 := bz.frozen; have l1 := bz.lt; have e0 := cur.size; have cur := bfrom3 ((cur.alloc cur.size _).alloc (cur.alloc cur.size _).size _) hb) | (have bx := (Box1.new 3 W0 (.int .i64 0)).drew.now hb; have q0 := bx.cell; have z0 := bx.frozen; have l0 := bx.lt; have cur := bfrom3 (((Below.refl _ W0).alloc (Nat.le_refl _) (.cells #[.int .i64 0] 3)).drew) hb) | (have bz := (Box1.new 3 (W0.alloc (.cells #[.int .i64 0] 3)) (.int .i64 0)).drew.now hb; (try simp only [World.size_alloc] at bz); have bx := ((Box1.new 3 W0 (.int .i64 0)).alloc (.cells #[.int .i64 0] 3)).drew.now hb; have q0 := bx.cell; have z0 := bx.frozen; have l0 := bx.lt; have q1 := bz.cell; have z1 := bz.frozen; have l1 := bz.lt; have cur := bfrom3 ((((Below.refl _ W0).alloc (Nat.le_refl _) (.cells #[.int .i64 0] 3)).alloc (by simp) (.cells #[.int .i64 0] 3)).drew) hb)); clear hb)
      | (go_at_call 111; refine (total_any q b off n cap ws _ hn HOK.out (by first | exact HSL.out.now cur | exact HSL.out.now (cur.alloc cur.size _) | exact HSL.out.now ((cur.alloc cur.size _).alloc (cur.alloc cur.size _).size _))).mono ?_; rintro e wB ⟨rfl, hb⟩; (first | (have cur := bfrom3 cur hb; (first | (have bx := bx.now hb; have q0 := bx.cell; have z0 := bx.frozen; have l0 := bx.lt) | skip); (first | (have bz := bz.now hb; have q1 := bz.cell; have z1 := bz.frozen; have l1 := bz.lt) | skip)) | ((first | (have bz := (Box1.new 3 _ (.int .i64 0)).now hb; have bx := (bx.alloc _).now hb; have q0 := bx.cell; have z0 := bx.frozen; have l0 := bx.lt; have q1 := bz.cell; have z1 := bz.frozen; have l1 := bz.lt) | (have bx := (Box1.new 3 _ (.int .i64 0)).now hb; have q0 := bx.cell; have z0 := bx.frozen; have l0 := bx.lt)); have e0 := cur.size; have cur := bfrom3 (cur.alloc cur.size _) hb) | (have bz := (Box1.new 3 _ (.int .i64 0)).now hb; (try simp only [World.size_alloc] at bz); have bx := ((Box1.new 3 _ (.int .i64 0)).alloc _).now hb; have q0 := bx.cell; have z0 := bx.frozen; have l0 := bx.lt; have q1 := bz.cell; have z1 := bz.frozen; have l1 := bz.lt; have e0 := cur.size; have cur := bfrom3 ((cur.alloc cur.size _).alloc (cur.alloc cur.size _).size _) hb)); clear hb; (first | (have bl := bx.lt; obtain ⟨f0, f1⟩ := two1 bx (.int .i64 (fact n : Nat)); obtain ⟨f2, f3⟩ := two2 bx (.int .i64 (fact n : Nat)); obtain ⟨f4, f5⟩ := two1 bx (.int .i64 (sumK ws n)); obtain ⟨f6, f7⟩ := two2 bx (.int .i64 (sumK ws n)); (first | (have bk := bz.lt; obtain ⟨f8, f9⟩ := two3 bx bz (by (try simp only [World.size_alloc]); omega) (.int .i64 (fact n : Nat))) | skip)) | skip)))
  all_goals
    go_wp2_with fail
    refine (forEachMemberZ_any (leadZ q ws n) _ _ _ q _ n cap _ hn (leads_nums q b off n cap w.heap.size _ _ ws _ hn HOK.out ?hsl9 ?hbx9 ?htt9 ?hoo9)).mono ?kk9
    case hsl9 =>
      refine HSL.out.now ?_
      go_grown
      all_goals (have e9 := cur.size; (try dsimp only); go_size)
    case hbx9 =>
      refine HX.out.now ?_
      go_grown
      all_goals (have e9 := cur.size; (try dsimp only); go_size)
    case htt9 =>
      repeat' (first | assumption | exact Box1.new _ _ _ | exact Box1.new2 _ _ _ _ | exact Box1.new3 _ _ _ _ _ | (with_reducible refine Box1.set (u := .int .i64 0) ?_ _) | (with_reducible refine Box1.far ?_ ?_ _) | (with_reducible refine Box1.alloc ?_ _))
      all_goals (have e9 := cur.size; (try dsimp only); (try simp only [World.size_alloc]); omega)
    case hoo9 =>
      repeat' (first | assumption | exact Box1.new _ _ _ | exact Box1.new2 _ _ _ _ | exact Box1.new3 _ _ _ _ _ | (with_reducible refine Box1.set (u := .int .i64 0) ?_ _) | (with_reducible refine Box1.far ?_ ?_ _) | (with_reducible refine Box1.alloc ?_ _))
      all_goals (have e9 := cur.size; (try dsimp only); (try simp only [World.size_alloc]); omega)
    case kk9 =>
      rintro e w3 ⟨A3, cap3, rfl, hown3, hb3⟩
      have hbF := bfrom3 (B := W0.heap.size) (w := W0) (by go_grown; all_goals (have e9 := cur.size; (try dsimp only); go_size)) hb3
      have HO3 := Lib.hid (owns_less hown3 (base' := w.heap.size) (by have e8 := hb0.size; have e9 := cur.size; (try simp only [World.size_alloc, World.setCell, Array.size_modify]); omega))
      clear hown3
      go_wp2
      go_ret
      exact ⟨A3, cap3, rfl, HO3.out, bfrom hb0 hbF⟩
end Go.Proofs.Ytlnlkfldlgchhaa
