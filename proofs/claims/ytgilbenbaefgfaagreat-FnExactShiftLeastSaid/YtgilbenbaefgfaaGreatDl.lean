/- Sets shifted least and greatest, the program's. -/
import Derived.Test.YtgilbenbaefgfaaGreatDh
import Derived.Test.YtgilbenbaefgfaaGreatK4
import Derived.Test.YtgilbenbaefgfaaGreatR7
import Derived.Deep.RegionHeld3
import Derived.BigQuiet
import Derived.Outline
namespace Go.Proofs.YtgilbenbaefgfaaGreat
open Go.RowKit Vo

theorem memAt2 {s n : Nat} (hs : s < 2^n) {t : Nat} (ht : t < (mem s 9).length) : ∃ x : Nat, (mem s 9).getD t 0 = (x : Int) ∧ x < n ∧ x < 9 ∧ s.testBit x = true := by
  have h : (mem s 9).getD t 0 ∈ mem s 9 := by rw [List.getD_eq_getElem?_getD, List.getElem?_eq_getElem ht]; exact List.getElem_mem ht
  obtain ⟨x, hx, e, hb⟩ := mem_iff.1 h
  refine ⟨x, e, ?_, hx, hb⟩
  rcases Nat.lt_or_ge x n with h | h
  · exact h
  · have h2 : s < 2^x := Nat.lt_of_lt_of_le hs (Nat.pow_le_pow_right (by omega) h)
    rw [Nat.testBit_lt_two_pow h2] at hb; cases hb
theorem any_yes {l : List Int} {f : Int → Bool} {t : Nat} (ht : t < l.length) (h : f (l.getD t 0) = true) : l.any f = true :=
  List.any_eq_true.2 ⟨_, by rw [List.getD_eq_getElem?_getD, List.getElem?_eq_getElem ht]; exact List.getElem_mem ht, h⟩
theorem any_no {l : List Int} {f : Int → Bool} (h : ∀ t, t < l.length → f (l.getD t 0) = false) : l.any f = false := by
  cases e : l.any f
  · rfl
  · obtain ⟨x, hx, hf⟩ := List.any_eq_true.1 e
    obtain ⟨t, ht, rfl⟩ := List.mem_iff_getElem.1 hx
    have := h t ht
    rw [List.getD_eq_getElem?_getD, List.getElem?_eq_getElem ht] at this
    simp only [Option.getD_some] at this
    rw [this] at hf; cases hf

/-- A function that has a set for each member. -/
structure AsksN (o : Nat → Nat) (k : Nat) (first cap : Array Value) (n : Nat) (w : World) : Prop where
  enters : ∀ args W, (callFunc k args).run Tryz.prog W = .ok (.enter k args) W
  low : ∀ i, o i < 2^n
  gives : ∀ (W : World) (i : Nat), i < n → Below w.heap.size w W → Calls Tryz.prog k (first.push (.int .i64 i) ++ cap) W fun e W' => e = .returned (.int .u64 (o i : Nat)) ∧ Below W.heap.size W W'
theorem AsksN.now {o k first cap n} {w w' : World} (h : AsksN o k first cap n w) (hb : Below w.heap.size w w') : AsksN o k first cap n w' :=
  ⟨h.enters, h.low, fun W i hi hb' => h.gives W i hi (bfrom hb hb')⟩
def offK (o s : Nat) : Nat := o &&& (18446744073709551615 - s)
theorem offK_le (o s : Nat) : offK o s ≤ o := Nat.and_le_left
def kwoJ (p : Nat → Bool) (s i : Nat) (j : Int) : Bool := p (out s i ||| 2^j.toNat)
def kwoI (o : Nat → Nat) (p : Nat → Bool) (s : Nat) (i : Int) : Bool := (mem (offK (o i.toNat) s) 9).any (kwoJ p s i.toNat)
/-- Is a set of a kind if some one of it is replaced by another one? -/
def kwoB (o : Nat → Nat) (p : Nat → Bool) (s : Nat) : Bool := (mem s 9).any (kwoI o p s)

set_option maxRecDepth 20000 in
set_option maxHeartbeats 8000000 in
theorem isKindWithOther_any (o : Nat → Nat) (p : Nat → Bool) (k1 : Nat) (f1 c1 : Array Value) (k2 : Nat) (f2 c2 : Array Value) (n s : Nat) (w : World) (hn : n ≤ 9) (hs : s < 2^n) (ho : AsksN o k1 f1 c1 n w) (hp : Asks p k2 f2 c2 n w) :
    Calls Tryz.prog 66 #[.int .u64 s, .func (.func k1) f1 c1, .func (.func k2) f2 c2] w fun e w' => e = .returned (.bool (kwoB o p s)) ∧ Below w.heap.size w w' := by
  have h512 := pow_lt hn
  have hs5 : s < 512 := by omega
  have HO := Lib.hid ho
  have HP := Lib.hid hp
  have eg1 := ho.enters
  have eg2 := hp.enters
  have HLOW := Lib.hid (fun i => show offK (o i) s < 2^n from Nat.lt_of_le_of_lt (offK_le _ _) (ho.low i))
  have HLO := Lib.hid (fun i => show o i < 512 from by have := ho.low i; omega)
  have HMA := Lib.hid (fun t (h : t < (mem s 9).length) => memAt2 hs h)
  have HYES := Lib.hid (fun t (h : t < (mem s 9).length) (hf : kwoI o p s ((mem s 9).getD t 0) = true) => show kwoB o p s = true from any_yes h hf)
  have HNO := Lib.hid (show (∀ t, t < (mem s 9).length → kwoI o p s ((mem s 9).getD t 0) = false) → kwoB o p s = false from any_no)
  have HPOW := Lib.hid (show ∀ i j, j < n → out s i ||| 2^j < 2^n from fun i j hj => or_pow_lt (Nat.lt_of_le_of_lt (out_le _ _) hs) hj)
  have HM2 := Lib.hid (fun (d : Nat) (hd : d < 2^n) t (h : t < (mem d 9).length) => memAt2 hd h)
  clear ho hp
  obtain ⟨r, hr⟩ : ∃ r, r = kwoB o p s := ⟨_, rfl⟩
  rw [← hr] at HYES HNO ⊢
  clear hr
  obtain ⟨l, hl⟩ : ∃ l, l = mem s 9 := ⟨_, rfl⟩
  have hl9 := mem_len s 9
  have HLI := Lib.hid (fun W => list_any s W hs5)
  simp only [IntsAt, ← hl] at HLI
  rw [← hl] at HMA HYES HNO hl9
  clear hl
  obtain ⟨m, hm⟩ : ∃ m, m = l.length := ⟨_, rfl⟩
  simp only [← hm] at HLI HMA HYES HNO hl9
  have HML := Lib.hid hm
  clear hm
  go_enter Tryz.func66, Tryz.ntmps66
  go_wp2_with fail
  refine (HLI.out _).mono ?_
  rintro e w1 ⟨A, cp, rfl, hown, hb1⟩
  have HC1 := Lib.hid (show ∀ W, Below w1.heap.size w1 W → ∀ j, j < m → ∃ g, A = some ⟨g, 0, none⟩ ∧ W.cell? ⟨g, j, none⟩ = some (.int .i64 (l.getD j 0)) from fun W hW j h => by
    obtain ⟨g, cap', hv, _, _, _⟩ := owns_head hown (by omega)
    obtain ⟨rfl, rfl⟩ : A = some ⟨g, 0, none⟩ ∧ cp = cap' := by simpa using hv
    have hlt : g < w1.heap.size := owns_lt hown rfl
    have hO : Ints w1 g m l := Own.of_own hown (fun i hi => by
      have : i < l.length := by rw [← HML.out]; exact hi
      simp [List.getD_eq_getElem?_getD, this])
    exact ⟨g, rfl, (Own.below hO hW hlt).cell h⟩)
  clear hown
  go_wp2
  go_loopw [8, 14] (fun _ x wr => ∃ a : Nat, a ≤ m ∧ x = .int .i64 a ∧ (∀ t, t < a → kwoI o p s (l.getD t 0) = false) ∧ Below w1.heap.size w1 wr) (fun _ x _ => m - (intOf x).toNat)
  case atStart => exact ⟨0, Nat.zero_le _, rfl, fun _ h => by omega, Below.refl _ _⟩
  case round =>
    obtain ⟨a, ha, rfl, hall, hbr⟩ := hrel
    have HA := Lib.hid hall
    clear hall
    by_cases hlt : a < m
    · obtain ⟨g, rfl, hcell⟩ := HC1.out _ hbr a hlt
      obtain ⟨i, hie, hin, hi9, _⟩ := HMA.out a hlt
      have HIY := Lib.hid (HYES.out a hlt)
      have HSTEP := Lib.hid (show kwoI o p s (l.getD a 0) = false → ∀ t, t < a + 1 → kwoI o p s (l.getD t 0) = false from fun h t ht => by
        by_cases e : t = a
        · subst e; exact h
        · exact HA.out t (by omega))
      rw [hie] at hcell HIY HSTEP
      clear hie
      have hzr := hb1.trans (hbr.mono hb1.size)
      have HOI := Lib.hid (HO.out.gives wr i hin hzr)
      have hoi5 := HLO.out i
      have HAN := Lib.hid (show bits BinOp.andNot IntKind.u64 (o i : Nat) (s : Nat) = (offK (o i) s : Nat) from u64_andNot_nat _ _ (by omega) (by omega))
      have hd5 : offK (o i) s < 512 := by have := HLOW.out i; omega
      have HM3 := Lib.hid (HM2.out (offK (o i) s) (HLOW.out i))
      have HKY := Lib.hid (fun t (h : t < (mem (offK (o i) s) 9).length) (hf : kwoJ p s i ((mem (offK (o i) s) 9).getD t 0) = true) => show kwoI o p s (i : Int) = true from by unfold kwoI; rw [Int.toNat_natCast]; exact any_yes h hf)
      have HKN := Lib.hid (show (∀ t, t < (mem (offK (o i) s) 9).length → kwoJ p s i ((mem (offK (o i) s) 9).getD t 0) = false) → kwoI o p s (i : Int) = false from fun h => by unfold kwoI; rw [Int.toNat_natCast]; exact any_no h)
      obtain ⟨d, hd⟩ : ∃ d, d = offK (o i) s := ⟨_, rfl⟩
      rw [← hd] at HAN hd5 HM3 HKY HKN
      clear hd
      obtain ⟨l2, hl2⟩ : ∃ l2, l2 = mem d 9 := ⟨_, rfl⟩
      have hl29 := mem_len d 9
      have HLI2 := Lib.hid (fun W => list_any d W hd5)
      simp only [IntsAt, ← hl2] at HLI2
      rw [← hl2] at HM3 HKY HKN hl29
      clear hl2
      obtain ⟨m2, hm2⟩ : ∃ m2, m2 = l2.length := ⟨_, rfl⟩
      simp only [← hm2] at HLI2 HM3 HKY HKN hl29
      have HML2 := Lib.hid hm2
      clear hm2
      generalize o i = oi at *
      have hand := HAN.out
      go_wp2_with (first
        | (go_at_fn k1; refine HOI.out.mono ?_; rintro e w2 ⟨rfl, hb2⟩)
        | fail)
      refine (HLI2.out _).mono ?_
      rintro e w3 ⟨A3, cp3, rfl, hown3, hb3⟩
      have HC3 := Lib.hid (show ∀ W, Below w3.heap.size w3 W → ∀ j, j < m2 → ∃ g, A3 = some ⟨g, 0, none⟩ ∧ W.cell? ⟨g, j, none⟩ = some (.int .i64 (l2.getD j 0)) from fun W hW j h => by
        obtain ⟨g, cap', hv, _, _, _⟩ := owns_head hown3 (by omega)
        obtain ⟨rfl, rfl⟩ : A3 = some ⟨g, 0, none⟩ ∧ cp3 = cap' := by simpa using hv
        have hlt : g < w3.heap.size := owns_lt hown3 rfl
        have hO : Ints w3 g m2 l2 := Own.of_own hown3 (fun i hi => by
          have : i < l2.length := by rw [← HML2.out]; exact hi
          simp [List.getD_eq_getElem?_getD, this])
        exact ⟨g, rfl, (Own.below hO hW hlt).cell h⟩)
      have g3 := bfrom (bfrom hzr hb2) hb3
      have h13 : Below w1.heap.size w1 w3 := hbr.trans ((bfrom hb2 hb3).mono hbr.size)
      clear hown3 hcell
      go_wp2
      go_loopw [10, 25] (fun _ x wi => ∃ b : Nat, b ≤ m2 ∧ x = .int .i64 b ∧ (∀ t, t < b → kwoJ p s i (l2.getD t 0) = false) ∧ Below w3.heap.size w3 wi) (fun _ x _ => m2 - (intOf x).toNat)
      case atStart => exact ⟨0, Nat.zero_le _, rfl, fun _ h => by omega, Below.refl _ _⟩
      case round =>
        obtain ⟨b, hb, rfl, hall2, hbi⟩ := hrel
        have HA2 := Lib.hid hall2
        clear hall2
        by_cases hlt2 : b < m2
        · obtain ⟨g3', rfl, hcell3⟩ := HC3.out _ hbi b hlt2
          obtain ⟨j, hje, hjn, hj9, _⟩ := HM3.out b hlt2
          have HJY := Lib.hid (HKY.out b hlt2)
          have HST2 := Lib.hid (show kwoJ p s i (l2.getD b 0) = false → ∀ t, t < b + 1 → kwoJ p s i (l2.getD t 0) = false from fun h t ht => by
            by_cases e : t = b
            · subst e; exact h
            · exact HA2.out t (by omega))
          rw [hje] at hcell3 HJY HST2
          clear hje
          have HKJ := Lib.hid (show kwoJ p s i (j : Int) = p (out s i ||| 2^j) from by unfold kwoJ; rw [Int.toNat_natCast])
          rw [HKJ.out] at HJY HST2
          have hos := out_le s i
          have hsn := HPOW.out i j hjn
          have HWO := Lib.hid (fun W => without_any s i W (by omega) hs5)
          have HWI := Lib.hid (fun W => with_any (out s i) j W (by omega) (by omega))
          have HPJ := Lib.hid (HP.out.gives wr (out s i ||| 2^j) hsn (bfrom g3 hbi))
          clear hos hsn
          generalize out s i = so at *
          generalize so ||| 2^j = t at *
          cases hpt : p t
          · rw [hpt] at HPJ
            have HS := Lib.hid (HST2.out hpt)
            clear hpt
            go_wp2_with (first
              | (go_at_call 88; refine (HWO.out _).mono ?_; rintro e w4 ⟨rfl, rfl⟩)
              | (go_at_call 68; refine (HWI.out _).mono ?_; rintro e w4 ⟨rfl, rfl⟩)
              | (go_at_fn k2; refine HPJ.out.mono ?_; rintro e w5 ⟨rfl, hb5⟩)
              | fail)
            go_roundw
            case rel => exact ⟨b + 1, by omega, by go_num, HS.out, bfrom hbi hb5⟩
            case measure => simp [intOf]; omega
          · rw [hpt] at HPJ
            have HR := Lib.hid (HIY.out (HJY.out hpt))
            clear hpt
            go_wp2_with (first
              | (go_at_call 88; refine (HWO.out _).mono ?_; rintro e w4 ⟨rfl, rfl⟩)
              | (go_at_call 68; refine (HWI.out _).mono ?_; rintro e w4 ⟨rfl, rfl⟩)
              | (go_at_fn k2; refine HPJ.out.mono ?_; rintro e w5 ⟨rfl, hb5⟩)
              | fail)
            go_ret
            exact ⟨by rw [HR.out]; rfl, bfrom (bfrom g3 hbi) hb5⟩
        · obtain rfl : b = m2 := by omega
          have HS := Lib.hid (HSTEP.out (HKN.out HA2.out))
          go_wp2
          go_roundw
          case rel => exact ⟨a + 1, by omega, by go_num, HS.out, h13.trans (hbi.mono h13.size)⟩
          case measure => simp [intOf]; omega
    · obtain rfl : a = m := by omega
      have HR := Lib.hid (HNO.out HA.out)
      go_wp2
      go_ret
      exact ⟨by rw [HR.out]; rfl, hb1.trans (hbr.mono hb1.size)⟩

set_option maxRecDepth 20000 in
set_option maxHeartbeats 4000000 in
theorem withoutOther_any (o : Nat → Nat) (p : Nat → Bool) (k1 : Nat) (f1 c1 : Array Value) (k2 : Nat) (f2 c2 : Array Value) (n : Nat) (M : List Nat) (base m cap : Nat) (A : Option Addr) (w : World) (hn : n ≤ 9) (hm : m = M.length) (hm5 : m ≤ 512) (hM : ∀ s ∈ M, s < 2^n) (hown : w.ownsRow base 68 1 (.slice A m cap) m (setsV M)) (ho : AsksN o k1 f1 c1 n w) (hp : Asks p k2 f2 c2 n w) :
    Calls Tryz.prog 38 #[.slice A m cap, .func (.func k1) f1 c1, .func (.func k2) f2 c2] w fun e w' => SetsAt w.heap.size (M.filter fun s => !kwoB o p s) w w' e := by
  obtain ⟨i0, hi0, hz0, hz1, hz2⟩ := info_parts infoSet
  have HC1 := Lib.hid (show ∀ W, Below w.heap.size w W → ∀ j, j < m → ∃ g, A = some ⟨g, 0, none⟩ ∧ g < w.heap.size ∧ W.cell? ⟨g, j, none⟩ = some (.int .u64 (M.getD j 0 : Nat)) from fun W hW j h => by
    obtain ⟨g, cap', hv, _, _, _⟩ := owns_head hown (by omega)
    obtain ⟨rfl, rfl⟩ : A = some ⟨g, 0, none⟩ ∧ cap = cap' := by simpa using hv
    have hlt : g < w.heap.size := owns_lt hown rfl
    have hO : Own w g 68 m (fun i => .int .u64 (M.getD i 0 : Nat)) := Own.of_own hown (fun i hi => by
      have : i < M.length := by rw [← hm]; exact hi
      simp [setsV, List.getD_eq_getElem?_getD, this])
    exact ⟨g, rfl, hlt, (Own.below hO hW hlt).cell h⟩)
  have HML := Lib.hid hm
  have HIN := Lib.hid (fun j (h : j < m) => show M.getD j 0 < 2^n from hM _ (getD_mem (by omega)))
  have HW := Lib.hid (fun W s (hs : s < 2^n) (hb : Below w.heap.size w W) => isKindWithOther_any o p k1 f1 c1 k2 f2 c2 n s W hn hs (ho.now hb) (hp.now hb))
  have h512 := pow_lt hn
  obtain ⟨P, hP⟩ : ∃ P, P = fun s => !kwoB o p s := ⟨_, rfl⟩
  have HPS := Lib.hid (fun s => show kwoB o p s = !P s from by rw [hP]; simp)
  simp only [HPS.out] at HW
  rw [← hP]
  clear hP hown ho hp hm hM HPS
  go_enter Tryz.func38, Tryz.ntmps38
  go_wp2
  go_loopw [7, 9, 12] (fun v _ i wr => ∃ (j : Nat) (B : Option Addr) (cap : Nat), j ≤ m ∧ i = .int .i64 j ∧ v = .slice B ((M.take j).filter P).length cap ∧ wr.ownsRow w.heap.size 68 1 (.slice B ((M.take j).filter P).length cap) ((M.take j).filter P).length (setsV ((M.take j).filter P)) ∧ Below w.heap.size w wr) (fun _ _ i _ => m - (intOf i).toNat)
  case atStart => exact ⟨0, none, 0, Nat.zero_le _, rfl, rfl, World.ownsRow_nil _ _ _ _, Below.refl _ _⟩
  case round =>
    obtain ⟨j, B, cap2, hj, rfl, rfl, hown, hbr⟩ := hrel
    have HO := Lib.hid hown
    clear hown
    have hfl := filter_take_le P M j
    obtain ⟨F, hF⟩ : ∃ F, F = (M.take j).filter P := ⟨_, rfl⟩
    rw [← hF] at hfl HO ⊢
    obtain ⟨fl, hfm⟩ : ∃ fl, fl = F.length := ⟨_, rfl⟩
    rw [← hfm] at hfl HO ⊢
    have HFm := Lib.hid hfm
    have HF := Lib.hid hF
    clear hfm hF
    have hszr := hbr.size
    by_cases hlt : j < m
    · obtain ⟨g, rfl, hgl, hcell⟩ := HC1.out _ hbr j hlt
      have hsn := HIN.out j hlt
      have HST := Lib.hid (filter_take_succ P M j (by rw [← HML.out]; exact hlt))
      rw [← HF.out] at HST
      obtain ⟨s, hs⟩ : ∃ s, M.getD j 0 = s := ⟨_, rfl⟩
      rw [hs] at hcell hsn HST
      clear hs
      have HWS := Lib.hid (HW.out wr s hsn hbr)
      clear hsn
      cases hp : P s
      · rw [hp] at HST HWS
        clear hp
        go_wp2_with fail
        refine HWS.out.mono ?_
        rintro e w5 ⟨rfl, hb5⟩
        go_wp2
        go_roundw
        case rel => exact ⟨j + 1, B, cap2, by omega, by go_num, by rw [HST.out, HFm.out]; simp, by rw [HST.out]; have := owns_now HO.out hb5; simpa [HFm.out] using this, bfrom hbr hb5⟩
        case measure => simp [intOf]; omega
      · rw [hp] at HST HWS
        clear hp
        go_wp2_with (first
          | (go_at_call 66; refine HWS.out.mono ?_; rintro e w5 ⟨rfl, hb5⟩; have HO5 := Lib.hid (owns_now HO.out hb5); have b5 := bfrom hbr hb5; have hsz5 := b5.size)
          | (at_builtin; refine wpList_append_lies _ rfl _ _ _ rfl w.heap.size 68 i0 _ 1 8 Tryz.underlying44 hi0 hz0 hz1 hz2 rfl (by decide) (.slice B fl cap2) fl (setsV F) rfl (HO5.out.alloc _) ⟨w5.heap.size, 0, none⟩ 1 1 [.int .u64 s] rfl rfl (World.news_of_block (cs := #[.int .u64 s]) (t := 68) (fr := (0, 0)) (heap_alloc_new w5 _)) (by simp [Value.oneCell']) (by omega) (by unfold maxLen; omega) (by omega) (by simp; omega) (w5.heap.size + 1) (by simp) ?_; intro gg cap3 w6 hown6 hgrow hat hlt6)
          | fail)
        have hb6 : Below w.heap.size w w6 := (b5.alloc hsz5 (.cells #[.int .u64 s] 68)).grown hgrow (by simp; omega) fun i hi => owns_le HO5.out hi
        go_roundw
        case rel => exact ⟨j + 1, some ⟨gg, 0, none⟩, cap3, by omega, by go_num, by rw [HST.out, HFm.out]; simp, by rw [HST.out]; simpa [HFm.out, setsV] using hown6, hb6⟩
        case measure => simp [intOf]; omega
    · obtain rfl : j = m := by omega
      have HE := Lib.hid (show F = M.filter P from by rw [HF.out, HML.out, List.take_length])
      go_wp2
      go_ret
      exact ⟨B, cap2, by rw [← HE.out, ← HFm.out]; rfl, by rw [← HE.out, ← HFm.out]; exact HO.out, hbr⟩

set_option maxHeartbeats 1000000 in
theorem lessThan_asks (f : Nat → Nat → Bool) (n g cp : Nat) (w : World) (hn : n ≤ 9) (ho : Own w g 68 n (fun t => .int .u64 (selK (f t) n : Nat))) :
    AsksN (fun i => selK (agK f i 1) n) 40 #[.slice (some ⟨g, 0, none⟩) n cp] #[] n w :=
  ⟨enters_of Tryz.func40 (by kernel_rfl) rfl, fun i => selK_lt _ _, fun W i hi hb => lessThan_any f n i g cp W hn hi (ho.below hb ho.lt)⟩
set_option maxHeartbeats 1000000 in
theorem greaterThan_any (f : Nat → Nat → Bool) (n k g cap : Nat) (w : World) (hn : n ≤ 9) (hk : k < n) (ho : Own w g 68 n (fun t => .int .u64 (selK (f t) n : Nat))) :
    Calls Tryz.prog 44 #[.slice (some ⟨g, 0, none⟩) n cap, .int .i64 k] w fun e w' => e = .returned (.int .u64 (selK (agK f k (-1)) n : Nat)) ∧ Below w.heap.size w w' := by
  have HA := Lib.hid (against_any f n k g cap (-1) w hn hk ho)
  clear ho
  generalize selK (agK f k (-1)) n = s at *
  go_enter Tryz.func44, Tryz.ntmps44
  go_wp2_with fail
  refine HA.out.mono ?_
  rintro e w1 ⟨rfl, hb⟩
  go_wp2
  go_ret
  exact ⟨rfl, hb⟩
theorem greaterThan_asks (f : Nat → Nat → Bool) (n g cp : Nat) (w : World) (hn : n ≤ 9) (ho : Own w g 68 n (fun t => .int .u64 (selK (f t) n : Nat))) :
    AsksN (fun i => selK (agK f i (-1)) n) 44 #[.slice (some ⟨g, 0, none⟩) n cp] #[] n w :=
  ⟨enters_of Tryz.func44 (by kernel_rfl) rfl, fun i => selK_lt _ _, fun W i hi hb => greaterThan_any f n i g cp W hn hi (ho.below hb ho.lt)⟩

/-- The sets that are shifted least, or greatest, as the program finds them. -/
def shLK (S : List Nat) (n : Nat) : List Nat := S.filter fun s => !kwoB (fun i => selK (agK (worthP (winS S) n) i 1) n) (winS S) s
def shGK (S : List Nat) (n : Nat) : List Nat := ((inOrder n).filter (greatP (fun s => !winS S s) n)).filter fun s => !kwoB (fun i => selK (agK (worthP (winS S) n) i (-1)) n) (fun s => !winS S s) s
def shiftLeastL (m : Int) (L : List (List Int)) : List (List Int) := if goodG m L then setsL (shLK (setsN L) m.toNat) else []
def shiftGreatestL (m : Int) (L : List (List Int)) : List (List Int) := if goodG m L then setsL (shGK (setsN L) m.toNat) else []
theorem shiftLeastL_yes {q : Nat} {L : List (List Int)} (h : goodG (q : Int) L = true) : shiftLeastL (q : Int) L = setsL (shLK (setsN L) q) := by unfold shiftLeastL; rw [if_pos h, Int.toNat_natCast]
theorem shiftLeastL_no {m : Int} {L : List (List Int)} (h : goodG m L = false) : shiftLeastL m L = [] := if_neg (by rw [h]; simp)
theorem shiftGreatestL_yes {q : Nat} {L : List (List Int)} (h : goodG (q : Int) L = true) : shiftGreatestL (q : Int) L = setsL (shGK (setsN L) q) := by unfold shiftGreatestL; rw [if_pos h, Int.toNat_natCast]
theorem shiftGreatestL_no {m : Int} {L : List (List Int)} (h : goodG m L = false) : shiftGreatestL m L = [] := if_neg (by rw [h]; simp)
theorem setsN_few {q : Nat} {L : List (List Int)} (h : goodG (q : Int) L = true) : (setsN L).length ≤ 512 := by
  obtain ⟨_, h9, _, hr, he⟩ := goodG_parts h
  rw [Int.toNat_natCast] at hr
  rw [he]
  exact leastL_len fun s hs => setsN_512 (by omega) hr s (inS_iff.1 hs)

set_option maxRecDepth 20000 in
set_option maxHeartbeats 8000000 in
theorem iShiftLeast_any (m : Int) (A : Option Addr) (n cap : Nat) (L : List (List Int)) (w : World) (hl : n ≤ 1048576) (hk : Lists w A n L) :
    Calls Tryz.prog 22 #[.agg #[.int .i64 m, .slice A n cap]] w fun e w' => Ans (RSS (shiftLeastL m L)) (goodG m L) w w' e := by
  have HK := Lib.hid (hk.now (below1 w (.cells #[.int .i64 m, .slice A n cap] 28)))
  have HLEN := Lib.hid hk.1
  clear hk
  have hx := BoxT.new 28 w (.int .i64 m) (.slice A n cap)
  have hb0 := below1 w (.cells #[.int .i64 m, .slice A n cap] 28)
  obtain ⟨c0, c1⟩ := hx.cells
  go_enter Tryz.func22, Tryz.ntmps22
  go_wp2_with fail
  refine (readGame_any m A n cap L _ hl HK.out).mono ?_
  rintro e w1 ⟨hb1, h⟩
  have g1 := bfrom hb0 hb1
  rcases h with ⟨hg, B, cp, rfl, hown⟩ | ⟨hg, rfl⟩
  · obtain ⟨h1, h9, _, hr, _⟩ := goodG_parts hg
    have hfew := setsN_few (q := m.toNat) (L := L) (by rw [show ((m.toNat : Nat) : Int) = m by omega]; exact hg)
    obtain ⟨q, rfl⟩ : ∃ q : Nat, m = q := ⟨m.toNat, by omega⟩
    rw [Int.toNat_natCast] at hr
    have hq9 : q ≤ 9 := by omega
    rw [HLEN.out] at hown ⊢
    have HGB := Lib.hid hg
    have HCN := Lib.hid (shiftLeastL_yes hg)
    have HSN := Lib.hid (show n = (setsN L).length from by rw [← HLEN.out]; simp [setsN])
    rw [← HSN.out] at hfew
    have HS5 := Lib.hid (setsN_512 hq9 hr)
    have HSQ := Lib.hid (setsN_lt hq9 hr)
    have b2 := below1 w1 (.cells #[.int .i64 q, .slice B n cp] 55)
    have hy := BoxT.new 55 w1 (.int .i64 q) (.slice B n cp)
    obtain ⟨d0, d1⟩ := hy.cells
    obtain ⟨w2, hw2⟩ : ∃ w2, w2 = w1.alloc (.cells #[.int .i64 q, .slice B n cp] 55) := ⟨_, rfl⟩
    have HO := Lib.hid (owns_now hown b2)
    have g2 := bfrom g1 b2
    rw [← hw2] at HO g2 hy d0 d1
    have HB := Lib.hid (fun W hb => worthTable_any (setsN L) q _ n cp B W hq9 HSN.out hl HS5.out (owns_now HO.out hb))
    have KX := Lib.hid (fun W (h : Below w2.heap.size w2 W) => (hy.now h).cells)
    have HWO := Lib.hid (fun g W (hb : Below w2.heap.size w2 W) h => withoutOther_any (fun i => selK (agK (worthP (winS (setsN L)) q) i 1) q) (winS (setsN L)) _ #[.slice (some ⟨g, 0, none⟩) q q] #[] _ _ _ q (setsN L) _ n cp B W hq9 HSN.out hfew HSQ.out (owns_now HO.out hb) (lessThan_asks (worthP (winS (setsN L)) q) q g q W hq9 h) (gWins_asks (setsN L) q _ n cp q B W hq9 HSN.out hl HS5.out (owns_now HO.out hb)))
    have HF1 := Lib.hid (show ∀ T, T = shLK (setsN L) q → T.length ≤ 512 ∧ ∀ j, j < T.length → T.getD j 0 < 512 from fun T hT => by
      rw [hT]
      refine ⟨Nat.le_trans (List.length_filter_le _ _) (by rw [← HSN.out]; exact hfew), fun j hj => HS5.out _ (List.mem_filter.1 (getD_mem hj)).1⟩)
    obtain ⟨f, hf⟩ : ∃ f, f = worthP (winS (setsN L)) q := ⟨_, rfl⟩
    have HTE := Lib.hid (show (setsN L).filter (fun s => !kwoB (fun i => selK (agK (worthP (winS (setsN L)) q) i 1) q) (winS (setsN L)) s) = shLK (setsN L) q from rfl)
    simp only [HTE.out] at HWO
    simp only [← hf] at HB HWO
    obtain ⟨T, hT⟩ : ∃ T, T = shLK (setsN L) q := ⟨_, rfl⟩
    have HF := Lib.hid (HF1.out T hT)
    simp only [← hT] at HWO HCN
    simp only [SetsAt] at HWO
    obtain ⟨tl, htl⟩ : ∃ tl, tl = T.length := ⟨_, rfl⟩
    simp only [← htl] at HWO HF
    have HTL := Lib.hid htl
    clear hown hg hr hf hT htl hy HF1 HTE
    go_wp2_with fail
    rw [← hw2]
    clear hw2
    go_region_held3 (fun w' => w'.cell? ⟨w1.heap.size, 0, none⟩ = some (.int .i64 q) ∧ w'.cell? ⟨w1.heap.size, 1, none⟩ = some (.slice B n cp))
      (first | exact ⟨d0, d1⟩ | exact k3 | exact k4 | exact k5 | go_keep)
      (first
        | (go_at_call 39; refine (HB.out _ (Below.refl _ _).drew).mono ?_; rintro e w3 ⟨rfl, hown3, hb3⟩; have b3 := bfrom (Below.refl _ w2).drew hb3; have k3 := KX.out _ b3; have HO3 := Lib.hid hown3; clear hown3)
        | (go_at_call 38; refine (HWO.out _ _ b3 HO3.out).mono ?_; rintro e w4 ⟨A4, cp4, rfl, hown4, hb4⟩; have b4 := bfrom b3 hb4; have k4 := KX.out _ b4; have HO4 := Lib.hid hown4; clear hown4)
        | (go_at_call 37; refine (listsOf_any T _ cp4 tl A4 _ HTL.out HF.out.1 HF.out.2 HO4.out).mono ?_; rintro e w5 ⟨B5, cp5, rfl, hss5, hb5⟩; have b5 := bfrom b4 hb5; have k5 := KX.out _ b5; have HSS := Lib.hid hss5; clear hss5))
    all_goals
      have hz4 := (bfrom g2 b4).size
      go_wp2
      go_ret2
      rw [HCN.out, HGB.out]
      exact ⟨_, rfl, RSS.lies (SSb.rss (SSb.less HSS.out hz4) ⟨B5, cp5, by rw [setsL_len, ← HTL.out]; rfl⟩) (Nat.le_refl _), bfrom g2 b5⟩
  · have HGB := Lib.hid hg
    have HCN := Lib.hid (shiftLeastL_no hg)
    clear hg
    go_wp2
    go_ret2
    rw [HCN.out, HGB.out]
    exact Ans.noneSS (g1.alloc g1.size _)
set_option maxRecDepth 20000 in
set_option maxHeartbeats 8000000 in
theorem iShiftGreatest_any (m : Int) (A : Option Addr) (n cap : Nat) (L : List (List Int)) (w : World) (hl : n ≤ 1048576) (hk : Lists w A n L) :
    Calls Tryz.prog 24 #[.agg #[.int .i64 m, .slice A n cap]] w fun e w' => Ans (RSS (shiftGreatestL m L)) (goodG m L) w w' e := by
  have HK := Lib.hid (hk.now (below1 w (.cells #[.int .i64 m, .slice A n cap] 28)))
  have HLEN := Lib.hid hk.1
  clear hk
  have hx := BoxT.new 28 w (.int .i64 m) (.slice A n cap)
  have hb0 := below1 w (.cells #[.int .i64 m, .slice A n cap] 28)
  obtain ⟨c0, c1⟩ := hx.cells
  go_enter Tryz.func24, Tryz.ntmps24
  go_wp2_with fail
  refine (readGame_any m A n cap L _ hl HK.out).mono ?_
  rintro e w1 ⟨hb1, h⟩
  have g1 := bfrom hb0 hb1
  rcases h with ⟨hg, B, cp, rfl, hown⟩ | ⟨hg, rfl⟩
  · obtain ⟨h1, h9, _, hr, _⟩ := goodG_parts hg
    have hfew := setsN_few (q := m.toNat) (L := L) (by rw [show ((m.toNat : Nat) : Int) = m by omega]; exact hg)
    obtain ⟨q, rfl⟩ : ∃ q : Nat, m = q := ⟨m.toNat, by omega⟩
    rw [Int.toNat_natCast] at hr
    have hq9 : q ≤ 9 := by omega
    rw [HLEN.out] at hown ⊢
    have HGB := Lib.hid hg
    have HCN := Lib.hid (shiftGreatestL_yes hg)
    have HSN := Lib.hid (show n = (setsN L).length from by rw [← HLEN.out]; simp [setsN])
    rw [← HSN.out] at hfew
    have HS5 := Lib.hid (setsN_512 hq9 hr)
    have HSQ := Lib.hid (setsN_lt hq9 hr)
    have b2 := below1 w1 (.cells #[.int .i64 q, .slice B n cp] 55)
    have hy := BoxT.new 55 w1 (.int .i64 q) (.slice B n cp)
    obtain ⟨d0, d1⟩ := hy.cells
    obtain ⟨w2, hw2⟩ : ∃ w2, w2 = w1.alloc (.cells #[.int .i64 q, .slice B n cp] 55) := ⟨_, rfl⟩
    have HO := Lib.hid (owns_now hown b2)
    have g2 := bfrom g1 b2
    rw [← hw2] at HO g2 hy d0 d1
    have HB := Lib.hid (fun W hb => worthTable_any (setsN L) q _ n cp B W hq9 HSN.out hl HS5.out (owns_now HO.out hb))
    have KX := Lib.hid (fun W (h : Below w2.heap.size w2 W) => (hy.now h).cells)
    have HGS := Lib.hid (fun W (hb : Below w2.heap.size w2 W) => greatestSets_any (fun s => !winS (setsN L) s) 43 #[.agg #[.int .i64 q, .slice B n cp]] #[] q W (by omega) (gLoses_asks (setsN L) q _ n cp q B W hq9 HSN.out hl HS5.out (owns_now HO.out hb)))
    have hfg := filt_get (P := greatP (fun s => !winS (setsN L) s) q) hq9
    have HGM := Lib.hid (show ∀ s ∈ (inOrder q).filter (greatP (fun s => !winS (setsN L) s) q), s < 2^q from fun s h => mem_inOrder.1 (List.mem_filter.1 h).1)
    obtain ⟨M, hM⟩ : ∃ M, M = (inOrder q).filter (greatP (fun s => !winS (setsN L) s) q) := ⟨_, rfl⟩
    simp only [← hM, SetsAt] at HGS hfg HGM
    obtain ⟨ml, hml⟩ : ∃ z, z = M.length := ⟨_, rfl⟩
    simp only [← hml] at HGS hfg
    have HML := Lib.hid hml
    have HWO := Lib.hid (fun g A3 cp3 base W (hb : Below w2.heap.size w2 W) h (h3 : W.ownsRow base 68 1 (.slice A3 ml cp3) ml (setsV M)) => withoutOther_any (fun i => selK (agK (worthP (winS (setsN L)) q) i (-1)) q) (fun s => !winS (setsN L) s) _ #[.slice (some ⟨g, 0, none⟩) q q] #[] _ _ _ q M base ml cp3 A3 W hq9 HML.out hfg.1 HGM.out h3 (greaterThan_asks (worthP (winS (setsN L)) q) q g q W hq9 h) (gLoses_asks (setsN L) q _ n cp q B W hq9 HSN.out hl HS5.out (owns_now HO.out hb)))
    have HTE := Lib.hid (show M.filter (fun s => !kwoB (fun i => selK (agK (worthP (winS (setsN L)) q) i (-1)) q) (fun s => !winS (setsN L) s) s) = shGK (setsN L) q from by rw [hM]; rfl)
    have HF1 := Lib.hid (show ∀ T, T = shGK (setsN L) q → T.length ≤ 512 ∧ ∀ j, j < T.length → T.getD j 0 < 512 from fun T hT => by
      rw [hT, ← HTE.out]
      refine ⟨Nat.le_trans (List.length_filter_le _ _) (by rw [← HML.out]; exact hfg.1), fun j hj => ?_⟩
      have h1 := HGM.out _ (List.mem_filter.1 (getD_mem hj)).1
      have h2 := pow_lt hq9
      omega)
    obtain ⟨f, hf⟩ : ∃ f, f = worthP (winS (setsN L)) q := ⟨_, rfl⟩
    simp only [HTE.out] at HWO
    simp only [← hf] at HB HWO
    obtain ⟨T, hT⟩ : ∃ T, T = shGK (setsN L) q := ⟨_, rfl⟩
    have HF := Lib.hid (HF1.out T hT)
    simp only [← hT] at HWO HCN
    simp only [SetsAt] at HWO
    obtain ⟨tl, htl⟩ : ∃ tl, tl = T.length := ⟨_, rfl⟩
    simp only [← htl] at HWO HF
    have HTL := Lib.hid htl
    clear hown hg hr hf hT htl hy HF1 HTE hM hml
    go_wp2_with fail
    rw [← hw2]
    clear hw2
    refine (HGS.out _ (Below.refl _ _)).mono ?_
    rintro e wg ⟨Ag, cpg, rfl, howng, hbg⟩
    have HOG := Lib.hid howng
    have kg := KX.out _ hbg
    clear howng d0 d1
    obtain ⟨d0, d1⟩ := kg
    go_wp2_with fail
    go_region_held3 (fun w' => w'.cell? ⟨w1.heap.size, 0, none⟩ = some (.int .i64 q) ∧ w'.cell? ⟨w1.heap.size, 1, none⟩ = some (.slice B n cp))
      (first | exact ⟨d0, d1⟩ | exact k3 | exact k4 | exact k5 | go_keep)
      (first
        | (go_at_call 39; refine (HB.out _ hbg.drew).mono ?_; rintro e w3 ⟨rfl, hown3, hb3⟩; have b3 := bfrom hbg.drew hb3; have HOG3 := Lib.hid (owns_now (World.ownsRow.drew HOG.out) hb3); have k3 := KX.out _ b3; have HO3 := Lib.hid hown3; clear hown3)
        | (go_at_call 38; refine (HWO.out _ _ _ _ _ b3 HO3.out HOG3.out).mono ?_; rintro e w4 ⟨A4, cp4, rfl, hown4, hb4⟩; have b4 := bfrom b3 hb4; have k4 := KX.out _ b4; have HO4 := Lib.hid hown4; clear hown4)
        | (go_at_call 37; refine (listsOf_any T _ cp4 tl A4 _ HTL.out HF.out.1 HF.out.2 HO4.out).mono ?_; rintro e w5 ⟨B5, cp5, rfl, hss5, hb5⟩; have b5 := bfrom b4 hb5; have k5 := KX.out _ b5; have HSS := Lib.hid hss5; clear hss5))
    all_goals
      have hz4 := (bfrom g2 b4).size
      go_wp2
      go_ret2
      rw [HCN.out, HGB.out]
      exact ⟨_, rfl, RSS.lies (SSb.rss (SSb.less HSS.out hz4) ⟨B5, cp5, by rw [setsL_len, ← HTL.out]; rfl⟩) (Nat.le_refl _), bfrom g2 b5⟩
  · have HGB := Lib.hid hg
    have HCN := Lib.hid (shiftGreatestL_no hg)
    clear hg
    go_wp2
    go_ret2
    rw [HCN.out, HGB.out]
    exact Ans.noneSS (g1.alloc g1.size _)
end Go.Proofs.YtgilbenbaefgfaaGreat
