/- The model's IsComplete and UnderMembers. -/
import Derived.Test.YtgilbenbaefgfaaDb
import Derived.Test.YtgilbenbaefgfaaDc
import Derived.Deep.RegionHeld3
import Derived.Outline
namespace Go.Proofs.Ytgilbenbaefgfaa
open Go.RowKit Vo

set_option maxRecDepth 20000 in
set_option maxHeartbeats 4000000 in
theorem deComplete_any (p : Nat → Bool) (n g cap : Nat) (w : World) (hn : n < 10) (hw : Own w g 4 (2^n) (fun s => .bool (p s))) :
    Calls Try.prog 51 #[.slice (some ⟨g, 0, none⟩) (2^n : Nat) cap, .int .i64 n] w fun e w' => e = .returned (.bool (compB (worthP p n) n)) ∧ w = w' := by
  have HP := Lib.hid (fun i j (hi : i < n) (hj : j < n) => deUnlike_any p n i j g cap w hn hi hj hw)
  clear hw
  obtain ⟨N, hN⟩ : ∃ N, 2^n = N := ⟨_, rfl⟩
  rw [hN] at HP ⊢
  clear hN
  obtain ⟨f, hf⟩ : ∃ f, f = worthP p n := ⟨_, rfl⟩
  simp only [← hf] at HP
  rw [← hf]
  clear hf
  have HF := Lib.hid (fun i (hi : i < n) (h : allK (fun j => f i j || f j i) i = false) => show compB f n = false from allK_false i hi h)
  have HT := Lib.hid (show (∀ i, i < n → allK (fun j => f i j || f j i) i = true) → compB f n = true from fun h => allK_iff.2 h)
  obtain ⟨r, hr⟩ : ∃ r, r = compB f n := ⟨_, rfl⟩
  rw [← hr] at HF HT ⊢
  clear hr
  go_enter Try.func51, Try.ntmps51
  go_wp2
  go_loopw [5] (fun x wr => ∃ i : Nat, i ≤ n ∧ x = .int .i64 i ∧ (∀ t, t < i → allK (fun j => f t j || f j t) t = true) ∧ wr = w) (fun x _ => n - (intOf x).toNat)
  case atStart => exact ⟨0, Nat.zero_le _, rfl, fun _ h => by omega, rfl⟩
  case round =>
    obtain ⟨i, hi, rfl, hall, rfl⟩ := hrel
    have HA := Lib.hid hall
    clear hall
    by_cases hlt : i < n
    · have HSTEP := Lib.hid (show allK (fun j => f i j || f j i) i = true → ∀ t, t < i + 1 → allK (fun j => f t j || f j t) t = true from fun h t ht => by
        by_cases e : t = i
        · subst e; exact h
        · exact HA.out t (by omega))
      go_wp2
      go_loopw [6] (fun x wi => ∃ j : Nat, j ≤ i ∧ x = .int .i64 j ∧ allK (fun j => f i j || f j i) j = true ∧ wi = wr) (fun x _ => i - (intOf x).toNat)
      case atStart => exact ⟨0, Nat.zero_le _, rfl, rfl, rfl⟩
      case round =>
        obtain ⟨j, hj, rfl, hall2, rfl⟩ := hrel
        have HA2 := Lib.hid hall2
        clear hall2
        by_cases hlt2 : j < i
        · have HPJ := Lib.hid (HP.out i j hlt (by omega))
          have HAF := Lib.hid (fun (h : (f i j || f j i) = false) => HF.out i hlt (allK_false j hlt2 h))
          have HAS := Lib.hid (show (f i j || f j i) = true → allK (fun j => f i j || f j i) (j+1) = true from fun h => by simp only [allK]; rw [HA2.out, h]; rfl)
          generalize f i j = a at *
          generalize f j i = b at *
          cases hab : (a || b)
          · have HR := Lib.hid (HAF.out hab)
            have hu : (!a && !b) = true := by revert hab; cases a <;> cases b <;> simp
            rw [hu] at HPJ
            clear hab hu
            go_wp2_with fail
            refine HPJ.out.mono ?_
            rintro e w3 ⟨rfl, rfl⟩
            go_wp2
            go_ret
            exact ⟨by rw [HR.out]; rfl, rfl⟩
          · have HS := Lib.hid (HAS.out hab)
            have hu : (!a && !b) = false := by revert hab; cases a <;> cases b <;> simp
            rw [hu] at HPJ
            clear hab hu
            go_wp2_with fail
            refine HPJ.out.mono ?_
            rintro e w3 ⟨rfl, rfl⟩
            go_wp2
            go_roundw
            case rel => exact ⟨j + 1, by omega, by go_num, HS.out, trivial⟩
            case measure => simp [intOf]; omega
        · obtain rfl : j = i := by omega
          have HS := Lib.hid (HSTEP.out HA2.out)
          go_wp2
          go_roundw
          case rel => exact ⟨j + 1, by omega, by go_num, HS.out, trivial⟩
          case measure => simp [intOf]; omega
    · obtain rfl : i = n := by omega
      have HR := Lib.hid (HT.out HA.out)
      go_wp2
      go_ret
      exact ⟨by rw [HR.out]; rfl, rfl⟩

set_option maxRecDepth 20000 in
set_option maxHeartbeats 2000000 in
theorem sIsComplete_any (m : Int) (A : Option Addr) (n cap : Nat) (L : List (List Int)) (w : World) (hl : n ≤ 1048576) (hcap : n ≤ cap) (hk : ListsR w A n L) :
    Calls Try.prog 20 #[.agg #[.int .i64 m, .slice A n cap]] w fun e w' => e = .returned (.tuple #[.bool (compG m L), .bool (goodG m L)]) ∧ Below w.heap.size w w' := by
  have HK := Lib.hid (hk.now (below1 w (.cells #[.int .i64 m, .slice A n cap] 28)))
  clear hk
  have hx := BoxT.new 28 w (.int .i64 m) (.slice A n cap)
  have hb0 := below1 w (.cells #[.int .i64 m, .slice A n cap] 28)
  obtain ⟨c0, c1⟩ := hx.cells
  cases hg : goodG m L with
  | true =>
    obtain ⟨h1, h9, _, hr, _⟩ := goodG_parts hg
    obtain ⟨q, rfl⟩ : ∃ q : Nat, m = q := ⟨m.toNat, by omega⟩
    rw [Int.toNat_natCast] at hr
    have hq9 : q ≤ 9 := by omega
    have HGB := Lib.hid hg
    have HCN := Lib.hid (show compG (q : Int) L = compB (worthP (wnL (setsN L)) q) q from compG_yes hg)
    have HGA := Lib.hid (fun W h => gmAll_any q A n cap L W hq9 hl hr h)
    have HDC := Lib.hid (fun g cap W h => deComplete_any (wnL (setsN L)) q g cap W (by omega) h)
    clear hg hr
    obtain ⟨N, hN⟩ : ∃ N, N = 2^q := ⟨_, rfl⟩
    rw [← hN] at HGA HDC
    clear hN
    obtain ⟨r, hr⟩ : ∃ r, r = compB (worthP (wnL (setsN L)) q) q := ⟨_, rfl⟩
    simp only [← hr] at HDC
    rw [← hr] at HCN
    clear hr
    go_enter Try.func20, Try.ntmps20
    go_wp2_with fail
    refine (gmGood_any q A n cap L _ hl hcap HK.out).mono ?_
    rintro e w1 ⟨rfl, hb1⟩
    rw [HGB.out]
    have g1 := bfrom hb0 hb1
    have hx1 := hx.now hb1
    clear c0 c1
    obtain ⟨c0, c1⟩ := hx1.cells
    have KX := Lib.hid (fun W (h : Below w1.heap.size w1 W) => (hx1.now h).cells)
    go_wp2_with fail
    go_region_held3 (fun w' => w'.cell? ⟨w.heap.size, 0, none⟩ = some (.int .i64 q) ∧ w'.cell? ⟨w.heap.size, 1, none⟩ = some (.slice A n cap))
      (first | exact ⟨c0, c1⟩ | exact k3 | go_keep)
      (first
        | (go_at_call 43; refine (HGA.out _ ((HK.out.now hb1).now (Below.refl _ _).drew).lists).mono ?_; rintro e w3 ⟨rfl, hown, hb3⟩; have HO := Lib.hid hown; clear hown; have b3 := bfrom (Below.refl _ w1).drew hb3; have k3 := KX.out _ b3)
        | (go_at_call 51; refine (HDC.out _ _ _ HO.out).mono ?_; rintro e w4 ⟨rfl, rfl⟩))
    all_goals
      go_wp2
      go_ret2
      exact ⟨by rw [HCN.out]; rfl, bfrom g1 b3⟩
  | false =>
    have HGB := Lib.hid hg
    have HCN := Lib.hid (compG_no hg)
    clear hg
    go_enter Try.func20, Try.ntmps20
    go_wp2_with fail
    refine (gmGood_any m A n cap L _ hl hcap HK.out).mono ?_
    rintro e w1 ⟨rfl, hb1⟩
    rw [HGB.out]
    go_wp2
    go_ret2
    exact ⟨by rw [HCN.out]; rfl, bfrom hb0 hb1⟩

theorem agK_self (f : Nat → Nat → Bool) (k : Nat) : agK f k 1 k = false := by unfold agK cmpK; cases f k k <;> rfl
theorem agK_one (f : Nat → Nat → Bool) (k j : Nat) : agK f k 1 j = (f k j && !f j k) := by unfold agK cmpK; cases f k j <;> cases f j k <;> rfl
theorem selK_mem (f : Nat → Bool) (j : Nat) (h : j < 9) : mem (selK f (j+1)) 9 = if f j then mem (selK f j) 9 ++ [(j : Int)] else mem (selK f j) 9 := by
  simp only [selK]
  split
  · exact mem_or (selK_lt f j) h
  · rfl

set_option maxRecDepth 20000 in
set_option maxHeartbeats 8000000 in
theorem sUnderMembers_any (m : Int) (A : Option Addr) (n cap : Nat) (L : List (List Int)) (x : Int) (w : World) (hl : n ≤ 1048576) (hcap : n ≤ cap) (hk : ListsR w A n L) (_hxw : (Lit.int .i64 x).wf = true) :
    Calls Try.prog 22 #[.agg #[.int .i64 m, .slice A n cap], .int .i64 x] w fun e w' => Ans (RS (underL m L x)) (memG m L x) w w' e := by
  obtain ⟨i0, hi0, hz0, hz1, hz2⟩ := infoIntParts
  have HK := Lib.hid (hk.now (below1 w (.cells #[.int .i64 m, .slice A n cap] 28)))
  clear hk
  have hx := BoxT.new 28 w (.int .i64 m) (.slice A n cap)
  have hb0 := below1 w (.cells #[.int .i64 m, .slice A n cap] 28)
  obtain ⟨c0, c1⟩ := hx.cells
  cases hg : goodG m L with
  | false =>
    have HGB := Lib.hid hg
    have HMB := Lib.hid (memG_bad (x := x) hg)
    have HCN := Lib.hid (underL_no HMB.out)
    clear hg
    go_enter Try.func22, Try.ntmps22
    go_wp2_with fail
    refine (gmGood_any m A n cap L _ hl hcap HK.out).mono ?_
    rintro e w1 ⟨rfl, hb1⟩
    rw [HGB.out]
    go_wp2
    go_ret2
    rw [HCN.out, HMB.out]
    exact noInts (bfrom hb0 hb1)
  | true =>
    obtain ⟨h1, h9, _, hr, _⟩ := goodG_parts hg
    obtain ⟨q, rfl⟩ : ∃ q : Nat, m = q := ⟨m.toNat, by omega⟩
    rw [Int.toNat_natCast] at hr
    have hq9 : q ≤ 9 := by omega
    have HGB := Lib.hid hg
    have HMG := Lib.hid (memG_good (x := x) hg)
    cases hin : inB x 0 ((q : Int) - 1) with
    | false =>
      have HIN := Lib.hid hin
      have HMB := Lib.hid (show memG (q : Int) L x = false from by rw [HMG.out, hin])
      have HCN := Lib.hid (underL_no HMB.out)
      clear hg hin
      go_enter Try.func22, Try.ntmps22
      go_wp2_with fail
      refine (gmGood_any q A n cap L _ hl hcap HK.out).mono ?_
      rintro e w1 ⟨rfl, hb1⟩
      rw [HGB.out]
      have hx1 := hx.now hb1
      clear c0 c1
      obtain ⟨c0, c1⟩ := hx1.cells
      go_wp2_with fail
      refine (l1In_any x 0 ((q : Int) - 1) _).mono ?_
      rintro e w2 ⟨rfl, rfl⟩
      rw [HIN.out]
      go_wp2
      go_ret2
      rw [HCN.out, HMB.out]
      exact noInts (bfrom hb0 hb1)
    | true =>
      have HIN := Lib.hid hin
      have hmg : memG (q : Int) L x = true := by rw [HMG.out, hin]
      obtain ⟨hx0, hxq⟩ := (inside q x).1 hin
      obtain ⟨k, rfl⟩ : ∃ k : Nat, x = k := ⟨x.toNat, by omega⟩
      have hkq : k < q := by omega
      have HMB := Lib.hid hmg
      have HCN := Lib.hid (show underL (q : Int) L (k : Int) = mem (selK (agK (worthP (wnL (setsN L)) q) k 1) q) 9 from underL_yes hmg)
      have HGA := Lib.hid (fun W h => gmAll_any q A n cap L W hq9 hl hr h)
      have HDG := Lib.hid (fun j g cap W (hj : j < q) h => deGreater_any (wnL (setsN L)) q k j g cap W (by omega) hkq hj h)
      clear hg hr hin hmg
      obtain ⟨N, hN⟩ : ∃ N, N = 2^q := ⟨_, rfl⟩
      rw [← hN] at HGA HDG
      clear hN
      obtain ⟨f, hf⟩ : ∃ f, f = worthP (wnL (setsN L)) q := ⟨_, rfl⟩
      simp only [← hf] at HDG
      rw [← hf] at HCN
      clear hf
      simp only [← agK_one] at HDG
      have HSM := Lib.hid (fun j (h : j < 9) => selK_mem (agK f k 1) j h)
      have HML := Lib.hid (fun j => mem_len (selK (agK f k 1) j) 9)
      have HSELF := Lib.hid (agK_self f k)
      obtain ⟨p, hp⟩ : ∃ p, p = agK f k 1 := ⟨_, rfl⟩
      rw [← hp] at HDG HCN HSM HML HSELF
      clear hp
      obtain ⟨M, hM⟩ : ∃ M : Nat → List Int, M = fun j => mem (selK p j) 9 := ⟨_, rfl⟩
      have HMD := Lib.hid (fun j => show mem (selK p j) 9 = M j from by rw [hM])
      have HM0 := Lib.hid (show M 0 = [] from by rw [hM]; exact mem_zero 9)
      simp only [HMD.out] at HCN HSM HML
      clear hM HMD
      go_enter Try.func22, Try.ntmps22
      go_wp2_with fail
      refine (gmGood_any q A n cap L _ hl hcap HK.out).mono ?_
      rintro e w1 ⟨rfl, hb1⟩
      rw [HGB.out]
      have g1 := bfrom hb0 hb1
      have hx1 := hx.now hb1
      clear c0 c1
      obtain ⟨c0, c1⟩ := hx1.cells
      go_wp2_with fail
      refine (l1In_any k 0 ((q : Int) - 1) _).mono ?_
      rintro e w2 ⟨rfl, rfl⟩
      rw [HIN.out]
      go_wp2_with fail
      refine (HGA.out _ (HK.out.now hb1).lists).mono ?_
      rintro e w3 ⟨rfl, hown, hb3⟩
      have HO := Lib.hid hown
      have hol := hown.lt
      have HX3 := Lib.hid (hx1.now hb3)
      have g3 := bfrom g1 hb3
      clear hown hx1 hx c0 c1
      obtain ⟨c0, c1⟩ := HX3.out.cells
      go_wp2
      go_loopw [7, 8] (fun v x wr => ∃ (j : Nat) (A : Option Addr) (cp : Nat), j ≤ q ∧ x = .int .i64 j ∧ v = .slice A (M j).length cp ∧ wr.ownsRow w3.heap.size 3 1 (.slice A (M j).length cp) (M j).length ((M j).map (Value.int .i64)) ∧ Below w3.heap.size w3 wr) (fun _ x _ => q - (intOf x).toNat)
      case atStart => exact ⟨0, none, 0, Nat.zero_le _, rfl, by rw [HM0.out]; rfl, by rw [HM0.out]; exact World.ownsRow_nil _ _ _ _, Below.refl _ _⟩
      case round =>
        obtain ⟨j, A, cp, hj, rfl, rfl, hown, hbr⟩ := hrel
        have HOR := Lib.hid hown
        clear hown
        have hszr := hbr.size
        have HXR := Lib.hid (HX3.out.now hbr)
        obtain ⟨d0, d1⟩ := HXR.out.cells
        have hlen := HML.out j
        by_cases hlt : j < q
        · have HST := Lib.hid (HSM.out j (by omega))
          have HDJ := Lib.hid (HDG.out j (w1.heap.size + 1) N _ hlt (HO.out.below hbr hol))
          obtain ⟨K, hK⟩ : ∃ K, K = M j := ⟨_, rfl⟩
          rw [← hK] at HOR HST hlen ⊢
          clear hK
          obtain ⟨ml, hml⟩ : ∃ z, z = K.length := ⟨_, rfl⟩
          have HML2 := Lib.hid hml
          rw [← hml] at HOR hlen ⊢
          clear hml
          by_cases hjk : j = k
          · subst hjk
            have HE := Lib.hid (show M (j+1) = K from by rw [HST.out, HSELF.out]; rfl)
            go_wp2
            go_roundw
            case rel => exact ⟨j + 1, A, cp, by omega, by go_num, by rw [HE.out, HML2.out], by rw [HE.out]; simpa [HML2.out] using HOR.out, hbr⟩
            case measure => simp [intOf]; omega
          · have hne : ((j : Int) == (k : Int)) = false := beq_false_of_ne (by omega)
            have hne2 : ((j : Int) != (k : Int)) = true := by rw [bne_iff_ne]; omega
            cases hpj : p j
            · rw [hpj] at HDJ
              have HE := Lib.hid (show M (j+1) = K from by rw [HST.out, hpj]; rfl)
              clear hpj hjk
              go_wp2_with (go_at_call 47; refine HDJ.out.mono ?_; rintro e w4 ⟨rfl, rfl⟩)
              go_roundw
              case rel => exact ⟨j + 1, A, cp, by omega, by go_num, by rw [HE.out, HML2.out], by rw [HE.out]; simpa [HML2.out] using HOR.out, hbr⟩
              case measure => simp [intOf]; omega
            · rw [hpj] at HDJ
              have HE := Lib.hid (show M (j+1) = K ++ [(j : Int)] from by rw [HST.out, hpj]; rfl)
              clear hpj hjk
              go_wp2_with (first
                | (go_at_call 47; refine HDJ.out.mono ?_; rintro e w4 ⟨rfl, rfl⟩)
                | (at_builtin; refine wpList_append_lies _ rfl _ _ _ rfl w3.heap.size 3 i0 _ 1 8 Try.underlying36 hi0 hz0 hz1 hz2 rfl (by decide) (.slice A ml cp) ml (K.map (Value.int .i64)) rfl (HOR.out.alloc _) ⟨wr.heap.size, 0, none⟩ 1 1 [.int .i64 (j : Int)] rfl rfl (World.news_of_block (cs := #[.int .i64 (j : Int)]) (t := 3) (fr := (0, 0)) (heap_alloc_new wr _)) (by simp [Value.oneCell']) (by omega) (by unfold maxLen; omega) (by omega) (by simp; omega) (wr.heap.size + 1) (by simp) ?_; intro gg cap2 w4 hown4 hgrow hat hlt4))
              have hb4 : Below w3.heap.size w3 w4 := (hbr.alloc hszr (.cells #[.int .i64 (j : Int)] 3)).grown hgrow (by simp; omega) fun i hi => owns_le HOR.out hi
              go_roundw
              case rel => exact ⟨j + 1, some ⟨gg, 0, none⟩, cap2, by omega, by go_num, by rw [HE.out]; simp [HML2.out], by rw [HE.out]; simpa [HML2.out] using hown4, hb4⟩
              case measure => simp [intOf]; omega
        · obtain rfl : j = q := by omega
          go_wp2
          go_ret2
          rw [HCN.out, HMB.out]
          exact ⟨_, rfl, RS.lies (RS.of_own (owns_less HOR.out g3.size)) (Nat.le_refl _), bfrom g3 hbr⟩
end Go.Proofs.Ytgilbenbaefgfaa
