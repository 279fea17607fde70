/- Texts of I1, I2. -/
import Derived.Test.YtnldodnpakpeeaaGreatPkQ14
import Derived.Test.YtnldodnpakpeeaaGreatPkQ05
import Derived.Test.YtnldodnpakpeeaaGreatPkQ08
import Derived.Test.YtnldodnpakpeeaaGreatPkQ01
namespace Go.Proofs.YtnldodnpakpeeaaGreat.Vo

theorem rise_before {n : Int} {xs : List Int} : ∀ {m : Nat}, RiseK n xs (m+1) → ∀ i, i < m → xs.getD i 0 < xs.getD m 0
  | 0, _, i, hi => by omega
  | m+1, h, i, hi => by
    have h1 := (h (m+1) (by omega)).2.2 (by omega)
    simp only [Nat.add_sub_cancel] at h1
    by_cases e : i = m
    · subst e; exact h1
    · have h2 := rise_before (h.mono (by omega)) i (show i < m by omega)
      omega
theorem rise_take {n : Nat} {xs : List Int} (hn : n ≤ 9) : ∀ {m : Nat}, m ≤ xs.length → RiseK n xs m → mem (ofK xs m) 9 = xs.take m
  | 0, _, _ => by simp [ofK, mem_zero]
  | m+1, hl, h => by
    have ih := rise_take hn (m := m) (by omega) (h.mono (by omega))
    have hm := h m (by omega)
    have hlt : ofK xs m < 2 ^ (xs.getD m 0).toNat := ofK_lt (n := (xs.getD m 0).toNat) (fun i hi => by
      have h1 := rise_before h i hi
      have h2 := h i (by omega)
      exact ⟨h2.1, by omega, h2.2.2⟩)
    have hj : (xs.getD m 0).toNat < 9 := by omega
    simp only [ofK]
    rw [mem_or hlt hj, ih, List.take_add_one, List.getElem?_eq_getElem (by omega)]
    congr 1
    rw [List.getD_eq_getElem?_getD, List.getElem?_eq_getElem (by omega)] at hm ⊢
    simp at hm ⊢
    omega
theorem rise_mem {n : Nat} {xs : List Int} (hn : n ≤ 9) (h : RiseK n xs xs.length) : mem (ofK xs xs.length) 9 = xs := by
  have := rise_take hn (Nat.le_refl _) h
  rwa [List.take_length] at this
theorem ofK_zero {n : Nat} {xs : List Int} (hn : n ≤ 9) (h : RiseK n xs xs.length) : ofK xs xs.length = 0 ↔ xs.length = 0 := by
  constructor
  · intro e
    have := rise_mem hn h
    rw [e, mem_zero] at this
    rw [← this]; rfl
  · intro e; rw [e]; rfl

/-- Chains of sets of nine members, all sets among them. -/
def chains9 : List (List Nat) := [[0, 1, 3, 7, 15, 31, 63, 127, 255, 511], [2, 6, 14, 30, 62, 126, 254, 510], [4, 5, 13, 29, 61, 125, 253, 509], [8, 9, 11, 27, 59, 123, 251, 507], [16, 17, 19, 23, 55, 119, 247, 503], [32, 33, 35, 39, 47, 111, 239, 495], [64, 65, 67, 71, 79, 95, 223, 479], [128, 129, 131, 135, 143, 159, 191, 447], [256, 257, 259, 263, 271, 287, 319, 383], [10, 26, 58, 122, 250, 506], [12, 28, 60, 124, 252, 508], [18, 22, 54, 118, 246, 502], [20, 21, 53, 117, 245, 501], [24, 25, 57, 121, 249, 505], [34, 38, 46, 110, 238, 494], [36, 37, 45, 109, 237, 493], [40, 41, 43, 107, 235, 491], [48, 49, 51, 115, 243, 499], [66, 70, 78, 94, 222, 478], [68, 69, 77, 93, 221, 477], [72, 73, 75, 91, 219, 475], [80, 81, 83, 87, 215, 471], [96, 97, 99, 103, 231, 487], [130, 134, 142, 158, 190, 446], [132, 133, 141, 157, 189, 445], [136, 137, 139, 155, 187, 443], [144, 145, 147, 151, 183, 439], [160, 161, 163, 167, 175, 431], [192, 193, 195, 199, 207, 463], [258, 262, 270, 286, 318, 382], [260, 261, 269, 285, 317, 381], [264, 265, 267, 283, 315, 379], [272, 273, 275, 279, 311, 375], [288, 289, 291, 295, 303, 367], [320, 321, 323, 327, 335, 351], [384, 385, 387, 391, 399, 415], [42, 106, 234, 490], [44, 108, 236, 492], [50, 114, 242, 498], [52, 116, 244, 500], [56, 120, 248, 504], [74, 90, 218, 474], [76, 92, 220, 476], [82, 86, 214, 470], [84, 85, 213, 469], [88, 89, 217, 473], [98, 102, 230, 486], [100, 101, 229, 485], [104, 105, 233, 489], [112, 113, 241, 497], [138, 154, 186, 442], [140, 156, 188, 444], [146, 150, 182, 438], [148, 149, 181, 437], [152, 153, 185, 441], [162, 166, 174, 430], [164, 165, 173, 429], [168, 169, 171, 427], [176, 177, 179, 435], [194, 198, 206, 462], [196, 197, 205, 461], [200, 201, 203, 459], [208, 209, 211, 467], [224, 225, 227, 483], [266, 282, 314, 378], [268, 284, 316, 380], [274, 278, 310, 374], [276, 277, 309, 373], [280, 281, 313, 377], [290, 294, 302, 366], [292, 293, 301, 365], [296, 297, 299, 363], [304, 305, 307, 371], [322, 326, 334, 350], [324, 325, 333, 349], [328, 329, 331, 347], [336, 337, 339, 343], [352, 353, 355, 359], [386, 390, 398, 414], [388, 389, 397, 413], [392, 393, 395, 411], [400, 401, 403, 407], [416, 417, 419, 423], [448, 449, 451, 455], [170, 426], [172, 428], [178, 434], [180, 436], [184, 440], [202, 458], [204, 460], [210, 466], [212, 468], [216, 472], [226, 482], [228, 484], [232, 488], [240, 496], [298, 362], [300, 364], [306, 370], [308, 372], [312, 376], [330, 346], [332, 348], [338, 342], [340, 341], [344, 345], [354, 358], [356, 357], [360, 361], [368, 369], [394, 410], [396, 412], [402, 406], [404, 405], [408, 409], [418, 422], [420, 421], [424, 425], [432, 433], [450, 454], [452, 453], [456, 457], [464, 465], [480, 481]]
def comparB (s t : Nat) : Bool := decide (s &&& t = s) || decide (s &&& t = t)
theorem chains9_len : chains9.length = 126 := by decide +kernel
theorem chains9_chain : chains9.all (fun c => c.all fun s => c.all fun t => comparB s t) = true := by decide +kernel
theorem chains9_all : (List.range 512).all (fun s => chains9.any fun c => c.contains s) = true := by decide +kernel

theorem sperner_any : ∀ (C : List (List Nat)) (l : List Nat), l.Nodup → (∀ s ∈ l, ∀ t ∈ l, s ≠ t → comparB s t = false) → (∀ s ∈ l, ∃ c ∈ C, s ∈ c) → (∀ c ∈ C, ∀ s ∈ c, ∀ t ∈ c, comparB s t = true) → l.length ≤ C.length
  | [], l, _, _, h, _ => by
    cases l with
    | nil => simp
    | cons s l => obtain ⟨c, hc, _⟩ := h s (by simp); cases hc
  | c :: C, l, hd, ha, h, hc => by
    by_cases hx : ∃ x ∈ l, x ∈ c
    · obtain ⟨x, hx, hxc⟩ := hx
      have := sperner_any C (l.erase x) (hd.erase x) (fun s hs t ht => ha s (List.mem_of_mem_erase hs) t (List.mem_of_mem_erase ht)) (fun s hs => by
        obtain ⟨hne, hs2⟩ := (hd.mem_erase_iff).1 hs
        obtain ⟨c2, hc2, hsc⟩ := h s hs2
        rcases List.mem_cons.1 hc2 with rfl | hc2
        · have h1 := hc _ (by simp) s hsc x hxc
          rw [ha s hs2 x hx hne] at h1; cases h1
        · exact ⟨c2, hc2, hsc⟩) (fun c2 hc2 => hc c2 (by simp [hc2]))
      rw [List.length_erase_of_mem hx] at this
      simp; omega
    · have := sperner_any C l hd ha (fun s hs => by
        obtain ⟨c2, hc2, hsc⟩ := h s hs
        rcases List.mem_cons.1 hc2 with rfl | hc2
        · exact absurd ⟨s, hs, hsc⟩ hx
        · exact ⟨c2, hc2, hsc⟩) (fun c2 hc2 => hc c2 (by simp [hc2]))
      simp; omega
theorem sperner9 (l : List Nat) (hd : l.Nodup) (h5 : ∀ s ∈ l, s < 512) (ha : ∀ s ∈ l, ∀ t ∈ l, s ≠ t → comparB s t = false) : l.length ≤ 126 := by
  rw [← chains9_len]
  refine sperner_any chains9 l hd ha (fun s hs => ?_) (fun c hc s hs t ht => ?_)
  · have := List.all_eq_true.1 chains9_all s (List.mem_range.2 (h5 s hs))
    obtain ⟨c, hc, h⟩ := List.any_eq_true.1 this
    exact ⟨c, hc, by simpa using h⟩
  · exact List.all_eq_true.1 (List.all_eq_true.1 (List.all_eq_true.1 chains9_chain c hc) s hs) t ht

/-- The sets that lists tell. -/
def setsN (L : List (List Int)) : List Nat := L.map fun l => ofK l l.length
def inS (S : List Nat) (s : Nat) : Bool := decide (s ∈ S)
/-- Are all lists sets of n members, none of them empty? -/
def rowsB (n : Nat) (L : List (List Int)) : Bool := L.all fun l => decide (l.length ≠ 0) && riseB n l l.length
theorem rowsB_row {n : Nat} {L : List (List Int)} (h : rowsB n L = true) {l : List Int} (hl : l ∈ L) : l.length ≠ 0 ∧ RiseK n l l.length := by
  have := List.all_eq_true.1 h l hl
  simp only [Bool.and_eq_true, decide_eq_true_eq] at this
  exact ⟨this.1, of_decide_eq_true this.2⟩
theorem setsN_lt {n : Nat} {L : List (List Int)} (_hn : n ≤ 9) (h : rowsB n L = true) : ∀ s ∈ setsN L, s < 2 ^ n := fun s hs => by
  obtain ⟨l, hl, rfl⟩ := List.mem_map.1 hs
  exact ofK_lt (rowsB_row h hl).2
theorem setsN_512 {n : Nat} {L : List (List Int)} (hn : n ≤ 9) (h : rowsB n L = true) : ∀ s ∈ setsN L, s < 512 := fun s hs => by
  have h1 := setsN_lt hn h s hs
  have h2 := pow_lt hn
  omega
theorem setsN_mem {n : Nat} {L : List (List Int)} (hn : n ≤ 9) (h : rowsB n L = true) : (setsN L).map (fun s => mem s 9) = L := by
  unfold setsN
  rw [List.map_map]
  conv => rhs; rw [← List.map_id L]
  exact List.map_congr_left fun l hl => rise_mem hn (rowsB_row h hl).2
/-- Is this a game? -/
def goodG (m : Int) (L : List (List Int)) : Bool := decide (1 ≤ m ∧ m ≤ 9 ∧ L ≠ []) && (rowsB m.toNat L && decide (setsN L = leastL (inS (setsN L))))
/-- What the model asks: each list behind the one before, none with another one as a part. -/
def ordK (L : List (List Int)) (S : List Nat) (k : Nat) : Prop := ∀ i, i < k → (1 ≤ i → before (L.getD (i-1) []) (L.getD i []) = true) ∧ ∀ j, j < i → S.getD i 0 &&& S.getD j 0 ≠ S.getD i 0 ∧ S.getD i 0 &&& S.getD j 0 ≠ S.getD j 0

theorem inS_iff {S : List Nat} {s : Nat} : inS S s = true ↔ s ∈ S := decide_eq_true_iff
theorem getD_mem {S : List Nat} {i : Nat} (h : i < S.length) : S.getD i 0 ∈ S := by
  rw [List.getD_eq_getElem?_getD, List.getElem?_eq_getElem h]; exact List.getElem_mem h
theorem sorted_of_steps {L : List (List Int)} (h : ∀ i, i < L.length → 1 ≤ i → before (L.getD (i-1) []) (L.getD i []) = true) : Sorted L := by
  have key : ∀ d i, i + d + 1 < L.length → before (L.getD i []) (L.getD (i + d + 1) []) = true := by
    intro d
    induction d with
    | zero => intro i hi; have := h (i+1) hi (by omega); simpa using this
    | succ d ih =>
      intro i hi
      have h1 := ih i (by omega)
      have h2 := h (i + d + 1 + 1) hi (by omega)
      rw [show i + d + 1 + 1 - 1 = i + d + 1 from by omega] at h2
      exact before_trans h1 h2
  unfold Sorted
  rw [List.pairwise_iff_getElem]
  intro i j hi hj hij
  have := key (j - i - 1) i (by omega)
  rw [show i + (j - i - 1) + 1 = j from by omega] at this
  rw [List.getD_eq_getElem?_getD, List.getElem?_eq_getElem hi, List.getD_eq_getElem?_getD, List.getElem?_eq_getElem hj] at this
  exact this
theorem ordK_sets {n : Nat} {L : List (List Int)} (hn : n ≤ 9) (hr : rowsB n L = true) : ordK L (setsN L) L.length ↔ setsN L = leastL (inS (setsN L)) := by
  have hS : ∀ s, inS (setsN L) s = true → s < 512 := fun s h => setsN_512 hn hr s (inS_iff.1 h)
  have hL := setsN_mem hn hr
  have hlen : (setsN L).length = L.length := by simp [setsN]
  constructor
  · intro h
    refine leastL_unique hS (by rw [hL]; exact sorted_of_steps fun i hi h1 => (h i hi).1 h1) fun s => ?_
    rw [minB_iff hS, inS_iff]
    constructor
    · intro hs
      refine ⟨hs, fun t ht hne hp => ?_⟩
      rw [inS_iff] at ht
      obtain ⟨i, hi, rfl⟩ := List.mem_iff_getElem.1 hs
      obtain ⟨j, hj, rfl⟩ := List.mem_iff_getElem.1 ht
      have e1 : (setsN L)[i] = (setsN L).getD i 0 := by rw [List.getD_eq_getElem?_getD, List.getElem?_eq_getElem hi]; rfl
      have e2 : (setsN L)[j] = (setsN L).getD j 0 := by rw [List.getD_eq_getElem?_getD, List.getElem?_eq_getElem hj]; rfl
      rw [e1, e2] at hp hne
      rcases Nat.lt_trichotomy i j with h1 | h1 | h1
      · have := ((h j (by omega)).2 i h1).1
        rw [Nat.and_comm] at this
        exact this hp
      · subst h1; exact hne rfl
      · exact ((h i (by omega)).2 j h1).2 hp
    · exact fun h => h.1
  · intro h i hi
    have hs : Sorted L := by
      have := filter_sorted 9 (minB (inS (setsN L)))
      have e : (setsN L).map (fun t => mem t 9) = ((inOrder 9).filter (minB (inS (setsN L)))).map fun t => mem t 9 := congrArg (fun l => l.map fun t => mem t 9) h
      rw [← e, hL] at this
      exact this
    unfold Sorted at hs
    rw [List.pairwise_iff_getElem] at hs
    have hnb : ∀ a b, a < b → b < L.length → before (L.getD a []) (L.getD b []) = true := fun a b hab hb => by
      have := hs a b (by omega) hb hab
      rw [List.getD_eq_getElem?_getD, List.getElem?_eq_getElem (by omega : a < L.length), List.getD_eq_getElem?_getD, List.getElem?_eq_getElem hb]
      exact this
    refine ⟨fun h1 => hnb (i-1) i (by omega) hi, fun j hj => ?_⟩
    have hne : (setsN L).getD i 0 ≠ (setsN L).getD j 0 := fun e => by
      have h1 := hnb j i hj hi
      have ei : mem ((setsN L).getD i 0) 9 = L.getD i [] := by
        conv => rhs; rw [← hL]
        rw [List.getD_eq_getElem?_getD, List.getD_eq_getElem?_getD, List.getElem?_map, List.getElem?_eq_getElem (by omega)]; rfl
      have ej : mem ((setsN L).getD j 0) 9 = L.getD j [] := by
        conv => rhs; rw [← hL]
        rw [List.getD_eq_getElem?_getD, List.getD_eq_getElem?_getD, List.getElem?_map, List.getElem?_eq_getElem (by omega)]; rfl
      rw [← ei, ← ej, e, before_irrefl] at h1; cases h1
    have mi : minB (inS (setsN L)) ((setsN L).getD i 0) = true := (mem_leastL hS).1 (by rw [← h]; exact getD_mem (by omega))
    have mj : minB (inS (setsN L)) ((setsN L).getD j 0) = true := (mem_leastL hS).1 (by rw [← h]; exact getD_mem (by omega))
    refine ⟨fun e => ?_, fun e => ?_⟩
    · exact ((minB_iff hS).1 mj).2 _ (inS_iff.2 (getD_mem (by omega))) hne (by rw [Nat.and_comm]; exact e)
    · exact ((minB_iff hS).1 mi).2 _ (inS_iff.2 (getD_mem (by omega))) (fun e => hne e.symm) e
/-- A game has no more than 126 least winning sets. -/
theorem game_126 {n : Nat} {L : List (List Int)} (hn : n ≤ 9) (hr : rowsB n L = true) (h : setsN L = leastL (inS (setsN L))) : L.length ≤ 126 := by
  have hS : ∀ s, inS (setsN L) s = true → s < 512 := fun s h => setsN_512 hn hr s (inS_iff.1 h)
  have hlen : (setsN L).length = L.length := by simp [setsN]
  rw [← hlen]
  refine sperner9 _ ?_ (setsN_512 hn hr) fun s hs t ht hne => ?_
  · have := filter_sorted 9 (minB (inS (setsN L)))
    have hnd : (leastL (inS (setsN L))).Nodup := by
      unfold Sorted at this
      rw [List.pairwise_map] at this
      exact this.imp fun {a b} hb e => by rw [e, before_irrefl] at hb; cases hb
    rw [h]; exact hnd
  · have ms : minB (inS (setsN L)) s = true := (mem_leastL hS).1 (by rw [← h]; exact hs)
    have mt : minB (inS (setsN L)) t = true := (mem_leastL hS).1 (by rw [← h]; exact ht)
    unfold comparB
    rw [Bool.or_eq_false_iff]
    refine ⟨decide_eq_false fun e => ?_, decide_eq_false fun e => ?_⟩
    · exact ((minB_iff hS).1 mt).2 s (inS_iff.2 hs) hne (by rw [Nat.and_comm]; exact e)
    · exact ((minB_iff hS).1 ms).2 t (inS_iff.2 ht) (fun e => hne e.symm) e
end Go.Proofs.YtnldodnpakpeeaaGreat.Vo

namespace Go.Proofs.YtnldodnpakpeeaaGreat
open Go.RowKit Vo

/-- A slice of slices of integers that came in: what is known of it. -/
def KSS (w : World) (A : Option Addr) (n : Nat) (L : List (List Int)) : Prop :=
  L.length = n ∧ ∃ b off, (1 ≤ n → A = some ⟨b, off, none⟩ ∧ b < w.heap.size) ∧ ∀ i, i < n → ∃ A' cap, w.cell? ⟨b, off + i, none⟩ = some (.slice A' (L.getD i []).length cap) ∧ (L.getD i []).length ≤ 9223372036854775807 ∧ Known w A' (L.getD i []).length (L.getD i [])
theorem KSS.now {w w' : World} {A : Option Addr} {n : Nat} {L : List (List Int)} (h : KSS w A n L) (hb : Below w.heap.size w w') : KSS w' A n L := by
  obtain ⟨h1, b, off, h2, h3⟩ := h
  refine ⟨h1, b, off, fun hn => ⟨(h2 hn).1, Nat.lt_of_lt_of_le (h2 hn).2 hb.size⟩, fun i hi => ?_⟩
  obtain ⟨A', cap, hc, hm, hk⟩ := h3 i hi
  exact ⟨A', cap, (hb.cell (p := ⟨b, off + i, none⟩) (h2 (by omega)).2).trans hc, hm, hk.now hb⟩

theorem totK_succ (L : List (List Int)) (k : Nat) : totK L (k+1) = totK L k + (L.getD k []).length := rfl
theorem tot_row {L : List (List Int)} {n i : Nat} (hn : L.length = n) (hi : i < n) : totK L i + (L.getD i []).length ≤ tot L := by
  have h1 : totK L (i+1) ≤ totK L n := totK_le L (by omega)
  have h2 := totK_succ L i
  have h3 : totK L n = tot L := by rw [← hn]; rfl
  omega

end Go.Proofs.YtnldodnpakpeeaaGreat
