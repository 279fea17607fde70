/- Contracts of the list of greatest sets; LeastWinning, GreatestLosing, LeastBlocking of the program. -/
import Derived.Test.YtibmaofcnibjnaaR6
import Derived.Test.YtibmaofcnibjnaaN1
import Derived.Outline
namespace Go.Proofs.Ytibmaofcnibjnaa
open Go.RowKit Vo

/-- No set that one member joins is of the kind. -/
def noneMore (p : Nat → Bool) (s : Nat) (k : Nat) : Bool := allK (fun j => !(!s.testBit j && p (s ||| 2^j))) k
/-- Is s of the kind, and no set that one member joins? -/
def greatP (p : Nat → Bool) (n : Nat) (s : Nat) : Bool := p s && noneMore p s n
theorem loses_asks2 (q : Int) (b off n cap : Nat) (ws : List Int) (w : World) (hn : n < 10) (hok : InK 0 1000 ws n) (hsl : Sl w b off n ws) :
    Asks (fun s => !winB q ws n s) 74 #[.agg #[.int .i64 q, .slice (some ⟨b, off, none⟩) n cap]] #[] n w :=
  ⟨enters_of Try.func74 (by kernel_rfl) rfl, fun W s hs hb => loses_any q b off n cap ws s W hn (by have := pow_lt (n := n) (by omega); omega) hok (hsl.now hb)⟩
def okLL (ok : Bool) (L : List (List Int)) : List (List Int) := if ok then L else []
theorem okLL_yes {ok L} (h : ok = true) : okLL ok L = L := if_pos h
theorem okLL_no {ok L} (h : ok = false) : okLL ok L = [] := if_neg (by rw [h]; simp)
theorem Ans.noneSS {w w' : World} (hb : Below w.heap.size w w') : Ans (RSS []) false w w' (.returned (.tuple #[.slice none 0 0, .bool false])) :=
  ⟨_, rfl, RSS.lies ⟨none, 0, rfl, Or.inl rfl⟩ (Nat.le_refl _), hb⟩
theorem Ans.noneSS0 {w w' : World} (hb : Below w.heap.size w w') : Ans (RSS0 []) false w w' (.returned (.tuple #[.slice none 0 0, .bool false])) :=
  ⟨_, rfl, RSS0.lies ⟨none, 0, rfl, Or.inl rfl⟩ (Nat.le_refl _), hb⟩
theorem filt_get {n : Nat} {P : Nat → Bool} (hn : n ≤ 9) : ((inOrder n).filter P).length ≤ 512 ∧ ∀ j, j < ((inOrder n).filter P).length → ((inOrder n).filter P).getD j 0 < 512 := by
  have h9 := pow_lt hn
  refine ⟨Nat.le_trans (List.length_filter_le _ _) (by rw [inOrder_len]; exact h9), fun j hj => ?_⟩
  have h1 : ((inOrder n).filter P).getD j 0 ∈ (inOrder n).filter P := by rw [List.getD_eq_getElem?_getD, List.getElem?_eq_getElem hj]; exact List.getElem_mem hj
  have := mem_inOrder.1 (List.mem_filter.1 h1).1
  omega
theorem SSb.less {base base' : Nat} {L : List (List Int)} {v : Value} {w : World} (h : SSb base L v w) (hb : base' ≤ base) : SSb base' L v w := by
  obtain ⟨xs, G, ho, h⟩ := h
  refine ⟨xs, G, owns_less ho hb, fun i hi => ?_⟩
  obtain ⟨x, hx, hr, hg⟩ := h i hi
  refine ⟨x, hx, hr, ?_⟩
  rcases hg with hg | hg
  · exact Or.inl hg
  · exact Or.inr ⟨by omega, hg.2⟩

def leastWinningL (q : Int) (ws : List Int) (n : Nat) : List (List Int) := okLL (goodB q ws n) (setsL ((inOrder n).filter (leastP (winB q ws n) n)))
def greatestLosingL (q : Int) (ws : List Int) (n : Nat) : List (List Int) := okLL (goodB q ws n) (setsL ((inOrder n).filter (greatP (fun s => !winB q ws n s) n)))
def leastBlockingL (q : Int) (ws : List Int) (n : Nat) : List (List Int) := okLL (goodB q ws n) (setsL ((inOrder n).filter (leastP (vetoP q ws n) n)))
end Go.Proofs.Ytibmaofcnibjnaa
