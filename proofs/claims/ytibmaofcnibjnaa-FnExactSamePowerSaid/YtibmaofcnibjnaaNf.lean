/- How much SamePower's answer holds. -/
import Derived.Test.YtibmaofcnibjnaaNa
import Derived.Test.YtibmaofcnibjnaaNe
import Derived.Test.YtibmaofcnibjnaaT6
namespace Go.Proofs.Ytibmaofcnibjnaa
open Go.RowKit Vo

theorem samL_small (q : Int) (ws : List Int) (n : Nat) : tot (samL q ws n) + (samL q ws n).length ≤ 1048576 := by
  by_cases hg : Vo.Good q ws n
  · rw [samL_yes (goodB_true hg)]
    obtain ⟨h1, h2, _, h4⟩ := sam_inv (powF q ws n) n
    have hn := hg.hi
    have h3 : tot (samK (powF q ws n) n) ≤ 9 * (samK (powF q ws n) n).length := totK_small (fun i => by
      by_cases hi : i < (samP (powF q ws n) n).length
      · obtain ⟨_, _, _, _, h⟩ := h4 i hi
        omega
      · rw [List.getD_eq_getElem?_getD, List.getElem?_eq_none (by omega)]
        simp) _
    omega
  · rw [samL_no (goodB_false hg)]
    simp [tot, totK]
end Go.Proofs.Ytibmaofcnibjnaa
