/- Texts of J4, J6. -/
import Derived.Test.YtnldodnpakpeeaaGreatPkQ21
import Derived.Test.YtnldodnpakpeeaaGreatPkQ22
import Derived.Outline
namespace Go.Proofs.YtnldodnpakpeeaaGreat
open Go.RowKit Vo

theorem winL_winS : wnL = winS := rfl

end Go.Proofs.YtnldodnpakpeeaaGreat

namespace Go.Proofs.YtnldodnpakpeeaaGreat
open Go.RowKit Vo

theorem proper_all (p : Nat → Bool) (q : Nat) : allK (fun s => !p s || !p (2^q - 1 - s)) (2^q) = allK (properS p q) (2^q) := rfl
theorem strong_all (p : Nat → Bool) (q : Nat) : allK (fun s => !!p (2^q - 1 - s) || !!p (2^q - 1 - (2^q - 1 - s))) (2^q) = allK (strongS p q) (2^q) :=
  allK_congr fun s hs => by
    unfold strongS co
    rw [show 2^q - 1 - (2^q - 1 - s) = s from by omega, Bool.not_not, Bool.not_not, Bool.or_comm]
end Go.Proofs.YtnldodnpakpeeaaGreat
