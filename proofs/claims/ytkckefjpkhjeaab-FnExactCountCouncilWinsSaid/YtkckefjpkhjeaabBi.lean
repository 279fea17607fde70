/- Contracts of the model's chambers: what are some, which sets win all of them, or some. -/
import Derived.Test.YtkckefjpkhjeaabBc
import Derived.Test.YtkckefjpkhjeaabS2
import Derived.Test.YtkckefjpkhjeaabS3
import Derived.Test.YtkckefjpkhjeaabW5
import Derived.BigQuiet
namespace Go.Proofs.Ytkckefjpkhjeaab
open Go.RowKit Vo

theorem infoCell (W : World) (b o : Nat) : W.cell? ⟨b, o + 0, none⟩ = W.cell? ⟨b, o, none⟩ := rfl

end Go.Proofs.Ytkckefjpkhjeaab
