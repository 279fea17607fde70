/- Contracts of the model's CountWins. -/
import Derived.Test.YtpcijgdpinmcmabJ2
import Derived.Test.YtpcijgdpinmcmabJ3
import Derived.Outline
namespace Go.Proofs.Ytpcijgdpinmcmab
open Go.RowKit Vo

theorem winL_winS : wnL = winS := rfl

end Go.Proofs.Ytpcijgdpinmcmab
