/- Whether a committee has a member. -/
import Derived.Test.YtipplbcjdcdapabDoorN13
import Derived.Outline
namespace Go.Proofs.YtipplbcjdcdapabDoor
open Go.RowKit Vo

end Go.Proofs.YtipplbcjdcdapabDoor
