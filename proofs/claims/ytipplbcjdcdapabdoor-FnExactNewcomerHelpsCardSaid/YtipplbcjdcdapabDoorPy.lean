/- Contract of the model's GiverGains. -/
import Derived.Test.YtipplbcjdcdapabDoorPu
import Derived.Test.YtipplbcjdcdapabDoorPw
import Derived.Test.YtipplbcjdcdapabDoorPo
import Derived.Outline
namespace Go.Proofs.YtipplbcjdcdapabDoor
open Go.RowKit Vo

end Go.Proofs.YtipplbcjdcdapabDoor
