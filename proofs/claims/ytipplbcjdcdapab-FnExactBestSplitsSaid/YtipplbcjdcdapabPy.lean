/- Contract of the model's GiverGains. -/
import Derived.Test.YtipplbcjdcdapabPu
import Derived.Test.YtipplbcjdcdapabPw
import Derived.Test.YtipplbcjdcdapabPo
import Derived.Outline
namespace Go.Proofs.Ytipplbcjdcdapab
open Go.RowKit Vo

end Go.Proofs.Ytipplbcjdcdapab
