/- Contract of the model's weQuota. -/
import Derived.Test.YtipplbcjdcdapabWa
import Derived.Test.YtipplbcjdcdapabS1
import Derived.Test.YtipplbcjdcdapabWb
namespace Go.Proofs.Ytipplbcjdcdapab
open Go.RowKit Vo

end Go.Proofs.Ytipplbcjdcdapab
