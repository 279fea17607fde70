/- Contract of the model's weQuota. -/
import Derived.Test.YtldpdjnedoflcabWa
import Derived.Test.YtldpdjnedoflcabS1
import Derived.Test.YtldpdjnedoflcabWb
namespace Go.Proofs.Ytldpdjnedoflcab
open Go.RowKit Vo

end Go.Proofs.Ytldpdjnedoflcab
