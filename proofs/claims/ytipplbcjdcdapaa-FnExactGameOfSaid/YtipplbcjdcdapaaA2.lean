/- Contracts of the program's told games, and of GameOf. -/
import Derived.Test.YtipplbcjdcdapaaA1
import Derived.Test.YtipplbcjdcdapaaR6
import Derived.Test.YtipplbcjdcdapaaT6
import Derived.Test.YtipplbcjdcdapaaD1
import Derived.Test.YtipplbcjdcdapaaK4
import Derived.Outline
namespace Go.Proofs.Ytipplbcjdcdapaa
open Go.RowKit Vo

end Go.Proofs.Ytipplbcjdcdapaa
