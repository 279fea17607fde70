/- Functions of the library that this program calls, laid: which numbers they have here. -/
import Derived.Shelf.SlLaysF
import Derived.Ground.SlsfProg
import Derived.Test.YtldpdjnedoflcaaProg
namespace Go.Proofs.Ytldpdjnedoflcaa
open Go.Shelf
end Go.Proofs.Ytldpdjnedoflcaa
