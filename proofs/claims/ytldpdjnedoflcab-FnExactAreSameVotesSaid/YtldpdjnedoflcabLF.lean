/- Functions of the library that this program calls, laid: which numbers they have here. -/
import Derived.Shelf.SlLaysF
import Derived.Ground.SlsfProg
import Derived.Test.YtldpdjnedoflcabProg
namespace Go.Proofs.Ytldpdjnedoflcab
open Go.Shelf
end Go.Proofs.Ytldpdjnedoflcab
